/- ShpRefCmp, RGrpEnd, put together. -/
import Derived.Test.YtdnfaoanaehjhaaGreatDoorH33
import Derived.Test.YtdnfaoanaehjhaaGreatDoorH6
import Derived.Test.YtdnfaoanaehjhaaGreatDoorH24
import Derived.Test.YtdnfaoanaehjhaaGreatDoorH25
import Derived.Lib.QuietBelow

/- The document's order of values, for every two terms. -/
namespace Go.Proofs.YtdnfaoanaehjhaaGreatDoor
open Go.RowKit Go.Sort

set_option maxRecDepth 100000 in
set_option maxHeartbeats 4000000 in
theorem rSort_calls (t : TermL) (ht : t.ok) (w : World) : Calls Tryz.prog 55 #[t.v] w fun e w' => e = .returned (.int .i64 (sortP t)) ∧ Below w.heap.size w w' := by
  have HO := Lib.hid (fun W => rOf_calls t ht W)
  have HS := Lib.hid (sortP_kind (t := t))
  clear ht
  generalize ofP t = p at HO HS
  obtain ⟨⟨v, s, d⟩, b⟩ := p
  simp only [Nm.NumL.ret, Nm.NumL.val, TermL.v] at HO HS ⊢
  generalize sortP t = S at HS ⊢
  obtain ⟨k, x, y, z⟩ := t
  dsimp only at HO HS ⊢
  by_cases h0 : k = 0
  · have HE := Lib.hid (HS.out.trans (if_pos h0))
    subst h0
    clear HO HS
    go_enter Tryz.func55, Tryz.ntmps55
    go_wp2
    go_ret
    exact ⟨ret_int HE.out.symm, box_below _ _⟩
  have g0 : (k == 0) = false := beq_eq_false_iff_ne.2 h0
  by_cases h3 : k = 3
  · have HE := Lib.hid (HS.out.trans ((if_neg h0).trans (if_pos h3)))
    subst h3
    clear HO HS
    go_enter Tryz.func55, Tryz.ntmps55
    go_wp2
    go_ret
    exact ⟨ret_int HE.out.symm, box_below _ _⟩
  have g3 : (k == 3) = false := beq_eq_false_iff_ne.2 h3
  by_cases h1 : k = 1
  · have HE := Lib.hid (HS.out.trans ((if_neg h0).trans ((if_neg h3).trans (if_pos h1))))
    subst h1
    clear HO HS
    go_enter Tryz.func55, Tryz.ntmps55
    go_wp2
    go_ret
    exact ⟨ret_int HE.out.symm, box_below _ _⟩
  have g1 : (k == 1) = false := beq_eq_false_iff_ne.2 h1
  have HE := Lib.hid (HS.out.trans ((if_neg h0).trans ((if_neg h3).trans (if_neg h1))))
  clear HS h0 h3 h1
  cases b
  all_goals
    go_enter Tryz.func55, Tryz.ntmps55
    go_wp2_with fail
    refine (HO.out _).mono ?_
    rintro e w1 ⟨rfl, hb1⟩
    have HB1 := Lib.hid (one_box hb1)
    clear hb1
    go_wp2
    go_ret
    exact ⟨ret_int (HE.out.trans (by rfl)).symm, HB1.out.alloc HB1.out.size _⟩

/- two boxes of terms, in every world behind them -/
theorem two_regrown {W0 : World} {g : Nat} {t : TermL} (h : TermAt W0 g 0 t) : ∀ d os, (grow (redrawn W0 d) os).cell? ⟨g, 0, none⟩ = some (.int .i64 t.k) ∧ (grow (redrawn W0 d) os).cell? ⟨g, 1, none⟩ = some (.string (bs t.x)) ∧ (grow (redrawn W0 d) os).cell? ⟨g, 2, none⟩ = some (.string (bs t.y)) ∧ (grow (redrawn W0 d) os).cell? ⟨g, 3, none⟩ = some (.string (bs t.z)) :=
  fun d os => ⟨cell_regrown h.1 d os, cell_regrown h.2.1 d os, cell_regrown h.2.2.1 d os, cell_regrown h.2.2.2 d os⟩
theorem num3 {t : TermL} (h : sortP t = 3) : ∃ (v : Int) (j : Nat) (d : Bool), Nm.NumL.ret (ofP t) = .tuple #[.agg #[.int .i64 v, .int .i64 j, .bool d], .bool true] ∧ j ≤ 4 ∧ -999999999 ≤ v ∧ v ≤ 999999999 ∧ amtP t = Nm.amt v j := by
  obtain ⟨v, j, d, e, hj, l1, l2, _, hm⟩ := num_of h
  refine ⟨v, j, d, ?_, hj, l1, l2, hm⟩
  have e2 := sort3_of h
  rw [numP_is h] at e
  have : ofP t = (⟨v, j, d⟩, true) := Prod.ext e e2
  rw [this]; rfl

set_option maxRecDepth 100000 in
set_option maxHeartbeats 8000000 in
theorem rValue_calls (a b : TermL) (ha : a.ok) (hb : b.ok) (w : World) : Calls Tryz.prog 23 #[a.v, b.v] w fun e w' => e = .returned (.int .i64 (valP a b)) ∧ Below w.heap.size w w' := by
  have HV := Lib.hid (show valP a b = if sortP a ≠ sortP b then cmpZ (sortP a) (sortP b) else if sortP a = 3 ∧ cmpZ (amtP a) (amtP b) ≠ 0 then cmpZ (amtP a) (amtP b) else tcmp a b from rfl)
  have HSA := Lib.hid (fun W => rSort_calls a ha W)
  have HSB := Lib.hid (fun W => rSort_calls b hb W)
  have HOA := Lib.hid (fun W => rOf_calls a ha W)
  have HOB := Lib.hid (fun W => rOf_calls b hb W)
  have HT : Hid (∀ W, Calls Tryz.prog 57 #[a.v, b.v] W fun e w' => e = .returned (.int .i64 (tcmp a b)) ∧ Below W.heap.size W w') := Lib.hid (fun W => by
    have := rCompare_calls a.k (bs a.x) (bs a.y) (bs a.z) b.k (bs b.x) (bs b.y) (bs b.z) W ha.1 ha.2.1 ha.2.2 hb.1 hb.2.1 hb.2.2
    simp only [bs_data] at this
    exact this)
  have HNA := Lib.hid (@num3 a)
  have HNB := Lib.hid (@num3 b)
  have hbx := term_two (w := w) (t := a) (u := b) (T := 37)
  obtain ⟨A, hA⟩ : ∃ A, w.heap.size = A := ⟨_, rfl⟩
  obtain ⟨W0, hW0⟩ : ∃ W0, (w.alloc (.cells #[.int .i64 a.k, .string (bs a.x), .string (bs a.y), .string (bs a.z)] 37)).alloc (.cells #[.int .i64 b.k, .string (bs b.x), .string (bs b.y), .string (bs b.z)] 37) = W0 := ⟨_, rfl⟩
  have HB0 := Lib.hid (show Below w.heap.size w W0 by rw [← hW0]; exact two_alloc _ _ _)
  have hlt : A + 1 < W0.heap.size := by rw [← hW0, ← hA]; simp
  rw [hW0, hA] at hbx
  have HTA := Lib.hid hbx.1
  have HTB := Lib.hid hbx.2
  have HAE := Lib.hid hA
  have HW0 := Lib.hid hW0
  clear ha hb hbx hA hW0
  generalize tcmp a b = tc at HT HV
  generalize valP a b = V at HV ⊢
  generalize sortP a = sa at HV HNA HSA
  generalize sortP b = sb at HV HNB HSB
  generalize amtP a = ma at HV HNA
  generalize amtP b = mb at HV HNB
  generalize Nm.NumL.ret (ofP a) = na at HNA HOA
  generalize Nm.NumL.ret (ofP b) = nb at HNB HOB
  obtain ⟨k, x, y, z⟩ := a
  obtain ⟨k', x', y', z'⟩ := b
  simp only [TermL.v] at HT HSA HSB HOA HOB ⊢
  have cA := two_regrown HTA.out
  have cB := two_regrown HTB.out
  dsimp only at cA cB
  have a0 := fun d os => (cA d os).1; have a1 := fun d os => (cA d os).2.1; have a2 := fun d os => (cA d os).2.2.1; have a3 := fun d os => (cA d os).2.2.2
  have b0 := fun d os => (cB d os).1; have b1 := fun d os => (cB d os).2.1; have b2 := fun d os => (cB d os).2.2.1; have b3 := fun d os => (cB d os).2.2.2
  have cS : ∀ d os, Calls Tryz.prog 55 #[.agg #[.int .i64 k, .string (bs x), .string (bs y), .string (bs z)]] (grow (redrawn W0 d) os) fun e w'' => e = .returned (.int .i64 sa) ∧ ∃ p : Regrown, w'' = grow (redrawn W0 p.d) p.os := fun d os => Calls.regrown_of (HSA.out _)
  have cT : ∀ d os, Calls Tryz.prog 55 #[.agg #[.int .i64 k', .string (bs x'), .string (bs y'), .string (bs z')]] (grow (redrawn W0 d) os) fun e w'' => e = .returned (.int .i64 sb) ∧ ∃ p : Regrown, w'' = grow (redrawn W0 p.d) p.os := fun d os => Calls.regrown_of (HSB.out _)
  clear cA cB
  go_enter Tryz.func23, Tryz.ntmps23
  go_wp2_with fail
  rw [HW0.out, HAE.out]
  refine wp_region_quiet_below (by kernel_rfl) (by kernel_rfl) ?_
  quiet_step (exact cS _ _)
  quiet_step (exact cS _ _)
  quiet_step (exact cT _ _)
  quiet_step (exact cT _ _)
  quiet_step (exact cT _ _)
  refine wpQuiet_nil ?_
  intro W1 hw'
  obtain ⟨⟨dq, osq⟩, hw''⟩ := hw'
  have hb1 : Below W0.heap.size W0 W1 := by rw [hw'']; exact below_regrown W0 dq osq
  have HB1 := Lib.hid hb1
  clear hw'' hb1 cS cT a0 a1 a2 a3 b0 b1 b2 b3
  by_cases hl : sa < sb
  · have HE := Lib.hid (show V = -1 from HV.out.trans ((if_pos (by omega)).trans (if_pos hl)))
    go_wp2
    go_ret
    exact ⟨ret_int HE.out.symm, HB0.out.trans (HB1.out.mono HB0.out.size)⟩
  have hlt1 : A + 1 < W1.heap.size := Nat.lt_of_lt_of_le hlt HB1.out.size
  have HTA1 := Lib.hid (HTA.out.on HB1.out (by omega))
  have HTB1 := Lib.hid (HTB.out.on HB1.out hlt)
  have cA := two_regrown HTA1.out
  have cB := two_regrown HTB1.out
  dsimp only at cA cB
  have a0 := fun d os => (cA d os).1; have a1 := fun d os => (cA d os).2.1; have a2 := fun d os => (cA d os).2.2.1; have a3 := fun d os => (cA d os).2.2.2
  have b0 := fun d os => (cB d os).1; have b1 := fun d os => (cB d os).2.1; have b2 := fun d os => (cB d os).2.2.1; have b3 := fun d os => (cB d os).2.2.2
  have cS : ∀ d os, Calls Tryz.prog 55 #[.agg #[.int .i64 k, .string (bs x), .string (bs y), .string (bs z)]] (grow (redrawn W1 d) os) fun e w'' => e = .returned (.int .i64 sa) ∧ ∃ p : Regrown, w'' = grow (redrawn W1 p.d) p.os := fun d os => Calls.regrown_of (HSA.out _)
  have cT : ∀ d os, Calls Tryz.prog 55 #[.agg #[.int .i64 k', .string (bs x'), .string (bs y'), .string (bs z')]] (grow (redrawn W1 d) os) fun e w'' => e = .returned (.int .i64 sb) ∧ ∃ p : Regrown, w'' = grow (redrawn W1 p.d) p.os := fun d os => Calls.regrown_of (HSB.out _)
  clear cA cB
  go_wp2_with fail
  refine wp_region_quiet_below (by kernel_rfl) (by kernel_rfl) ?_
  quiet_step (exact cS _ _)
  quiet_step (exact cS _ _)
  quiet_step (exact cT _ _)
  quiet_step (exact cT _ _)
  quiet_step (exact cT _ _)
  refine wpQuiet_nil ?_
  intro W2 hw'
  obtain ⟨⟨dq, osq⟩, hw''⟩ := hw'
  have hb2 : Below W1.heap.size W1 W2 := by rw [hw'']; exact below_regrown W1 dq osq
  have HB2 := Lib.hid (fb2 (fb2 HB0.out HB1.out (Nat.le_refl _)) hb2 (Nat.le_refl _))
  have hlt2 : A + 1 < W2.heap.size := Nat.lt_of_lt_of_le hlt1 hb2.size
  have hTA2 := HTA1.out.on hb2 (by omega)
  have hTB2 := HTB1.out.on hb2 hlt1
  clear hw'' hb2 cS cT a0 a1 a2 a3 b0 b1 b2 b3 HTA1 HTB1 HTA HTB HB0 HB1 hlt hlt1
  by_cases hg : sb < sa
  · have HE := Lib.hid (show V = 1 from HV.out.trans ((if_pos (by omega)).trans ((if_neg (by omega)).trans (if_pos hg))))
    go_wp2
    go_ret
    exact ⟨ret_int HE.out.symm, HB2.out⟩
  have hs : sa = sb := by omega
  subst hs
  clear hl hg
  replace HV := Lib.hid (HV.out.trans (if_neg (fun c => c rfl)))
  have ng : ¬ sa < sa := by omega
  obtain ⟨a0, a1, a2, a3⟩ := hTA2
  obtain ⟨b0, b1, b2, b3⟩ := hTB2
  dsimp only at a0 a1 a2 a3 b0 b1 b2 b3
  rw [Nat.zero_add] at a1 a2 a3 b1 b2 b3
  go_wp2_with fail
  refine (HSA.out _).mono ?_
  rintro e w3 ⟨rfl, hb3⟩
  have hlt3 : A + 1 < w3.heap.size := Nat.lt_of_lt_of_le hlt2 hb3.size
  replace a0 := keptC a0 hb3 (by omega)
  replace a1 := keptC a1 hb3 (by omega)
  replace a2 := keptC a2 hb3 (by omega)
  replace a3 := keptC a3 hb3 (by omega)
  replace b0 := keptC b0 hb3 (by omega)
  replace b1 := keptC b1 hb3 (by omega)
  replace b2 := keptC b2 hb3 (by omega)
  replace b3 := keptC b3 hb3 (by omega)
  have HB3 := Lib.hid (fb2 HB2.out hb3 (Nat.le_refl _))
  clear hb3 hlt2 HB2 HSA HSB ng
  by_cases h3 : sa = 3
  · obtain ⟨v, j, d, rfl, hj, l1, l2, hm⟩ := HNA.out h3
    obtain ⟨v', j', d', rfl, hj', l1', l2', hm'⟩ := HNB.out h3
    have g3 : (sa == 3) = true := beq_iff_eq.2 h3
    have HC := Lib.hid (fun W => Nm.rCompare_calls v j d v' j' d' W hj l1 l2 hj' l1' l2')
    rw [← hm, ← hm'] at HC
    obtain ⟨q, hq⟩ : ∃ q, cmpZ ma mb = q := ⟨_, rfl⟩
    rw [cmpI_is, hq] at HC
    rw [hq] at HV
    clear hq hm hm' hj hj' l1 l2 l1' l2' HNA HNB
    go_wp2_with fail
    refine (HOA.out _).mono ?_
    rintro e w4 ⟨rfl, hb4⟩
    have hs4 := hb4.size
    replace a0 := keptC a0 hb4 (by omega)
    replace a1 := keptC a1 hb4 (by omega)
    replace a2 := keptC a2 hb4 (by omega)
    replace a3 := keptC a3 hb4 (by omega)
    replace b0 := keptC b0 hb4 (by omega)
    replace b1 := keptC b1 hb4 (by omega)
    replace b2 := keptC b2 hb4 (by omega)
    replace b3 := keptC b3 hb4 (by omega)
    have hlw4 : A + 1 < w4.heap.size := by omega
    go_wp2_with fail
    obtain ⟨N1, hN1⟩ : ∃ N1, w4.heap.size = N1 := ⟨_, rfl⟩
    obtain ⟨W4, hW4⟩ : ∃ W4, w4.alloc (.cells #[.int .i64 v, .int .i64 j, .bool d] 48) = W4 := ⟨_, rfl⟩
    have HN1 := Lib.hid hN1
    have HW4 := Lib.hid hW4
    have hbx : Below w4.heap.size w4 W4 := by rw [← hW4]; exact box_below _ _
    have hNB : Blk W4 N1 48 #[.int .i64 v, .int .i64 j, .bool d] := by rw [← hW4, ← hN1]; exact blk_new _ _ _
    replace a0 := keptC a0 hbx (by omega)
    replace a1 := keptC a1 hbx (by omega)
    replace a2 := keptC a2 hbx (by omega)
    replace a3 := keptC a3 hbx (by omega)
    replace b0 := keptC b0 hbx (by omega)
    replace b1 := keptC b1 hbx (by omega)
    replace b2 := keptC b2 hbx (by omega)
    replace b3 := keptC b3 hbx (by omega)
    have n0 : W4.cell? ⟨N1, 0, none⟩ = some (.int .i64 v) := (blk_cell hNB 0).trans rfl
    have n1 : W4.cell? ⟨N1, 1, none⟩ = some (.int .i64 j) := (blk_cell hNB 1).trans rfl
    have n2 : W4.cell? ⟨N1, 2, none⟩ = some (.bool d) := (blk_cell hNB 2).trans rfl
    have hlN : N1 < W4.heap.size := blk_lt hNB
    have hlA : A + 1 < N1 := by omega
    have HB4 := Lib.hid (fb2 (fb2 HB3.out hb4 (Nat.le_refl _)) hbx (Nat.le_refl _))
    clear hb4 hs4 hN1 hW4 hbx hNB hlt3 HB3
    rw [HW4.out, HN1.out]
    refine (HOB.out _).mono ?_
    rintro e w5 ⟨rfl, hb5⟩
    have hs5 := hb5.size
    replace a0 := keptC a0 hb5 (by omega)
    replace a1 := keptC a1 hb5 (by omega)
    replace a2 := keptC a2 hb5 (by omega)
    replace a3 := keptC a3 hb5 (by omega)
    replace b0 := keptC b0 hb5 (by omega)
    replace b1 := keptC b1 hb5 (by omega)
    replace b2 := keptC b2 hb5 (by omega)
    replace b3 := keptC b3 hb5 (by omega)
    replace n0 := keptC n0 hb5 (by omega)
    replace n1 := keptC n1 hb5 (by omega)
    replace n2 := keptC n2 hb5 (by omega)
    have hlw5 : A + 1 < w5.heap.size := by omega
    have hk5 : N1 < w5.heap.size := by omega
    go_wp2_with fail
    obtain ⟨N2, hN2⟩ : ∃ N2, w5.heap.size = N2 := ⟨_, rfl⟩
    obtain ⟨W5, hW5⟩ : ∃ W5, w5.alloc (.cells #[.int .i64 v', .int .i64 j', .bool d'] 48) = W5 := ⟨_, rfl⟩
    have HN2 := Lib.hid hN2
    have HW5 := Lib.hid hW5
    have hbx : Below w5.heap.size w5 W5 := by rw [← hW5]; exact box_below _ _
    have hNB : Blk W5 N2 48 #[.int .i64 v', .int .i64 j', .bool d'] := by rw [← hW5, ← hN2]; exact blk_new _ _ _
    replace a0 := keptC a0 hbx (by omega)
    replace a1 := keptC a1 hbx (by omega)
    replace a2 := keptC a2 hbx (by omega)
    replace a3 := keptC a3 hbx (by omega)
    replace b0 := keptC b0 hbx (by omega)
    replace b1 := keptC b1 hbx (by omega)
    replace b2 := keptC b2 hbx (by omega)
    replace b3 := keptC b3 hbx (by omega)
    replace n0 := keptC n0 hbx (by omega)
    replace n1 := keptC n1 hbx (by omega)
    replace n2 := keptC n2 hbx (by omega)
    have m0 : W5.cell? ⟨N2, 0, none⟩ = some (.int .i64 v') := (blk_cell hNB 0).trans rfl
    have m1 : W5.cell? ⟨N2, 1, none⟩ = some (.int .i64 j') := (blk_cell hNB 1).trans rfl
    have m2 : W5.cell? ⟨N2, 2, none⟩ = some (.bool d') := (blk_cell hNB 2).trans rfl
    have hlM : N2 < W5.heap.size := blk_lt hNB
    have hlB : N1 < N2 := by omega
    have HB5 := Lib.hid (fb2 (fb2 HB4.out hb5 (Nat.le_refl _)) hbx (Nat.le_refl _))
    clear hb5 hs5 hN2 hW5 hbx hNB hlN HB4
    rw [HW5.out, HN2.out]
    refine (HC.out _).mono ?_
    rintro e w6 ⟨rfl, hb6⟩
    replace a0 := keptC a0 hb6 (by omega)
    replace a1 := keptC a1 hb6 (by omega)
    replace a2 := keptC a2 hb6 (by omega)
    replace a3 := keptC a3 hb6 (by omega)
    replace b0 := keptC b0 hb6 (by omega)
    replace b1 := keptC b1 hb6 (by omega)
    replace b2 := keptC b2 hb6 (by omega)
    replace b3 := keptC b3 hb6 (by omega)
    replace n0 := keptC n0 hb6 (by omega)
    replace n1 := keptC n1 hb6 (by omega)
    replace n2 := keptC n2 hb6 (by omega)
    replace m0 := keptC m0 hb6 (by omega)
    replace m1 := keptC m1 hb6 (by omega)
    replace m2 := keptC m2 hb6 (by omega)
    have hlC : N2 < w6.heap.size := Nat.lt_of_lt_of_le hlM hb6.size
    have HB6 := Lib.hid (fb2 HB5.out hb6 (Nat.le_refl _))
    clear hb6 hlM HB5
    by_cases hq : q = 0
    · have HE := Lib.hid (HV.out.trans (if_neg (fun c => c.2 hq)))
      have gq : (q != 0) = false := by rw [hq]; rfl
      clear HV hq
      go_wp2_with fail
      refine (HT.out _).mono ?_
      rintro e w7 ⟨rfl, hb7⟩
      have HB7 := Lib.hid (fb2 HB6.out hb7 (Nat.le_refl _))
      clear hb7
      go_wp2
      go_ret
      exact ⟨ret_int HE.out.symm, HB7.out⟩
    · have HE := Lib.hid (HV.out.trans (if_pos ⟨h3, hq⟩))
      have gq : (q != 0) = true := bne_iff_ne.2 hq
      clear HV hq
      go_wp2_with fail
      refine (HC.out _).mono ?_
      rintro e w7 ⟨rfl, hb7⟩
      have HB7 := Lib.hid (fb2 HB6.out hb7 (Nat.le_refl _))
      clear hb7
      go_wp2
      go_ret
      exact ⟨ret_int HE.out.symm, HB7.out⟩
  · have HE := Lib.hid (HV.out.trans (if_neg (fun c => h3 c.1)))
    have g3 : (sa == 3) = false := beq_eq_false_iff_ne.2 h3
    clear HV h3 HNA HNB
    go_wp2_with fail
    refine (HT.out _).mono ?_
    rintro e w4 ⟨rfl, hb4⟩
    have HB4 := Lib.hid (fb2 HB3.out hb4 (Nat.le_refl _))
    clear hb4
    go_wp2
    go_ret
    exact ⟨ret_int HE.out.symm, HB4.out⟩

end Go.Proofs.YtdnfaoanaehjhaaGreatDoor

/- The first or the last of terms: the document's end (written by gen/mkrend13.py). -/
namespace Go.Proofs.YtdnfaoanaehjhaaGreatDoor
open Go.RowKit Go.Sort

theorem rend_next (last : Bool) {l : List TermL} {k : Nat} (hk : k < l.length) : endT last (l.take (k + 1)) = if k = 0 then l[k] else endP last (endT last (l.take k)) l[k] := by
  by_cases h : k = 0
  · subst h
    rw [if_pos rfl]
    cases l with
    | nil => exact absurd hk (Nat.lt_irrefl _)
    | cons t r => rfl
  · rw [if_neg h]; exact ends_next last hk (by omega)
structure REndR (last : Bool) (A : Nat) (w : World) (l : List TermL) (k : Nat) (wr : World) : Prop where
  res : Blk wr A 37 #[.int .i64 0, .string ⟨#[]⟩, .string ⟨#[]⟩, .string ⟨#[]⟩]
  box : Blk wr (A + 1) 37 (endT last (l.take k)).cs.toArray
  below : Below w.heap.size w wr

set_option maxRecDepth 100000 in
set_option maxHeartbeats 8000000 in
theorem rEnd_calls (l : List TermL) (last : Bool) (hl : ∀ t ∈ l, t.ok) (a : Option Addr) (n c : Nat) (w : World) (h : TrmA w a n c l) :
    Calls Tryz.prog 50 #[.slice a n c, .bool last] w fun e w' => e = .returned (endT last l).v ∧ Below w.heap.size w w' := by
  have HIN := Lib.hid h
  have HOK := Lib.hid hl
  have HL := Lib.hid h.len
  have hcp := h.cap
  have hms := h.most
  unfold maxLen at hms
  obtain ⟨A, hA⟩ : ∃ A, w.heap.size = A := ⟨_, rfl⟩
  obtain ⟨W0, hW0⟩ : ∃ W0, (w.alloc (.cells #[.int .i64 0, .string ⟨#[]⟩, .string ⟨#[]⟩, .string ⟨#[]⟩] 37)).alloc (.cells #[.int .i64 0, .string ⟨#[]⟩, .string ⟨#[]⟩, .string ⟨#[]⟩] 37) = W0 := ⟨_, rfl⟩
  have HS0 := Lib.hid (show REndR last A w l 0 W0 from by
    refine ⟨?_, ?_, by rw [← hW0]; exact two_alloc _ _ _⟩
    · rw [← hW0, ← hA]; exact blk_alloc (blk_new _ _ _) _
    · rw [← hW0, List.take_zero]
      have := blk_new (w.alloc (.cells #[.int .i64 0, .string ⟨#[]⟩, .string ⟨#[]⟩, .string ⟨#[]⟩] 37)) 37 #[.int .i64 0, .string ⟨#[]⟩, .string ⟨#[]⟩, .string ⟨#[]⟩]
      rw [World.size_alloc, hA] at this
      exact this)
  have HAE := Lib.hid hA
  have HW0 := Lib.hid hW0
  clear h hl hA hW0
  go_enter Tryz.func50, Tryz.ntmps50
  go_wp2
  rw [HW0.out, HAE.out]
  go_loopg [6, 7] n (fun g i _ wr => ∃ k : Nat, i = .int .i64 k ∧ k + g = n ∧ Hid (REndR last A w l k wr))
  case atStart => exact ⟨0, rfl, by omega, HS0⟩
  case round =>
    obtain ⟨W1, rfl⟩ : ∃ W1, W1 = wr := ⟨_, rfl⟩
    obtain ⟨k, rfl, hkg, HRD⟩ := hrel
    have HA1 := Lib.hid HRD.out.res
    have HX1 := Lib.hid HRD.out.box
    have HB1 := Lib.hid HRD.out.below
    clear HRD
    have k0 : (0 : Int) ≤ (k : Int) := by omega
    by_cases hk : k < n
    · obtain ⟨gg, rfl⟩ : ∃ gg, gk = gg + 1 := ⟨gk - 1, by omega⟩
      have hkL : k < l.length := by rw [HL.out]; exact hk
      obtain ⟨g, o, ha, hgw, hcells⟩ := HIN.out.cells (by omega)
      subst ha
      have hgW : g < W1.heap.size := Nat.lt_of_lt_of_le hgw HB1.out.size
      have hgA : ¬ g = A + 1 := by have := HAE.out; omega
      have htm := (hcells k hkL).on HB1.out hgw
      have HNX := Lib.hid (rend_next last hkL)
      have HTK := Lib.hid (HOK.out _ (List.getElem_mem hkL))
      have HMK := Lib.hid (ends_ok (last := last) (l := l.take k) (fun t ht => HOK.out t (List.mem_of_mem_take ht)))
      clear hcells
      generalize l[k] = y at htm HNX HTK
      generalize endT last (l.take k) = m at HX1 HNX HMK
      have HCC := Lib.hid (fun W => rValue_calls y m HTK.out HMK.out W)
      have HPE := Lib.hid (show endP last m y = if (if last = true then 0 < valP y m else valP y m < 0) then y else m from rfl)
      obtain ⟨q, hq⟩ : ∃ q, valP y m = q := ⟨_, rfl⟩
      rw [hq] at HCC HPE
      rw [HPE.out] at HNX
      have hbx := cs_blk HX1.out
      have HTM := Lib.hid htm
      simp only [TermL.v] at HCC
      have c0 : ∀ d os, (grow (redrawn W1 d) os).cell? ⟨g, o + k * 4, none⟩ = some (.int .i64 y.k) := fun d os => cell_regrown htm.1 d os
      have c1 : ∀ d os, (grow (redrawn W1 d) os).cell? ⟨g, o + k * 4 + 1, none⟩ = some (.string (bs y.x)) := fun d os => cell_regrown htm.2.1 d os
      have c2 : ∀ d os, (grow (redrawn W1 d) os).cell? ⟨g, o + k * 4 + 2, none⟩ = some (.string (bs y.y)) := fun d os => cell_regrown htm.2.2.1 d os
      have c3 : ∀ d os, (grow (redrawn W1 d) os).cell? ⟨g, o + k * 4 + 3, none⟩ = some (.string (bs y.z)) := fun d os => cell_regrown htm.2.2.2 d os
      have b0 : ∀ d os, (grow (redrawn W1 d) os).cell? ⟨A + 1, 0, none⟩ = some (.int .i64 m.k) := fun d os => cell_regrown hbx.1 d os
      have b1 : ∀ d os, (grow (redrawn W1 d) os).cell? ⟨A + 1, 1, none⟩ = some (.string (bs m.x)) := fun d os => cell_regrown hbx.2.1 d os
      have b2 : ∀ d os, (grow (redrawn W1 d) os).cell? ⟨A + 1, 2, none⟩ = some (.string (bs m.y)) := fun d os => cell_regrown hbx.2.2.1 d os
      have b3 : ∀ d os, (grow (redrawn W1 d) os).cell? ⟨A + 1, 3, none⟩ = some (.string (bs m.z)) := fun d os => cell_regrown hbx.2.2.2 d os
      have cW : ∀ d os, Calls Tryz.prog 23 #[.agg #[.int .i64 y.k, .string (bs y.x), .string (bs y.y), .string (bs y.z)], .agg #[.int .i64 m.k, .string (bs m.x), .string (bs m.y), .string (bs m.z)]] (grow (redrawn W1 d) os) fun e w'' => e = .returned (.int .i64 q) ∧ ∃ p : Regrown, w'' = grow (redrawn W1 p.d) p.os := fun d os => Calls.regrown_of (HCC.out _)
      clear htm hbx hq HTK HMK HCC HPE
      have k1 : (k : Int) < (n : Int) := by omega
      by_cases hz : k = 0
      · have HN2 := Lib.hid (HNX.out.trans (if_pos hz))
        have g0 : ((k : Int) == 0) = true := beq_iff_eq.2 (by omega)
        have g1 : (k == 0) = true := beq_iff_eq.2 hz
        clear HNX hz
        go_wp2_with fail
        refine wp_region_quiet_below (by kernel_rfl) (by kernel_rfl) ?_
        repeat (quiet_step (exact cW _ _))
        refine wpQuiet_nil ?_
        intro _ hw'
        obtain ⟨⟨dq, osq⟩, hw''⟩ := hw'
        subst hw''
        have HBQ := Lib.hid (below_regrown W1 dq osq)
        obtain ⟨W2, hW2⟩ : ∃ W2, grow (redrawn W1 dq) osq = W2 := ⟨_, rfl⟩
        rw [hW2] at HBQ ⊢
        clear c0 c1 c2 c3 b0 b1 b2 b3 cW hW2
        obtain ⟨d0, d1, d2, d3⟩ := HTM.out.on HBQ.out hgW
        have HX2 := Lib.hid (blk_on HX1.out HBQ.out (blk_lt HX1.out))
        have HA2 := Lib.hid (blk_on HA1.out HBQ.out (blk_lt HA1.out))
        have HB2 := Lib.hid (fb2 HB1.out HBQ.out (Nat.le_refl _))
        go_wp2_with (refine whole_abs 37 (.tmp 5) (.tmp 41) ⟨rfl, rfl⟩ (A + 1) y.cs.toArray rfl rfl 37 m.cs.toArray HX2.out (by kernel_rfl) rfl (by kernel_rfl) ?_; intro w4 hX4 hG4; have HX4 := Lib.hid hX4.out; have HA4 := Lib.hid (blk_grown HA2.out (by omega) hG4.out); have HB4 := Lib.hid (HB2.out.grown hG4.out HB2.out.size (fun j hj => by injection hj with hj; have := HAE.out; omega)); clear hX4 hG4)
        go_roundg gg
        case measure => omega
        case rel => exact ⟨k + 1, by go_num, by omega, Lib.hid ⟨HA4.out, by rw [HN2.out]; exact HX4.out, HB4.out⟩⟩
      · have g0 : ((k : Int) == 0) = false := beq_eq_false_iff_ne.2 (by omega)
        have g1 : (k == 0) = false := beq_eq_false_iff_ne.2 hz
        cases last with
        | false =>
          by_cases hc : q < 0
          · have HN2 := Lib.hid (show endT false (l.take (k + 1)) = y by rw [HNX.out, if_neg hz]; simp [hc])
            clear HNX hz
            go_wp2_with fail
            refine wp_region_quiet_below (by kernel_rfl) (by kernel_rfl) ?_
            repeat (quiet_step (exact cW _ _))
            refine wpQuiet_nil ?_
            intro _ hw'
            obtain ⟨⟨dq, osq⟩, hw''⟩ := hw'
            subst hw''
            have HBQ := Lib.hid (below_regrown W1 dq osq)
            obtain ⟨W2, hW2⟩ : ∃ W2, grow (redrawn W1 dq) osq = W2 := ⟨_, rfl⟩
            rw [hW2] at HBQ ⊢
            clear c0 c1 c2 c3 b0 b1 b2 b3 cW hW2
            obtain ⟨d0, d1, d2, d3⟩ := HTM.out.on HBQ.out hgW
            have HX2 := Lib.hid (blk_on HX1.out HBQ.out (blk_lt HX1.out))
            have HA2 := Lib.hid (blk_on HA1.out HBQ.out (blk_lt HA1.out))
            have HB2 := Lib.hid (fb2 HB1.out HBQ.out (Nat.le_refl _))
            go_wp2_with (refine whole_abs 37 (.tmp 5) (.tmp 41) ⟨rfl, rfl⟩ (A + 1) y.cs.toArray rfl rfl 37 m.cs.toArray HX2.out (by kernel_rfl) rfl (by kernel_rfl) ?_; intro w4 hX4 hG4; have HX4 := Lib.hid hX4.out; have HA4 := Lib.hid (blk_grown HA2.out (by omega) hG4.out); have HB4 := Lib.hid (HB2.out.grown hG4.out HB2.out.size (fun j hj => by injection hj with hj; have := HAE.out; omega)); clear hX4 hG4)
            go_roundg gg
            case measure => omega
            case rel => exact ⟨k + 1, by go_num, by omega, Lib.hid ⟨HA4.out, by rw [HN2.out]; exact HX4.out, HB4.out⟩⟩
          · have HN2 := Lib.hid (show endT false (l.take (k + 1)) = m by rw [HNX.out, if_neg hz]; simp [hc])
            clear HNX hz
            go_wp2_with fail
            refine wp_region_quiet_below (by kernel_rfl) (by kernel_rfl) ?_
            repeat (quiet_step (exact cW _ _))
            refine wpQuiet_nil ?_
            intro _ hw'
            obtain ⟨⟨dq, osq⟩, hw''⟩ := hw'
            subst hw''
            have HBQ := Lib.hid (below_regrown W1 dq osq)
            obtain ⟨W2, hW2⟩ : ∃ W2, grow (redrawn W1 dq) osq = W2 := ⟨_, rfl⟩
            rw [hW2] at HBQ ⊢
            clear c0 c1 c2 c3 b0 b1 b2 b3 cW hW2
            obtain ⟨d0, d1, d2, d3⟩ := HTM.out.on HBQ.out hgW
            have HX2 := Lib.hid (blk_on HX1.out HBQ.out (blk_lt HX1.out))
            have HA2 := Lib.hid (blk_on HA1.out HBQ.out (blk_lt HA1.out))
            have HB2 := Lib.hid (fb2 HB1.out HBQ.out (Nat.le_refl _))
            go_wp2
            go_roundg gg
            case measure => omega
            case rel => exact ⟨k + 1, by go_num, by omega, Lib.hid ⟨HA2.out, by rw [HN2.out]; exact HX2.out, HB2.out⟩⟩
        | true =>
          by_cases hc : 0 < q
          · have HN2 := Lib.hid (show endT true (l.take (k + 1)) = y by rw [HNX.out, if_neg hz]; simp [hc])
            clear HNX hz
            go_wp2_with fail
            refine wp_region_quiet_below (by kernel_rfl) (by kernel_rfl) ?_
            repeat (quiet_step (exact cW _ _))
            refine wpQuiet_nil ?_
            intro _ hw'
            obtain ⟨⟨dq, osq⟩, hw''⟩ := hw'
            subst hw''
            have HBQ := Lib.hid (below_regrown W1 dq osq)
            obtain ⟨W2, hW2⟩ : ∃ W2, grow (redrawn W1 dq) osq = W2 := ⟨_, rfl⟩
            rw [hW2] at HBQ ⊢
            clear c0 c1 c2 c3 b0 b1 b2 b3 cW hW2
            obtain ⟨d0, d1, d2, d3⟩ := HTM.out.on HBQ.out hgW
            have HX2 := Lib.hid (blk_on HX1.out HBQ.out (blk_lt HX1.out))
            have HA2 := Lib.hid (blk_on HA1.out HBQ.out (blk_lt HA1.out))
            have HB2 := Lib.hid (fb2 HB1.out HBQ.out (Nat.le_refl _))
            go_wp2_with (refine whole_abs 37 (.tmp 5) (.tmp 41) ⟨rfl, rfl⟩ (A + 1) y.cs.toArray rfl rfl 37 m.cs.toArray HX2.out (by kernel_rfl) rfl (by kernel_rfl) ?_; intro w4 hX4 hG4; have HX4 := Lib.hid hX4.out; have HA4 := Lib.hid (blk_grown HA2.out (by omega) hG4.out); have HB4 := Lib.hid (HB2.out.grown hG4.out HB2.out.size (fun j hj => by injection hj with hj; have := HAE.out; omega)); clear hX4 hG4)
            go_roundg gg
            case measure => omega
            case rel => exact ⟨k + 1, by go_num, by omega, Lib.hid ⟨HA4.out, by rw [HN2.out]; exact HX4.out, HB4.out⟩⟩
          · have HN2 := Lib.hid (show endT true (l.take (k + 1)) = m by rw [HNX.out, if_neg hz]; simp [hc])
            clear HNX hz
            go_wp2_with fail
            refine wp_region_quiet_below (by kernel_rfl) (by kernel_rfl) ?_
            repeat (quiet_step (exact cW _ _))
            refine wpQuiet_nil ?_
            intro _ hw'
            obtain ⟨⟨dq, osq⟩, hw''⟩ := hw'
            subst hw''
            have HBQ := Lib.hid (below_regrown W1 dq osq)
            obtain ⟨W2, hW2⟩ : ∃ W2, grow (redrawn W1 dq) osq = W2 := ⟨_, rfl⟩
            rw [hW2] at HBQ ⊢
            clear c0 c1 c2 c3 b0 b1 b2 b3 cW hW2
            obtain ⟨d0, d1, d2, d3⟩ := HTM.out.on HBQ.out hgW
            have HX2 := Lib.hid (blk_on HX1.out HBQ.out (blk_lt HX1.out))
            have HA2 := Lib.hid (blk_on HA1.out HBQ.out (blk_lt HA1.out))
            have HB2 := Lib.hid (fb2 HB1.out HBQ.out (Nat.le_refl _))
            go_wp2
            go_roundg gg
            case measure => omega
            case rel => exact ⟨k + 1, by go_num, by omega, Lib.hid ⟨HA2.out, by rw [HN2.out]; exact HX2.out, HB2.out⟩⟩
    · have k1 : ¬ (k : Int) < (n : Int) := by omega
      have ht : l.take k = l := List.take_of_length_le (by rw [HL.out]; omega)
      rw [ht] at HX1
      obtain ⟨m, hm⟩ : ∃ m, endT last l = m := ⟨_, rfl⟩
      rw [hm] at HX1
      have HMM := Lib.hid hm
      clear hm
      obtain ⟨x0, x1, x2, x3⟩ := cs_blk HX1.out
      go_wp2_with (refine whole_abs 37 (.tmp 4) (.tmp 42) ⟨rfl, rfl⟩ A m.cs.toArray rfl rfl 37 #[.int .i64 0, .string ⟨#[]⟩, .string ⟨#[]⟩, .string ⟨#[]⟩] HA1.out (by kernel_rfl) rfl (by kernel_rfl) ?_; intro w5 hA5 hG5)
      obtain ⟨q0, q1, q2, q3⟩ := cs_blk hA5.out
      rw [Nat.zero_add] at q1 q2 q3
      refine bodyPost_ret (v := .agg #[.int .i64 m.k, .string (bs m.x), .string (bs m.y), .string (bs m.z)]) (by simp [results, Tryz.results50, q0, q1, q2, q3, go_sem]) rfl ⟨by rw [HMM.out]; rfl, ?_⟩
      exact HB1.out.grown hG5.out HB1.out.size (fun j hj => by injection hj with hj; have := HAE.out; omega)

end Go.Proofs.YtdnfaoanaehjhaaGreatDoor
