/- The document's order of values, for every two terms. -/
import Derived.Test.YtkfemnjblbnclaaGreatDoorShpRefOf
import Derived.Test.YtkfemnjblbnclaaGreatDoorShpLaws
namespace Go.Proofs.YtkfemnjblbnclaaGreatDoor
open Go.RowKit Go.Sort

set_option maxRecDepth 100000 in
set_option maxHeartbeats 4000000 in
theorem rSort_calls (t : TermL) (ht : t.ok) (w : World) : Calls Tryz.prog 40 #[t.v] w fun e w' => e = .returned (.int .i64 (sortP t)) ∧ Below w.heap.size w w' := by
  have HO := Lib.hid (fun W => rOf_calls t ht W)
  have HS := Lib.hid (sortP_kind (t := t))
  clear ht
  generalize ofP t = p at HO HS
  obtain ⟨⟨v, s, d⟩, b⟩ := p
  simp only [Nm.NumL.ret, Nm.NumL.val, TermL.v] at HO HS ⊢
  generalize sortP t = S at HS ⊢
  obtain ⟨k, x, y, z⟩ := t
  dsimp only at HO HS ⊢
  by_cases h0 : k = 0
  · have HE := Lib.hid (HS.out.trans (if_pos h0))
    subst h0
    clear HO HS
    go_enter Tryz.func40, Tryz.ntmps40
    go_wp2
    go_ret
    exact ⟨ret_int HE.out.symm, box_below _ _⟩
  have g0 : (k == 0) = false := beq_eq_false_iff_ne.2 h0
  by_cases h3 : k = 3
  · have HE := Lib.hid (HS.out.trans ((if_neg h0).trans (if_pos h3)))
    subst h3
    clear HO HS
    go_enter Tryz.func40, Tryz.ntmps40
    go_wp2
    go_ret
    exact ⟨ret_int HE.out.symm, box_below _ _⟩
  have g3 : (k == 3) = false := beq_eq_false_iff_ne.2 h3
  by_cases h1 : k = 1
  · have HE := Lib.hid (HS.out.trans ((if_neg h0).trans ((if_neg h3).trans (if_pos h1))))
    subst h1
    clear HO HS
    go_enter Tryz.func40, Tryz.ntmps40
    go_wp2
    go_ret
    exact ⟨ret_int HE.out.symm, box_below _ _⟩
  have g1 : (k == 1) = false := beq_eq_false_iff_ne.2 h1
  have HE := Lib.hid (HS.out.trans ((if_neg h0).trans ((if_neg h3).trans (if_neg h1))))
  clear HS h0 h3 h1
  cases b
  all_goals
    go_enter Tryz.func40, Tryz.ntmps40
    go_wp2_with fail
    refine (HO.out _).mono ?_
    rintro e w1 ⟨rfl, hb1⟩
    have HB1 := Lib.hid (one_box hb1)
    clear hb1
    go_wp2
    go_ret
    exact ⟨ret_int (HE.out.trans (by rfl)).symm, HB1.out.alloc HB1.out.size _⟩

/- two boxes of terms, in every world behind them -/
theorem two_regrown {W0 : World} {g : Nat} {t : TermL} (h : TermAt W0 g 0 t) : ∀ d os, (grow (redrawn W0 d) os).cell? ⟨g, 0, none⟩ = some (.int .i64 t.k) ∧ (grow (redrawn W0 d) os).cell? ⟨g, 1, none⟩ = some (.string (bs t.x)) ∧ (grow (redrawn W0 d) os).cell? ⟨g, 2, none⟩ = some (.string (bs t.y)) ∧ (grow (redrawn W0 d) os).cell? ⟨g, 3, none⟩ = some (.string (bs t.z)) :=
  fun d os => ⟨cell_regrown h.1 d os, cell_regrown h.2.1 d os, cell_regrown h.2.2.1 d os, cell_regrown h.2.2.2 d os⟩
theorem num3 {t : TermL} (h : sortP t = 3) : ∃ (v : Int) (j : Nat) (d : Bool), Nm.NumL.ret (ofP t) = .tuple #[.agg #[.int .i64 v, .int .i64 j, .bool d], .bool true] ∧ j ≤ 4 ∧ -999999999 ≤ v ∧ v ≤ 999999999 ∧ amtP t = Nm.amt v j := by
  obtain ⟨v, j, d, e, hj, l1, l2, _, hm⟩ := num_of h
  refine ⟨v, j, d, ?_, hj, l1, l2, hm⟩
  have e2 := sort3_of h
  rw [numP_is h] at e
  have : ofP t = (⟨v, j, d⟩, true) := Prod.ext e e2
  rw [this]; rfl

set_option maxRecDepth 100000 in
set_option maxHeartbeats 8000000 in
theorem rValue_calls (a b : TermL) (ha : a.ok) (hb : b.ok) (w : World) : Calls Tryz.prog 14 #[a.v, b.v] w fun e w' => e = .returned (.int .i64 (valP a b)) ∧ Below w.heap.size w w' := by
  have HV := Lib.hid (show valP a b = if sortP a ≠ sortP b then cmpZ (sortP a) (sortP b) else if sortP a = 3 ∧ cmpZ (amtP a) (amtP b) ≠ 0 then cmpZ (amtP a) (amtP b) else tcmp a b from rfl)
  have HSA := Lib.hid (fun W => rSort_calls a ha W)
  have HSB := Lib.hid (fun W => rSort_calls b hb W)
  have HOA := Lib.hid (fun W => rOf_calls a ha W)
  have HOB := Lib.hid (fun W => rOf_calls b hb W)
  have HT : Hid (∀ W, Calls Tryz.prog 43 #[a.v, b.v] W fun e w' => e = .returned (.int .i64 (tcmp a b)) ∧ Below W.heap.size W w') := Lib.hid (fun W => by
    have := rCompare_calls a.k (bs a.x) (bs a.y) (bs a.z) b.k (bs b.x) (bs b.y) (bs b.z) W ha.1 ha.2.1 ha.2.2 hb.1 hb.2.1 hb.2.2
    simp only [bs_data] at this
    exact this)
  have HNA := Lib.hid (@num3 a)
  have HNB := Lib.hid (@num3 b)
  have hbx := term_two (w := w) (t := a) (u := b) (T := 23)
  obtain ⟨A, hA⟩ : ∃ A, w.heap.size = A := ⟨_, rfl⟩
  obtain ⟨W0, hW0⟩ : ∃ W0, (w.alloc (.cells #[.int .i64 a.k, .string (bs a.x), .string (bs a.y), .string (bs a.z)] 23)).alloc (.cells #[.int .i64 b.k, .string (bs b.x), .string (bs b.y), .string (bs b.z)] 23) = W0 := ⟨_, rfl⟩
  have HB0 := Lib.hid (show Below w.heap.size w W0 by rw [← hW0]; exact two_alloc _ _ _)
  have hlt : A + 1 < W0.heap.size := by rw [← hW0, ← hA]; simp
  rw [hW0, hA] at hbx
  have HTA := Lib.hid hbx.1
  have HTB := Lib.hid hbx.2
  have HAE := Lib.hid hA
  have HW0 := Lib.hid hW0
  clear ha hb hbx hA hW0
  generalize tcmp a b = tc at HT HV
  generalize valP a b = V at HV ⊢
  generalize sortP a = sa at HV HNA HSA
  generalize sortP b = sb at HV HNB HSB
  generalize amtP a = ma at HV HNA
  generalize amtP b = mb at HV HNB
  generalize Nm.NumL.ret (ofP a) = na at HNA HOA
  generalize Nm.NumL.ret (ofP b) = nb at HNB HOB
  obtain ⟨k, x, y, z⟩ := a
  obtain ⟨k', x', y', z'⟩ := b
  simp only [TermL.v] at HT HSA HSB HOA HOB ⊢
  have cA := two_regrown HTA.out
  have cB := two_regrown HTB.out
  dsimp only at cA cB
  have a0 := fun d os => (cA d os).1; have a1 := fun d os => (cA d os).2.1; have a2 := fun d os => (cA d os).2.2.1; have a3 := fun d os => (cA d os).2.2.2
  have b0 := fun d os => (cB d os).1; have b1 := fun d os => (cB d os).2.1; have b2 := fun d os => (cB d os).2.2.1; have b3 := fun d os => (cB d os).2.2.2
  have cS : ∀ d os, Calls Tryz.prog 40 #[.agg #[.int .i64 k, .string (bs x), .string (bs y), .string (bs z)]] (grow (redrawn W0 d) os) fun e w'' => e = .returned (.int .i64 sa) ∧ ∃ p : Regrown, w'' = grow (redrawn W0 p.d) p.os := fun d os => Calls.regrown_of (HSA.out _)
  have cT : ∀ d os, Calls Tryz.prog 40 #[.agg #[.int .i64 k', .string (bs x'), .string (bs y'), .string (bs z')]] (grow (redrawn W0 d) os) fun e w'' => e = .returned (.int .i64 sb) ∧ ∃ p : Regrown, w'' = grow (redrawn W0 p.d) p.os := fun d os => Calls.regrown_of (HSB.out _)
  clear cA cB
  go_enter Tryz.func14, Tryz.ntmps14
  go_wp2_with fail
  rw [HW0.out, HAE.out]
  refine wp_region_quiet_below (by kernel_rfl) (by kernel_rfl) ?_
  quiet_step (exact cS _ _)
  quiet_step (exact cS _ _)
  quiet_step (exact cT _ _)
  quiet_step (exact cT _ _)
  quiet_step (exact cT _ _)
  refine wpQuiet_nil ?_
  intro W1 hw'
  obtain ⟨⟨dq, osq⟩, hw''⟩ := hw'
  have hb1 : Below W0.heap.size W0 W1 := by rw [hw'']; exact below_regrown W0 dq osq
  have HB1 := Lib.hid hb1
  clear hw'' hb1 cS cT a0 a1 a2 a3 b0 b1 b2 b3
  by_cases hl : sa < sb
  · have HE := Lib.hid (show V = -1 from HV.out.trans ((if_pos (by omega)).trans (if_pos hl)))
    go_wp2
    go_ret
    exact ⟨ret_int HE.out.symm, HB0.out.trans (HB1.out.mono HB0.out.size)⟩
  have hlt1 : A + 1 < W1.heap.size := Nat.lt_of_lt_of_le hlt HB1.out.size
  have HTA1 := Lib.hid (HTA.out.on HB1.out (by omega))
  have HTB1 := Lib.hid (HTB.out.on HB1.out hlt)
  have cA := two_regrown HTA1.out
  have cB := two_regrown HTB1.out
  dsimp only at cA cB
  have a0 := fun d os => (cA d os).1; have a1 := fun d os => (cA d os).2.1; have a2 := fun d os => (cA d os).2.2.1; have a3 := fun d os => (cA d os).2.2.2
  have b0 := fun d os => (cB d os).1; have b1 := fun d os => (cB d os).2.1; have b2 := fun d os => (cB d os).2.2.1; have b3 := fun d os => (cB d os).2.2.2
  have cS : ∀ d os, Calls Tryz.prog 40 #[.agg #[.int .i64 k, .string (bs x), .string (bs y), .string (bs z)]] (grow (redrawn W1 d) os) fun e w'' => e = .returned (.int .i64 sa) ∧ ∃ p : Regrown, w'' = grow (redrawn W1 p.d) p.os := fun d os => Calls.regrown_of (HSA.out _)
  have cT : ∀ d os, Calls Tryz.prog 40 #[.agg #[.int .i64 k', .string (bs x'), .string (bs y'), .string (bs z')]] (grow (redrawn W1 d) os) fun e w'' => e = .returned (.int .i64 sb) ∧ ∃ p : Regrown, w'' = grow (redrawn W1 p.d) p.os := fun d os => Calls.regrown_of (HSB.out _)
  clear cA cB
  go_wp2_with fail
  refine wp_region_quiet_below (by kernel_rfl) (by kernel_rfl) ?_
  quiet_step (exact cS _ _)
  quiet_step (exact cS _ _)
  quiet_step (exact cT _ _)
  quiet_step (exact cT _ _)
  quiet_step (exact cT _ _)
  refine wpQuiet_nil ?_
  intro W2 hw'
  obtain ⟨⟨dq, osq⟩, hw''⟩ := hw'
  have hb2 : Below W1.heap.size W1 W2 := by rw [hw'']; exact below_regrown W1 dq osq
  have HB2 := Lib.hid (fb2 (fb2 HB0.out HB1.out (Nat.le_refl _)) hb2 (Nat.le_refl _))
  have hlt2 : A + 1 < W2.heap.size := Nat.lt_of_lt_of_le hlt1 hb2.size
  have hTA2 := HTA1.out.on hb2 (by omega)
  have hTB2 := HTB1.out.on hb2 hlt1
  clear hw'' hb2 cS cT a0 a1 a2 a3 b0 b1 b2 b3 HTA1 HTB1 HTA HTB HB0 HB1 hlt hlt1
  by_cases hg : sb < sa
  · have HE := Lib.hid (show V = 1 from HV.out.trans ((if_pos (by omega)).trans ((if_neg (by omega)).trans (if_pos hg))))
    go_wp2
    go_ret
    exact ⟨ret_int HE.out.symm, HB2.out⟩
  have hs : sa = sb := by omega
  subst hs
  clear hl hg
  replace HV := Lib.hid (HV.out.trans (if_neg (fun c => c rfl)))
  have ng : ¬ sa < sa := by omega
  obtain ⟨a0, a1, a2, a3⟩ := hTA2
  obtain ⟨b0, b1, b2, b3⟩ := hTB2
  dsimp only at a0 a1 a2 a3 b0 b1 b2 b3
  rw [Nat.zero_add] at a1 a2 a3 b1 b2 b3
  go_wp2_with fail
  refine (HSA.out _).mono ?_
  rintro e w3 ⟨rfl, hb3⟩
  have hlt3 : A + 1 < w3.heap.size := Nat.lt_of_lt_of_le hlt2 hb3.size
  replace a0 := keptC a0 hb3 (by omega)
  replace a1 := keptC a1 hb3 (by omega)
  replace a2 := keptC a2 hb3 (by omega)
  replace a3 := keptC a3 hb3 (by omega)
  replace b0 := keptC b0 hb3 (by omega)
  replace b1 := keptC b1 hb3 (by omega)
  replace b2 := keptC b2 hb3 (by omega)
  replace b3 := keptC b3 hb3 (by omega)
  have HB3 := Lib.hid (fb2 HB2.out hb3 (Nat.le_refl _))
  clear hb3 hlt2 HB2 HSA HSB ng
  by_cases h3 : sa = 3
  · obtain ⟨v, j, d, rfl, hj, l1, l2, hm⟩ := HNA.out h3
    obtain ⟨v', j', d', rfl, hj', l1', l2', hm'⟩ := HNB.out h3
    have g3 : (sa == 3) = true := beq_iff_eq.2 h3
    have HC := Lib.hid (fun W => Nm.rCompare_calls v j d v' j' d' W hj l1 l2 hj' l1' l2')
    rw [← hm, ← hm'] at HC
    obtain ⟨q, hq⟩ : ∃ q, cmpZ ma mb = q := ⟨_, rfl⟩
    rw [cmpI_is, hq] at HC
    rw [hq] at HV
    clear hq hm hm' hj hj' l1 l2 l1' l2' HNA HNB
    go_wp2_with fail
    refine (HOA.out _).mono ?_
    rintro e w4 ⟨rfl, hb4⟩
    have hs4 := hb4.size
    replace a0 := keptC a0 hb4 (by omega)
    replace a1 := keptC a1 hb4 (by omega)
    replace a2 := keptC a2 hb4 (by omega)
    replace a3 := keptC a3 hb4 (by omega)
    replace b0 := keptC b0 hb4 (by omega)
    replace b1 := keptC b1 hb4 (by omega)
    replace b2 := keptC b2 hb4 (by omega)
    replace b3 := keptC b3 hb4 (by omega)
    have hlw4 : A + 1 < w4.heap.size := by omega
    go_wp2_with fail
    obtain ⟨N1, hN1⟩ : ∃ N1, w4.heap.size = N1 := ⟨_, rfl⟩
    obtain ⟨W4, hW4⟩ : ∃ W4, w4.alloc (.cells #[.int .i64 v, .int .i64 j, .bool d] 58) = W4 := ⟨_, rfl⟩
    have HN1 := Lib.hid hN1
    have HW4 := Lib.hid hW4
    have hbx : Below w4.heap.size w4 W4 := by rw [← hW4]; exact box_below _ _
    have hNB : Blk W4 N1 58 #[.int .i64 v, .int .i64 j, .bool d] := by rw [← hW4, ← hN1]; exact blk_new _ _ _
    replace a0 := keptC a0 hbx (by omega)
    replace a1 := keptC a1 hbx (by omega)
    replace a2 := keptC a2 hbx (by omega)
    replace a3 := keptC a3 hbx (by omega)
    replace b0 := keptC b0 hbx (by omega)
    replace b1 := keptC b1 hbx (by omega)
    replace b2 := keptC b2 hbx (by omega)
    replace b3 := keptC b3 hbx (by omega)
    have n0 : W4.cell? ⟨N1, 0, none⟩ = some (.int .i64 v) := (blk_cell hNB 0).trans rfl
    have n1 : W4.cell? ⟨N1, 1, none⟩ = some (.int .i64 j) := (blk_cell hNB 1).trans rfl
    have n2 : W4.cell? ⟨N1, 2, none⟩ = some (.bool d) := (blk_cell hNB 2).trans rfl
    have hlN : N1 < W4.heap.size := blk_lt hNB
    have hlA : A + 1 < N1 := by omega
    have HB4 := Lib.hid (fb2 (fb2 HB3.out hb4 (Nat.le_refl _)) hbx (Nat.le_refl _))
    clear hb4 hs4 hN1 hW4 hbx hNB hlt3 HB3
    rw [HW4.out, HN1.out]
    refine (HOB.out _).mono ?_
    rintro e w5 ⟨rfl, hb5⟩
    have hs5 := hb5.size
    replace a0 := keptC a0 hb5 (by omega)
    replace a1 := keptC a1 hb5 (by omega)
    replace a2 := keptC a2 hb5 (by omega)
    replace a3 := keptC a3 hb5 (by omega)
    replace b0 := keptC b0 hb5 (by omega)
    replace b1 := keptC b1 hb5 (by omega)
    replace b2 := keptC b2 hb5 (by omega)
    replace b3 := keptC b3 hb5 (by omega)
    replace n0 := keptC n0 hb5 (by omega)
    replace n1 := keptC n1 hb5 (by omega)
    replace n2 := keptC n2 hb5 (by omega)
    have hlw5 : A + 1 < w5.heap.size := by omega
    have hk5 : N1 < w5.heap.size := by omega
    go_wp2_with fail
    obtain ⟨N2, hN2⟩ : ∃ N2, w5.heap.size = N2 := ⟨_, rfl⟩
    obtain ⟨W5, hW5⟩ : ∃ W5, w5.alloc (.cells #[.int .i64 v', .int .i64 j', .bool d'] 58) = W5 := ⟨_, rfl⟩
    have HN2 := Lib.hid hN2
    have HW5 := Lib.hid hW5
    have hbx : Below w5.heap.size w5 W5 := by rw [← hW5]; exact box_below _ _
    have hNB : Blk W5 N2 58 #[.int .i64 v', .int .i64 j', .bool d'] := by rw [← hW5, ← hN2]; exact blk_new _ _ _
    replace a0 := keptC a0 hbx (by omega)
    replace a1 := keptC a1 hbx (by omega)
    replace a2 := keptC a2 hbx (by omega)
    replace a3 := keptC a3 hbx (by omega)
    replace b0 := keptC b0 hbx (by omega)
    replace b1 := keptC b1 hbx (by omega)
    replace b2 := keptC b2 hbx (by omega)
    replace b3 := keptC b3 hbx (by omega)
    replace n0 := keptC n0 hbx (by omega)
    replace n1 := keptC n1 hbx (by omega)
    replace n2 := keptC n2 hbx (by omega)
    have m0 : W5.cell? ⟨N2, 0, none⟩ = some (.int .i64 v') := (blk_cell hNB 0).trans rfl
    have m1 : W5.cell? ⟨N2, 1, none⟩ = some (.int .i64 j') := (blk_cell hNB 1).trans rfl
    have m2 : W5.cell? ⟨N2, 2, none⟩ = some (.bool d') := (blk_cell hNB 2).trans rfl
    have hlM : N2 < W5.heap.size := blk_lt hNB
    have hlB : N1 < N2 := by omega
    have HB5 := Lib.hid (fb2 (fb2 HB4.out hb5 (Nat.le_refl _)) hbx (Nat.le_refl _))
    clear hb5 hs5 hN2 hW5 hbx hNB hlN HB4
    rw [HW5.out, HN2.out]
    refine (HC.out _).mono ?_
    rintro e w6 ⟨rfl, hb6⟩
    replace a0 := keptC a0 hb6 (by omega)
    replace a1 := keptC a1 hb6 (by omega)
    replace a2 := keptC a2 hb6 (by omega)
    replace a3 := keptC a3 hb6 (by omega)
    replace b0 := keptC b0 hb6 (by omega)
    replace b1 := keptC b1 hb6 (by omega)
    replace b2 := keptC b2 hb6 (by omega)
    replace b3 := keptC b3 hb6 (by omega)
    replace n0 := keptC n0 hb6 (by omega)
    replace n1 := keptC n1 hb6 (by omega)
    replace n2 := keptC n2 hb6 (by omega)
    replace m0 := keptC m0 hb6 (by omega)
    replace m1 := keptC m1 hb6 (by omega)
    replace m2 := keptC m2 hb6 (by omega)
    have hlC : N2 < w6.heap.size := Nat.lt_of_lt_of_le hlM hb6.size
    have HB6 := Lib.hid (fb2 HB5.out hb6 (Nat.le_refl _))
    clear hb6 hlM HB5
    by_cases hq : q = 0
    · have HE := Lib.hid (HV.out.trans (if_neg (fun c => c.2 hq)))
      have gq : (q != 0) = false := by rw [hq]; rfl
      clear HV hq
      go_wp2_with fail
      refine (HT.out _).mono ?_
      rintro e w7 ⟨rfl, hb7⟩
      have HB7 := Lib.hid (fb2 HB6.out hb7 (Nat.le_refl _))
      clear hb7
      go_wp2
      go_ret
      exact ⟨ret_int HE.out.symm, HB7.out⟩
    · have HE := Lib.hid (HV.out.trans (if_pos ⟨h3, hq⟩))
      have gq : (q != 0) = true := bne_iff_ne.2 hq
      clear HV hq
      go_wp2_with fail
      refine (HC.out _).mono ?_
      rintro e w7 ⟨rfl, hb7⟩
      have HB7 := Lib.hid (fb2 HB6.out hb7 (Nat.le_refl _))
      clear hb7
      go_wp2
      go_ret
      exact ⟨ret_int HE.out.symm, HB7.out⟩
  · have HE := Lib.hid (HV.out.trans (if_neg (fun c => h3 c.1)))
    have g3 : (sa == 3) = false := beq_eq_false_iff_ne.2 h3
    clear HV h3 HNA HNB
    go_wp2_with fail
    refine (HT.out _).mono ?_
    rintro e w4 ⟨rfl, hb4⟩
    have HB4 := Lib.hid (fb2 HB3.out hb4 (Nat.le_refl _))
    clear hb4
    go_wp2
    go_ret
    exact ⟨ret_int HE.out.symm, HB4.out⟩

end Go.Proofs.YtkfemnjblbnclaaGreatDoor
