/- ShpVCmp, GrpEnds, put together. -/
import Derived.Test.YtdnfaoanaehjhaaGreatDoorH23
import Derived.Test.YtdnfaoanaehjhaaGreatDoorH6
import Derived.Test.YtdnfaoanaehjhaaGreatDoorH9
import Derived.Lib.QuietBelow

/- Which of two values is ahead: package shape's compareValues and Compare, for every two terms. -/
namespace Go.Proofs.YtdnfaoanaehjhaaGreatDoor
open Go.RowKit

theorem compareInt_is (a b : Int) : Lib.compareInt a b = cmpZ a b := rfl
theorem cmpI_is (a b : Int) : Nm.cmpI a b = cmpZ a b := rfl
theorem num_of {t : TermL} (h : sortP t = 3) : ∃ (v : Int) (j : Nat) (d : Bool), numP t = ⟨v, j, d⟩ ∧ j ≤ 4 ∧ -999999999 ≤ v ∧ v ≤ 999999999 ∧ Nm.rightZ v j d = true ∧ amtP t = Nm.amt v j := by
  have h1 := of_numR (sort3_of h)
  obtain ⟨j, hj, h4⟩ := h1.s
  rw [numP_is h]
  refine ⟨(ofP t).1.v, j, (ofP t).1.d, ?_, h4, h1.lo, h1.hi, by rw [← hj]; exact h1.r, ?_⟩
  · rw [← hj]
  · unfold amtP
    rw [hj]; rfl
theorem boxes_gone {w w1 : World} {o o2 : Obj} (h1 : Below ((w.alloc o).alloc o2).heap.size ((w.alloc o).alloc o2) w1) : Below w.heap.size w w1 := two_gone h1

set_option maxRecDepth 100000 in
set_option maxHeartbeats 4000000 in
theorem vcmp_calls (a b : TermL) (w : World) (hg : GoodN w) :
    Calls Tryz.prog 97 #[valV a, valV b] w fun e w' => e = .returned (.int .i64 (valP a b)) ∧ Below w.heap.size w w' := by
  have HV := Lib.hid (show valP a b = if sortP a ≠ sortP b then cmpZ (sortP a) (sortP b) else if sortP a = 3 ∧ cmpZ (amtP a) (amtP b) ≠ 0 then cmpZ (amtP a) (amtP b) else tcmp a b from rfl)
  have HT := Lib.hid (fun W => Compare_calls a.k (bs a.x) (bs a.y) (bs a.z) b.k (bs b.x) (bs b.y) (bs b.z) W)
  have HTC := Lib.hid (show tcmp a b = termCmp a.k a.x a.y a.z b.k b.x b.y b.z from rfl)
  have HNA := Lib.hid (@num_of a)
  have HNB := Lib.hid (@num_of b)
  have HG := Lib.hid hg
  simp only [bs_data] at HT
  unfold valV
  clear hg
  rw [← HTC.out] at HT
  generalize tcmp a b = tc at HT HV
  generalize valP a b = V at HV ⊢
  generalize sortP a = sa at HV HNA ⊢
  generalize sortP b = sb at HV HNB ⊢
  generalize amtP a = ma at HV HNA
  generalize amtP b = mb at HV HNB
  generalize numP a = na at HNA ⊢
  generalize numP b = nb at HNB ⊢
  obtain ⟨k, x, y, z⟩ := a
  obtain ⟨k', x', y', z'⟩ := b
  dsimp only at HT ⊢
  clear HTC
  obtain ⟨nv, ns, nd⟩ := na
  obtain ⟨nv', ns', nd'⟩ := nb
  dsimp only
  by_cases h0 : sa = sb
  · subst h0
    replace HV := Lib.hid (HV.out.trans (if_neg (fun c => c rfl)))
    have gne : (sa != sa) = false := bne_self_eq_false _
    by_cases h3 : sa = 3
    · obtain ⟨v, j, d, e, hj, l1, l2, hr, hm⟩ := HNA.out h3
      obtain ⟨v', j', d', e', hj', l1', l2', hr', hm'⟩ := HNB.out h3
      simp only [Nm.NumL.mk.injEq] at e e'
      obtain ⟨rfl, rfl, rfl⟩ := e
      obtain ⟨rfl, rfl, rfl⟩ := e'
      have HC := Lib.hid (fun W hW => Nm.Compare_right nv j nd nv' j' nd' W hW hr hr' hj l1 l2 hj' l1' l2')
      rw [← hm, ← hm'] at HC
      have g3 : (sa == 3) = true := beq_iff_eq.2 h3
      clear HNA HNB hr hr' hm hm' hj hj' l1 l2 l1' l2'
      obtain ⟨q, hq⟩ : ∃ q, cmpZ ma mb = q := ⟨_, rfl⟩
      rw [cmpI_is, hq] at HC
      rw [hq] at HV
      clear hq
      by_cases hq : q = 0
      · have HE := Lib.hid (HV.out.trans (if_neg (fun c => c.2 hq)))
        have gq : (q != 0) = false := by rw [hq]; rfl
        clear hq h3 HV
        go_enter Tryz.func97, Tryz.ntmps97
        go_wp2_with fail
        refine (HC.out _ (by (repeat (with_reducible (first | exact HG.out | refine Nm.Good.alloc ?_ _))))).mono ?_
        rintro e w1 ⟨rfl, hb1⟩
        obtain ⟨hc, hf⟩ := bcell hb1
        have hz := two_size hb1
        have hz0 : w.heap.size < w1.heap.size := by omega
        have HB1 := Lib.hid (two_gone hb1)
        clear hb1
        go_wp2_with fail
        refine (HT.out _).mono ?_
        rintro e w2 ⟨rfl, hb2⟩
        have HB2 := Lib.hid (bnext HB1.out hb2)
        clear hb2 hc hf hz hz0
        go_wp2
        go_ret
        exact ⟨by rw [HE.out]; rfl, HB2.out⟩
      · have HE := Lib.hid (HV.out.trans (if_pos ⟨h3, hq⟩))
        have gq : (q != 0) = true := bne_iff_ne.2 hq
        clear hq h3 HV HT
        go_enter Tryz.func97, Tryz.ntmps97
        go_wp2_with fail
        refine (HC.out _ (by (repeat (with_reducible (first | exact HG.out | refine Nm.Good.alloc ?_ _))))).mono ?_
        rintro e w1 ⟨rfl, hb1⟩
        have HB1 := Lib.hid (two_gone hb1)
        clear hb1
        go_wp2
        go_ret
        exact ⟨by rw [HE.out]; rfl, HB1.out⟩
    · have HE := Lib.hid (HV.out.trans (if_neg (fun c => h3 c.1)))
      have g3 : (sa == 3) = false := beq_eq_false_iff_ne.2 h3
      clear h3 HV HNA HNB
      go_enter Tryz.func97, Tryz.ntmps97
      go_wp2_with fail
      refine (HT.out _).mono ?_
      rintro e w1 ⟨rfl, hb1⟩
      have HB1 := Lib.hid (two_gone hb1)
      clear hb1
      go_wp2
      go_ret
      exact ⟨by rw [HE.out]; rfl, HB1.out⟩
  · have HE := Lib.hid (HV.out.trans (if_pos h0))
    have gne : (sa != sb) = true := bne_iff_ne.2 h0
    clear h0 HV HNA HNB HT
    have HC := Lib.hid (fun W => Tryz.cmp_Compare_int sa sb W)
    rw [compareInt_is] at HC
    generalize cmpZ sa sb = q at HC HE
    go_enter Tryz.func97, Tryz.ntmps97
    go_wp2_with fail
    refine (HC.out _).mono ?_
    rintro e w1 ⟨rfl, hw⟩
    obtain rfl := hw.symm
    clear hw
    go_wp2
    go_ret
    exact ⟨by rw [HE.out]; rfl, (box_below _ _).alloc (by simp) _⟩

set_option maxRecDepth 100000 in
set_option maxHeartbeats 4000000 in
theorem sCompare_calls (a b : TermL) (ha : a.ok) (hb : b.ok) (w : World) (hg : GoodN w) :
    Calls Tryz.prog 72 #[a.v, b.v] w fun e w' => e = .returned (.int .i64 (valP a b)) ∧ Below w.heap.size w w' := by
  have HA := Lib.hid (fun W hW => valueOf_calls a ha W hW)
  have HB := Lib.hid (fun W hW => valueOf_calls b hb W hW)
  have HC := Lib.hid (fun W hW => vcmp_calls a b W hW)
  have HT := Lib.hid (term_two (w := w) (t := a) (u := b) (T := 37))
  have HB0 := Lib.hid ((box_below w (.cells #[.int .i64 a.k, .string (bs a.x), .string (bs a.y), .string (bs a.z)] 37)).alloc (by simp) (.cells #[.int .i64 b.k, .string (bs b.x), .string (bs b.y), .string (bs b.z)] 37))
  have HG := Lib.hid (hg.on HB0.out)
  clear ha hb hg
  generalize valP a b = V at HC ⊢
  generalize valV a = va at HA HC
  generalize valV b = vb at HB HC
  simp only [TermL.v] at HA HB ⊢
  go_enter Tryz.func72, Tryz.ntmps72
  go_wp2_with fail
  refine name_world (fun W0 hW0 => ?_)
  rw [← hW0] at HT HB0 HG
  have hlt0 : w.heap.size < W0.heap.size := by rw [hW0]; simp; omega
  have hlt1 : w.heap.size + 1 < W0.heap.size := by rw [hW0]; simp
  clear hW0
  have HTA := Lib.hid HT.out.1
  have HTB := Lib.hid HT.out.2
  clear HT
  refine wp_region_held_drew (S := (fun W => Below W0.heap.size W0 W)) (by kernel_rfl) ?_ (fun hHeld => ?_)
  · (try dsimp only); exact (Below.refl _ _).drew
  have hbn : Below W0.heap.size W0 W0.drew := (Below.refl _ _).drew
  refine wpAnyH_take (i := 0) (oi := ⟨some 5, _, _, _, _, _⟩) (v := ?_) rfl (by kernel_rfl) (by kernel_rfl) (by kernel_rfl) (fun _ _ _ h => h) (Or.inl ⟨by kernel_rfl, ?_⟩) (by assumption) ?_
  rotate_left
  · (intro ww hSw; (try dsimp only at hSw); obtain ⟨c0, c1, c2, c3⟩ := HTA.out.on hSw hlt0; go_simp); (try with_reducible rfl)
  (try simp only [Act.put, List.setIfInBounds_toArray, List.set_cons_zero, List.set_cons_succ])
  refine wpAnyH_take (i := 2) (oi := ⟨some 7, _, _, _, _, _⟩) (v := ?_) rfl (by kernel_rfl) (by kernel_rfl) (by kernel_rfl) (fun _ _ _ h => h) (Or.inl ⟨by kernel_rfl, ?_⟩) (by assumption) ?_
  rotate_left
  · (intro ww hSw; (try dsimp only at hSw); obtain ⟨c0, c1, c2, c3⟩ := HTB.out.on hSw hlt1; go_simp); (try with_reducible rfl)
  (try simp only [Act.put, List.setIfInBounds_toArray, List.set_cons_zero, List.set_cons_succ])
  refine wpAnyH_ready (rs := [1]) (by kernel_rfl) (by simp) ?_
  refine AllReadyH.cons rfl (fun K hK => ?_) AllReadyH.nil
  go_simp
  refine (HA.out _ (by first | exact HG.out.on hbn | exact HG.out.on hbn.drew)).mono ?_
  rintro e ws ⟨rfl, hbs⟩
  replace hbn := bnext (by first | exact hbn | exact hbn.drew) hbs
  clear hbs
  go_wp2_with fail
  refine hK.out _ _ ?_ (fun hHeld => ?_)
  · (try dsimp only); first | exact hbn | exact hbn.drew
  clear hK K
  (try simp only [Act.put, List.setIfInBounds_toArray, List.set_cons_zero, List.set_cons_succ])
  refine wpAnyH_ready (rs := [3]) (by kernel_rfl) (by simp) ?_
  refine AllReadyH.cons rfl (fun K hK => ?_) AllReadyH.nil
  go_simp
  refine (HB.out _ (by first | exact HG.out.on hbn | exact HG.out.on hbn.drew)).mono ?_
  rintro e ws ⟨rfl, hbs⟩
  replace hbn := bnext (by first | exact hbn | exact hbn.drew) hbs
  clear hbs
  go_wp2_with fail
  refine hK.out _ _ ?_ (fun hHeld => ?_)
  · (try dsimp only); first | exact hbn | exact hbn.drew
  clear hK K
  (try simp only [Act.put, List.setIfInBounds_toArray, List.set_cons_zero, List.set_cons_succ])
  refine wpAnyH_ready (rs := [4]) (by kernel_rfl) (by simp) ?_
  refine AllReadyH.cons rfl (fun K hK => ?_) AllReadyH.nil
  go_simp
  refine (HC.out _ (by first | exact HG.out.on hbn | exact HG.out.on hbn.drew)).mono ?_
  rintro e ws ⟨rfl, hbs⟩
  replace hbn := bnext (by first | exact hbn | exact hbn.drew) hbs
  clear hbs
  go_wp2_with fail
  refine hK.out _ _ ?_ (fun hHeld => ?_)
  · (try dsimp only); first | exact hbn | exact hbn.drew
  clear hK K
  (try simp only [Act.put, List.setIfInBounds_toArray, List.set_cons_zero, List.set_cons_succ])
  refine wpAnyH_take (i := 5) (oi := ⟨some 4, _, _, _, _, _⟩) (v := ?_) rfl (by kernel_rfl) (by kernel_rfl) (by kernel_rfl) (fun _ _ _ h => h) (Or.inl ⟨by kernel_rfl, ?_⟩) (by assumption) ?_
  rotate_left
  · (intro ww hSw; (try dsimp only at hSw); go_simp); (try with_reducible rfl)
  (try simp only [Act.put, List.setIfInBounds_toArray, List.set_cons_zero, List.set_cons_succ])
  refine wpAnyH_done (by kernel_rfl) ?_ _
  go_wp2
  go_ret
  exact ⟨rfl, HB0.out.trans (hbn.mono HB0.out.size)⟩

end Go.Proofs.YtdnfaoanaehjhaaGreatDoor

/- The first and the last of terms: slices.MinFunc, slices.MaxFunc with package shape's Compare (written by gen/mkmin13.py). -/
namespace Go.Proofs.YtdnfaoanaehjhaaGreatDoor
open Go.RowKit Go.Sort

theorem ends_next (last : Bool) {l : List TermL} {k : Nat} (hk : k < l.length) (h1 : 1 ≤ k) : endT last (l.take (k + 1)) = endP last (endT last (l.take k)) l[k] := by
  rw [List.take_succ_eq_append_getElem hk, end_snoc]
  intro c
  have := congrArg List.length c
  rw [List.length_take, List.length_nil] at this
  omega
theorem fold_ok (last : Bool) : ∀ (r : List TermL) (x : TermL), x.ok → (∀ t ∈ r, t.ok) → (r.foldl (endP last) x).ok := by
  intro r
  induction r with
  | nil => intro x hx _; exact hx
  | cons y r ih =>
    intro x hx h
    refine ih _ ?_ (fun t ht => h t (List.mem_cons_of_mem _ ht))
    unfold endP
    by_cases c : (if last = true then 0 < valP y x else valP y x < 0)
    · rw [if_pos c]; exact h y List.mem_cons_self
    · rw [if_neg c]; exact hx
theorem nilT_ok : nilT.ok := ⟨by decide, by decide, by decide⟩
theorem ends_ok {last : Bool} {l : List TermL} (h : ∀ t ∈ l, t.ok) : (endT last l).ok := by
  cases l with
  | nil => exact nilT_ok
  | cons t r => exact fold_ok last r t (h t List.mem_cons_self) (fun u hu => h u (List.mem_cons_of_mem _ hu))
structure EndR (last : Bool) (A : Nat) (w : World) (l : List TermL) (k : Nat) (wr : World) : Prop where
  res : Blk wr A 37 #[.int .i64 0, .string ⟨#[]⟩, .string ⟨#[]⟩, .string ⟨#[]⟩]
  box : Blk wr (A + 1) 37 (endT last (l.take k)).cs.toArray
  below : Below w.heap.size w wr
theorem cs_blk {W : World} {X : Nat} {t : TermL} (h : Blk W X 37 t.cs.toArray) : TermAt W X 0 t := ⟨(blk_cell h 0).trans rfl, (blk_cell h 1).trans rfl, (blk_cell h 2).trans rfl, (blk_cell h 3).trans rfl⟩

set_option maxRecDepth 100000 in
set_option maxHeartbeats 4000000 in
theorem minF_calls (l : List TermL) (hl : ∀ t ∈ l, t.ok) (a : Option Addr) (n c : Nat) (w : World) (hg : GoodN w) (h : TrmA w a n c l) (h0 : 0 < n) :
    Calls Tryz.prog 71 #[.slice a n c, .func (.func 72) #[] #[]] w fun e w' => e = .returned (endT false l).v ∧ Below w.heap.size w w' := by
  have HIN := Lib.hid h
  have HOK := Lib.hid hl
  have HG := Lib.hid hg
  have HL := Lib.hid h.len
  have hcp := h.cap
  have hms := h.most
  unfold maxLen at hms
  obtain ⟨g, o, ha, hgw, hcells⟩ := h.cells h0
  subst ha
  have hl0 : 0 < l.length := by rw [HL.out]; exact h0
  obtain ⟨c0, c1, c2, c3⟩ := hcells 0 hl0
  rw [Nat.zero_mul, Nat.add_zero] at c0 c1 c2 c3
  have HC := Lib.hid hcells
  have HGW := Lib.hid hgw
  have HE1 := Lib.hid (show endT false (l.take 1) = l[0] by
    cases l with
    | nil => exact absurd hl0 (Nat.lt_irrefl _)
    | cons t r => rfl)
  obtain ⟨A, hA⟩ : ∃ A, w.heap.size = A := ⟨_, rfl⟩
  have HS0 := Lib.hid (show EndR false A w l 1 ((w.alloc (.cells #[.int .i64 0, .string ⟨#[]⟩, .string ⟨#[]⟩, .string ⟨#[]⟩] 37)).alloc (.cells #[.int .i64 l[0].k, .string (bs l[0].x), .string (bs l[0].y), .string (bs l[0].z)] 37)) from by
    refine ⟨?_, ?_, two_alloc _ _ _⟩
    · rw [← hA]; exact blk_alloc (blk_new _ _ _) _
    · rw [HE1.out]
      have := blk_new (w.alloc (.cells #[.int .i64 0, .string ⟨#[]⟩, .string ⟨#[]⟩, .string ⟨#[]⟩] 37)) 37 l[0].cs.toArray
      rw [World.size_alloc, hA] at this
      exact this)
  have HAE := Lib.hid hA
  have n1 : ¬ (n : Int) < 1 := by omega
  have hgA : ¬ g = w.heap.size := by omega
  generalize l[0] = y at c0 c1 c2 c3 HS0
  obtain ⟨W0, hW0⟩ : ∃ W0, (w.alloc (.cells #[.int .i64 0, .string ⟨#[]⟩, .string ⟨#[]⟩, .string ⟨#[]⟩] 37)).alloc (.cells #[.int .i64 y.k, .string (bs y.x), .string (bs y.y), .string (bs y.z)] 37) = W0 := ⟨_, rfl⟩
  rw [hW0] at HS0
  have HW0 := Lib.hid hW0
  clear hcells h hl hg hA hl0 HE1 hW0
  go_enter Tryz.func71, Tryz.ntmps71
  go_wp2
  rw [HW0.out, HAE.out]
  clear c0 c1 c2 c3
  go_loopg [6] n (fun g i wr => ∃ k : Nat, i = .int .i64 k ∧ k + g = n + 1 ∧ 1 ≤ k ∧ k ≤ n ∧ Hid (EndR false A w l k wr))
  case atStart => exact ⟨1, rfl, by omega, by omega, by omega, HS0⟩
  case round =>
    obtain ⟨W1, rfl⟩ : ∃ W1, W1 = wr := ⟨_, rfl⟩
    obtain ⟨k, rfl, hkg, hk1, hkn, HRD⟩ := hrel
    have HA1 := Lib.hid HRD.out.res
    have HX1 := Lib.hid HRD.out.box
    have HB1 := Lib.hid HRD.out.below
    clear HRD
    have k0 : (0 : Int) ≤ (k : Int) := by omega
    by_cases hk : k < n
    · obtain ⟨gg, rfl⟩ : ∃ gg, gk = gg + 1 := ⟨gk - 1, by omega⟩
      have hkL : k < l.length := by rw [HL.out]; exact hk
      have hgw := HGW.out
      have hgW : g < W1.heap.size := Nat.lt_of_lt_of_le hgw HB1.out.size
      have htm := (HC.out k hkL).on HB1.out hgw
      have HNX := Lib.hid (ends_next false hkL hk1)
      have HTK := Lib.hid (HOK.out _ (List.getElem_mem hkL))
      have HMK := Lib.hid (ends_ok (last := false) (l := l.take k) (fun t ht => HOK.out t (List.mem_of_mem_take ht)))
      generalize l[k] = y at htm HNX HTK
      generalize endT false (l.take k) = m at HX1 HNX HMK
      have HCC := Lib.hid (fun W hW => sCompare_calls y m HTK.out HMK.out W hW)
      have HPE := Lib.hid (show endP false m y = if valP y m < 0 then y else m by unfold endP; simp)
      obtain ⟨q, hq⟩ : ∃ q, valP y m = q := ⟨_, rfl⟩
      rw [hq] at HCC HPE
      have hbx := cs_blk HX1.out
      have HTM := Lib.hid htm
      simp only [TermL.v] at HCC
      have c0 : ∀ d os, (grow (redrawn W1 d) os).cell? ⟨g, o + k * 4, none⟩ = some (.int .i64 y.k) := fun d os => cell_regrown htm.1 d os
      have c1 : ∀ d os, (grow (redrawn W1 d) os).cell? ⟨g, o + k * 4 + 1, none⟩ = some (.string (bs y.x)) := fun d os => cell_regrown htm.2.1 d os
      have c2 : ∀ d os, (grow (redrawn W1 d) os).cell? ⟨g, o + k * 4 + 2, none⟩ = some (.string (bs y.y)) := fun d os => cell_regrown htm.2.2.1 d os
      have c3 : ∀ d os, (grow (redrawn W1 d) os).cell? ⟨g, o + k * 4 + 3, none⟩ = some (.string (bs y.z)) := fun d os => cell_regrown htm.2.2.2 d os
      have b0 : ∀ d os, (grow (redrawn W1 d) os).cell? ⟨A + 1, 0, none⟩ = some (.int .i64 m.k) := fun d os => cell_regrown hbx.1 d os
      have b1 : ∀ d os, (grow (redrawn W1 d) os).cell? ⟨A + 1, 1, none⟩ = some (.string (bs m.x)) := fun d os => cell_regrown hbx.2.1 d os
      have b2 : ∀ d os, (grow (redrawn W1 d) os).cell? ⟨A + 1, 2, none⟩ = some (.string (bs m.y)) := fun d os => cell_regrown hbx.2.2.1 d os
      have b3 : ∀ d os, (grow (redrawn W1 d) os).cell? ⟨A + 1, 3, none⟩ = some (.string (bs m.z)) := fun d os => cell_regrown hbx.2.2.2 d os
      have cW : ∀ d os, Calls Tryz.prog 72 #[.agg #[.int .i64 y.k, .string (bs y.x), .string (bs y.y), .string (bs y.z)], .agg #[.int .i64 m.k, .string (bs m.x), .string (bs m.y), .string (bs m.z)]] (grow (redrawn W1 d) os) fun e w'' => e = .returned (.int .i64 q) ∧ ∃ p : Regrown, w'' = grow (redrawn W1 p.d) p.os := fun d os => Calls.regrown_of (HCC.out _ (HG.out.on (HB1.out.trans ((below_regrown W1 d os).mono HB1.out.size))))
      clear htm hbx hq
      have k1 : (k : Int) < (n : Int) := by omega
      by_cases hc : q < 0
      · have HN2 := Lib.hid (HNX.out.trans (HPE.out.trans (if_pos hc)))
        clear HNX HPE HTK HMK HCC
        go_wp2_with fail
        refine wp_region_quiet_below (by kernel_rfl) (by kernel_rfl) ?_
        repeat (quiet_step (exact cW _ _))
        refine wpQuiet_nil ?_
        intro _ hw'
        obtain ⟨⟨dq, osq⟩, hw''⟩ := hw'
        subst hw''
        have HBQ := Lib.hid (below_regrown W1 dq osq)
        obtain ⟨W2, hW2⟩ : ∃ W2, grow (redrawn W1 dq) osq = W2 := ⟨_, rfl⟩
        rw [hW2] at HBQ ⊢
        clear c0 c1 c2 c3 b0 b1 b2 b3 cW hW2
        obtain ⟨d0, d1, d2, d3⟩ := HTM.out.on HBQ.out hgW
        have HX2 := Lib.hid (blk_on HX1.out HBQ.out (blk_lt HX1.out))
        have HA2 := Lib.hid (blk_on HA1.out HBQ.out (blk_lt HA1.out))
        have HB2 := Lib.hid (fb2 HB1.out HBQ.out (Nat.le_refl _))
        go_wp2_with (refine whole_abs 37 (.tmp 5) (.tmp 31) ⟨rfl, rfl⟩ (A + 1) y.cs.toArray rfl rfl 37 m.cs.toArray HX2.out (by kernel_rfl) rfl (by kernel_rfl) ?_; intro w4 hX4 hG4; have HX4 := Lib.hid hX4.out; have HA4 := Lib.hid (blk_grown HA2.out (by omega) hG4.out); have HB4 := Lib.hid (HB2.out.grown hG4.out HB2.out.size (fun j hj => by injection hj with hj; have := HAE.out; omega)); clear hX4 hG4)
        go_roundg gg
        case measure => omega
        case rel => exact ⟨k + 1, by go_num, by omega, by omega, by omega, Lib.hid ⟨HA4.out, by rw [HN2.out]; exact HX4.out, HB4.out⟩⟩
      · have HN2 := Lib.hid (HNX.out.trans (HPE.out.trans (if_neg hc)))
        clear HNX HPE HTK HMK HCC
        go_wp2_with fail
        refine wp_region_quiet_below (by kernel_rfl) (by kernel_rfl) ?_
        repeat (quiet_step (exact cW _ _))
        refine wpQuiet_nil ?_
        intro _ hw'
        obtain ⟨⟨dq, osq⟩, hw''⟩ := hw'
        subst hw''
        have HBQ := Lib.hid (below_regrown W1 dq osq)
        obtain ⟨W2, hW2⟩ : ∃ W2, grow (redrawn W1 dq) osq = W2 := ⟨_, rfl⟩
        rw [hW2] at HBQ ⊢
        clear c0 c1 c2 c3 b0 b1 b2 b3 cW hW2
        have HX2 := Lib.hid (blk_on HX1.out HBQ.out (blk_lt HX1.out))
        have HA2 := Lib.hid (blk_on HA1.out HBQ.out (blk_lt HA1.out))
        have HB2 := Lib.hid (fb2 HB1.out HBQ.out (Nat.le_refl _))
        go_wp2
        go_roundg gg
        case measure => omega
        case rel => exact ⟨k + 1, by go_num, by omega, by omega, by omega, Lib.hid ⟨HA2.out, by rw [HN2.out]; exact HX2.out, HB2.out⟩⟩
    · have k1 : ¬ (k : Int) < (n : Int) := by omega
      have ht : l.take k = l := List.take_of_length_le (by rw [HL.out]; omega)
      rw [ht] at HX1
      obtain ⟨m, hm⟩ : ∃ m, endT false l = m := ⟨_, rfl⟩
      rw [hm] at HX1
      have HMM := Lib.hid hm
      clear hm
      obtain ⟨x0, x1, x2, x3⟩ := cs_blk HX1.out
      go_wp2_with (refine whole_abs 37 (.tmp 4) (.tmp 32) ⟨rfl, rfl⟩ A m.cs.toArray rfl rfl 37 #[.int .i64 0, .string ⟨#[]⟩, .string ⟨#[]⟩, .string ⟨#[]⟩] HA1.out (by kernel_rfl) rfl (by kernel_rfl) ?_; intro w5 hA5 hG5)
      obtain ⟨q0, q1, q2, q3⟩ := cs_blk hA5.out
      rw [Nat.zero_add] at q1 q2 q3
      refine bodyPost_ret (v := .agg #[.int .i64 m.k, .string (bs m.x), .string (bs m.y), .string (bs m.z)]) (by simp [results, Tryz.results71, q0, q1, q2, q3, go_sem]) rfl ⟨by rw [HMM.out]; rfl, ?_⟩
      exact HB1.out.grown hG5.out HB1.out.size (fun j hj => by injection hj with hj; have := HAE.out; omega)

set_option maxRecDepth 100000 in
set_option maxHeartbeats 4000000 in
theorem maxF_calls (l : List TermL) (hl : ∀ t ∈ l, t.ok) (a : Option Addr) (n c : Nat) (w : World) (hg : GoodN w) (h : TrmA w a n c l) (h0 : 0 < n) :
    Calls Tryz.prog 73 #[.slice a n c, .func (.func 72) #[] #[]] w fun e w' => e = .returned (endT true l).v ∧ Below w.heap.size w w' := by
  have HIN := Lib.hid h
  have HOK := Lib.hid hl
  have HG := Lib.hid hg
  have HL := Lib.hid h.len
  have hcp := h.cap
  have hms := h.most
  unfold maxLen at hms
  obtain ⟨g, o, ha, hgw, hcells⟩ := h.cells h0
  subst ha
  have hl0 : 0 < l.length := by rw [HL.out]; exact h0
  obtain ⟨c0, c1, c2, c3⟩ := hcells 0 hl0
  rw [Nat.zero_mul, Nat.add_zero] at c0 c1 c2 c3
  have HC := Lib.hid hcells
  have HGW := Lib.hid hgw
  have HE1 := Lib.hid (show endT true (l.take 1) = l[0] by
    cases l with
    | nil => exact absurd hl0 (Nat.lt_irrefl _)
    | cons t r => rfl)
  obtain ⟨A, hA⟩ : ∃ A, w.heap.size = A := ⟨_, rfl⟩
  have HS0 := Lib.hid (show EndR true A w l 1 ((w.alloc (.cells #[.int .i64 0, .string ⟨#[]⟩, .string ⟨#[]⟩, .string ⟨#[]⟩] 37)).alloc (.cells #[.int .i64 l[0].k, .string (bs l[0].x), .string (bs l[0].y), .string (bs l[0].z)] 37)) from by
    refine ⟨?_, ?_, two_alloc _ _ _⟩
    · rw [← hA]; exact blk_alloc (blk_new _ _ _) _
    · rw [HE1.out]
      have := blk_new (w.alloc (.cells #[.int .i64 0, .string ⟨#[]⟩, .string ⟨#[]⟩, .string ⟨#[]⟩] 37)) 37 l[0].cs.toArray
      rw [World.size_alloc, hA] at this
      exact this)
  have HAE := Lib.hid hA
  have n1 : ¬ (n : Int) < 1 := by omega
  have hgA : ¬ g = w.heap.size := by omega
  generalize l[0] = y at c0 c1 c2 c3 HS0
  obtain ⟨W0, hW0⟩ : ∃ W0, (w.alloc (.cells #[.int .i64 0, .string ⟨#[]⟩, .string ⟨#[]⟩, .string ⟨#[]⟩] 37)).alloc (.cells #[.int .i64 y.k, .string (bs y.x), .string (bs y.y), .string (bs y.z)] 37) = W0 := ⟨_, rfl⟩
  rw [hW0] at HS0
  have HW0 := Lib.hid hW0
  clear hcells h hl hg hA hl0 HE1 hW0
  go_enter Tryz.func73, Tryz.ntmps73
  go_wp2
  rw [HW0.out, HAE.out]
  clear c0 c1 c2 c3
  go_loopg [6] n (fun g i wr => ∃ k : Nat, i = .int .i64 k ∧ k + g = n + 1 ∧ 1 ≤ k ∧ k ≤ n ∧ Hid (EndR true A w l k wr))
  case atStart => exact ⟨1, rfl, by omega, by omega, by omega, HS0⟩
  case round =>
    obtain ⟨W1, rfl⟩ : ∃ W1, W1 = wr := ⟨_, rfl⟩
    obtain ⟨k, rfl, hkg, hk1, hkn, HRD⟩ := hrel
    have HA1 := Lib.hid HRD.out.res
    have HX1 := Lib.hid HRD.out.box
    have HB1 := Lib.hid HRD.out.below
    clear HRD
    have k0 : (0 : Int) ≤ (k : Int) := by omega
    by_cases hk : k < n
    · obtain ⟨gg, rfl⟩ : ∃ gg, gk = gg + 1 := ⟨gk - 1, by omega⟩
      have hkL : k < l.length := by rw [HL.out]; exact hk
      have hgw := HGW.out
      have hgW : g < W1.heap.size := Nat.lt_of_lt_of_le hgw HB1.out.size
      have htm := (HC.out k hkL).on HB1.out hgw
      have HNX := Lib.hid (ends_next true hkL hk1)
      have HTK := Lib.hid (HOK.out _ (List.getElem_mem hkL))
      have HMK := Lib.hid (ends_ok (last := true) (l := l.take k) (fun t ht => HOK.out t (List.mem_of_mem_take ht)))
      generalize l[k] = y at htm HNX HTK
      generalize endT true (l.take k) = m at HX1 HNX HMK
      have HCC := Lib.hid (fun W hW => sCompare_calls y m HTK.out HMK.out W hW)
      have HPE := Lib.hid (show endP true m y = if 0 < valP y m then y else m by unfold endP; simp)
      obtain ⟨q, hq⟩ : ∃ q, valP y m = q := ⟨_, rfl⟩
      rw [hq] at HCC HPE
      have hbx := cs_blk HX1.out
      have HTM := Lib.hid htm
      simp only [TermL.v] at HCC
      have c0 : ∀ d os, (grow (redrawn W1 d) os).cell? ⟨g, o + k * 4, none⟩ = some (.int .i64 y.k) := fun d os => cell_regrown htm.1 d os
      have c1 : ∀ d os, (grow (redrawn W1 d) os).cell? ⟨g, o + k * 4 + 1, none⟩ = some (.string (bs y.x)) := fun d os => cell_regrown htm.2.1 d os
      have c2 : ∀ d os, (grow (redrawn W1 d) os).cell? ⟨g, o + k * 4 + 2, none⟩ = some (.string (bs y.y)) := fun d os => cell_regrown htm.2.2.1 d os
      have c3 : ∀ d os, (grow (redrawn W1 d) os).cell? ⟨g, o + k * 4 + 3, none⟩ = some (.string (bs y.z)) := fun d os => cell_regrown htm.2.2.2 d os
      have b0 : ∀ d os, (grow (redrawn W1 d) os).cell? ⟨A + 1, 0, none⟩ = some (.int .i64 m.k) := fun d os => cell_regrown hbx.1 d os
      have b1 : ∀ d os, (grow (redrawn W1 d) os).cell? ⟨A + 1, 1, none⟩ = some (.string (bs m.x)) := fun d os => cell_regrown hbx.2.1 d os
      have b2 : ∀ d os, (grow (redrawn W1 d) os).cell? ⟨A + 1, 2, none⟩ = some (.string (bs m.y)) := fun d os => cell_regrown hbx.2.2.1 d os
      have b3 : ∀ d os, (grow (redrawn W1 d) os).cell? ⟨A + 1, 3, none⟩ = some (.string (bs m.z)) := fun d os => cell_regrown hbx.2.2.2 d os
      have cW : ∀ d os, Calls Tryz.prog 72 #[.agg #[.int .i64 y.k, .string (bs y.x), .string (bs y.y), .string (bs y.z)], .agg #[.int .i64 m.k, .string (bs m.x), .string (bs m.y), .string (bs m.z)]] (grow (redrawn W1 d) os) fun e w'' => e = .returned (.int .i64 q) ∧ ∃ p : Regrown, w'' = grow (redrawn W1 p.d) p.os := fun d os => Calls.regrown_of (HCC.out _ (HG.out.on (HB1.out.trans ((below_regrown W1 d os).mono HB1.out.size))))
      clear htm hbx hq
      have k1 : (k : Int) < (n : Int) := by omega
      by_cases hc : 0 < q
      · have HN2 := Lib.hid (HNX.out.trans (HPE.out.trans (if_pos hc)))
        clear HNX HPE HTK HMK HCC
        go_wp2_with fail
        refine wp_region_quiet_below (by kernel_rfl) (by kernel_rfl) ?_
        repeat (quiet_step (exact cW _ _))
        refine wpQuiet_nil ?_
        intro _ hw'
        obtain ⟨⟨dq, osq⟩, hw''⟩ := hw'
        subst hw''
        have HBQ := Lib.hid (below_regrown W1 dq osq)
        obtain ⟨W2, hW2⟩ : ∃ W2, grow (redrawn W1 dq) osq = W2 := ⟨_, rfl⟩
        rw [hW2] at HBQ ⊢
        clear c0 c1 c2 c3 b0 b1 b2 b3 cW hW2
        obtain ⟨d0, d1, d2, d3⟩ := HTM.out.on HBQ.out hgW
        have HX2 := Lib.hid (blk_on HX1.out HBQ.out (blk_lt HX1.out))
        have HA2 := Lib.hid (blk_on HA1.out HBQ.out (blk_lt HA1.out))
        have HB2 := Lib.hid (fb2 HB1.out HBQ.out (Nat.le_refl _))
        go_wp2_with (refine whole_abs 37 (.tmp 5) (.tmp 31) ⟨rfl, rfl⟩ (A + 1) y.cs.toArray rfl rfl 37 m.cs.toArray HX2.out (by kernel_rfl) rfl (by kernel_rfl) ?_; intro w4 hX4 hG4; have HX4 := Lib.hid hX4.out; have HA4 := Lib.hid (blk_grown HA2.out (by omega) hG4.out); have HB4 := Lib.hid (HB2.out.grown hG4.out HB2.out.size (fun j hj => by injection hj with hj; have := HAE.out; omega)); clear hX4 hG4)
        go_roundg gg
        case measure => omega
        case rel => exact ⟨k + 1, by go_num, by omega, by omega, by omega, Lib.hid ⟨HA4.out, by rw [HN2.out]; exact HX4.out, HB4.out⟩⟩
      · have HN2 := Lib.hid (HNX.out.trans (HPE.out.trans (if_neg hc)))
        clear HNX HPE HTK HMK HCC
        go_wp2_with fail
        refine wp_region_quiet_below (by kernel_rfl) (by kernel_rfl) ?_
        repeat (quiet_step (exact cW _ _))
        refine wpQuiet_nil ?_
        intro _ hw'
        obtain ⟨⟨dq, osq⟩, hw''⟩ := hw'
        subst hw''
        have HBQ := Lib.hid (below_regrown W1 dq osq)
        obtain ⟨W2, hW2⟩ : ∃ W2, grow (redrawn W1 dq) osq = W2 := ⟨_, rfl⟩
        rw [hW2] at HBQ ⊢
        clear c0 c1 c2 c3 b0 b1 b2 b3 cW hW2
        have HX2 := Lib.hid (blk_on HX1.out HBQ.out (blk_lt HX1.out))
        have HA2 := Lib.hid (blk_on HA1.out HBQ.out (blk_lt HA1.out))
        have HB2 := Lib.hid (fb2 HB1.out HBQ.out (Nat.le_refl _))
        go_wp2
        go_roundg gg
        case measure => omega
        case rel => exact ⟨k + 1, by go_num, by omega, by omega, by omega, Lib.hid ⟨HA2.out, by rw [HN2.out]; exact HX2.out, HB2.out⟩⟩
    · have k1 : ¬ (k : Int) < (n : Int) := by omega
      have ht : l.take k = l := List.take_of_length_le (by rw [HL.out]; omega)
      rw [ht] at HX1
      obtain ⟨m, hm⟩ : ∃ m, endT true l = m := ⟨_, rfl⟩
      rw [hm] at HX1
      have HMM := Lib.hid hm
      clear hm
      obtain ⟨x0, x1, x2, x3⟩ := cs_blk HX1.out
      go_wp2_with (refine whole_abs 37 (.tmp 4) (.tmp 32) ⟨rfl, rfl⟩ A m.cs.toArray rfl rfl 37 #[.int .i64 0, .string ⟨#[]⟩, .string ⟨#[]⟩, .string ⟨#[]⟩] HA1.out (by kernel_rfl) rfl (by kernel_rfl) ?_; intro w5 hA5 hG5)
      obtain ⟨q0, q1, q2, q3⟩ := cs_blk hA5.out
      rw [Nat.zero_add] at q1 q2 q3
      refine bodyPost_ret (v := .agg #[.int .i64 m.k, .string (bs m.x), .string (bs m.y), .string (bs m.z)]) (by simp [results, Tryz.results73, q0, q1, q2, q3, go_sem]) rfl ⟨by rw [HMM.out]; rfl, ?_⟩
      exact HB1.out.grown hG5.out HB1.out.size (fun j hj => by injection hj with hj; have := HAE.out; omega)

end Go.Proofs.YtdnfaoanaehjhaaGreatDoor
