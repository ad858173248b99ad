/- ShpKit, ShpVCmp, put together. -/
import Derived.Test.YtkfemnjblbnclaaGreatDoorShpSlice
import Derived.Deep.RegionHeld3
import Derived.Deep.LoopGhost
import Derived.Deep.QuietTactic
import Derived.BigQuiet
import Derived.Test.YtkfemnjblbnclaaGreatDoorShpValue

/- Small things for the walks of layer 12. -/
namespace Go.Proofs.YtkfemnjblbnclaaGreatDoor
open Go.RowKit

theorem name_world {P : Program} {c : Code} {Q : Exit → Act → World → Prop} {a : Act} {w : World} (h : ∀ W1, W1 = w → c.wp P Q a W1) : c.wp P Q a w := h w rfl
theorem keptC {w w' : World} {g o B : Nat} {v : Value} (h : w.cell? ⟨g, o, none⟩ = some v) (hb : Below B w w') (hg : g < B) : w'.cell? ⟨g, o, none⟩ = some v := (hb.cell (p := ⟨g, o, none⟩) hg).trans h
theorem drewN_below {B : Nat} {a w : World} (h : Below B a w) (n : Nat) : Below B a (w.drewN n) := ⟨h.os, h.tape, h.output, h.size, h.block⟩
theorem term_box {w : World} {t : TermL} {T : TypeId} : TermAt (w.alloc (.cells #[.int .i64 t.k, .string (bs t.x), .string (bs t.y), .string (bs t.z)] T)) w.heap.size 0 t := by
  have h := blk_new w T #[.int .i64 t.k, .string (bs t.x), .string (bs t.y), .string (bs t.z)]
  exact ⟨by rw [blk_cell h]; rfl, by rw [blk_cell h]; rfl, by rw [blk_cell h]; rfl, by rw [blk_cell h]; rfl⟩
theorem term_two {w : World} {t u : TermL} {T : TypeId} : TermAt ((w.alloc (.cells #[.int .i64 t.k, .string (bs t.x), .string (bs t.y), .string (bs t.z)] T)).alloc (.cells #[.int .i64 u.k, .string (bs u.x), .string (bs u.y), .string (bs u.z)] T)) w.heap.size 0 t ∧ TermAt ((w.alloc (.cells #[.int .i64 t.k, .string (bs t.x), .string (bs t.y), .string (bs t.z)] T)).alloc (.cells #[.int .i64 u.k, .string (bs u.x), .string (bs u.y), .string (bs u.z)] T)) (w.heap.size + 1) 0 u := by
  refine ⟨(term_box (w := w) (t := t) (T := T)).on (box_below _ _) (by simp), ?_⟩
  have h := term_box (w := w.alloc (.cells #[.int .i64 t.k, .string (bs t.x), .string (bs t.y), .string (bs t.z)] T)) (t := u) (T := T)
  have e : (w.alloc (.cells #[.int .i64 t.k, .string (bs t.x), .string (bs t.y), .string (bs t.z)] T)).heap.size = w.heap.size + 1 := by simp
  rw [e] at h
  exact h

end Go.Proofs.YtkfemnjblbnclaaGreatDoor

/- Which of two values is ahead: package shape's compareValues and Compare, for every two terms. -/
namespace Go.Proofs.YtkfemnjblbnclaaGreatDoor
open Go.RowKit

theorem compareInt_is (a b : Int) : Lib.compareInt a b = cmpZ a b := rfl
theorem cmpI_is (a b : Int) : Nm.cmpI a b = cmpZ a b := rfl
theorem num_of {t : TermL} (h : sortP t = 3) : ∃ (v : Int) (j : Nat) (d : Bool), numP t = ⟨v, j, d⟩ ∧ j ≤ 4 ∧ -999999999 ≤ v ∧ v ≤ 999999999 ∧ Nm.rightZ v j d = true ∧ amtP t = Nm.amt v j := by
  have h1 := of_numR (sort3_of h)
  obtain ⟨j, hj, h4⟩ := h1.s
  rw [numP_is h]
  refine ⟨(ofP t).1.v, j, (ofP t).1.d, ?_, h4, h1.lo, h1.hi, by rw [← hj]; exact h1.r, ?_⟩
  · rw [← hj]
  · unfold amtP
    rw [hj]; rfl
theorem boxes_gone {w w1 : World} {o o2 : Obj} (h1 : Below ((w.alloc o).alloc o2).heap.size ((w.alloc o).alloc o2) w1) : Below w.heap.size w w1 := two_gone h1

set_option maxRecDepth 100000 in
set_option maxHeartbeats 4000000 in
theorem vcmp_calls (a b : TermL) (w : World) (hg : GoodN w) :
    Calls Tryz.prog 33 #[valV a, valV b] w fun e w' => e = .returned (.int .i64 (valP a b)) ∧ Below w.heap.size w w' := by
  have HV := Lib.hid (show valP a b = if sortP a ≠ sortP b then cmpZ (sortP a) (sortP b) else if sortP a = 3 ∧ cmpZ (amtP a) (amtP b) ≠ 0 then cmpZ (amtP a) (amtP b) else tcmp a b from rfl)
  have HT := Lib.hid (fun W => Compare_calls a.k (bs a.x) (bs a.y) (bs a.z) b.k (bs b.x) (bs b.y) (bs b.z) W)
  have HTC := Lib.hid (show tcmp a b = termCmp a.k a.x a.y a.z b.k b.x b.y b.z from rfl)
  have HNA := Lib.hid (@num_of a)
  have HNB := Lib.hid (@num_of b)
  have HG := Lib.hid hg
  simp only [bs_data] at HT
  unfold valV
  clear hg
  rw [← HTC.out] at HT
  generalize tcmp a b = tc at HT HV
  generalize valP a b = V at HV ⊢
  generalize sortP a = sa at HV HNA ⊢
  generalize sortP b = sb at HV HNB ⊢
  generalize amtP a = ma at HV HNA
  generalize amtP b = mb at HV HNB
  generalize numP a = na at HNA ⊢
  generalize numP b = nb at HNB ⊢
  obtain ⟨k, x, y, z⟩ := a
  obtain ⟨k', x', y', z'⟩ := b
  dsimp only at HT ⊢
  clear HTC
  obtain ⟨nv, ns, nd⟩ := na
  obtain ⟨nv', ns', nd'⟩ := nb
  dsimp only
  by_cases h0 : sa = sb
  · subst h0
    replace HV := Lib.hid (HV.out.trans (if_neg (fun c => c rfl)))
    have gne : (sa != sa) = false := bne_self_eq_false _
    by_cases h3 : sa = 3
    · obtain ⟨v, j, d, e, hj, l1, l2, hr, hm⟩ := HNA.out h3
      obtain ⟨v', j', d', e', hj', l1', l2', hr', hm'⟩ := HNB.out h3
      simp only [Nm.NumL.mk.injEq] at e e'
      obtain ⟨rfl, rfl, rfl⟩ := e
      obtain ⟨rfl, rfl, rfl⟩ := e'
      have HC := Lib.hid (fun W hW => Nm.Compare_right nv j nd nv' j' nd' W hW hr hr' hj l1 l2 hj' l1' l2')
      rw [← hm, ← hm'] at HC
      have g3 : (sa == 3) = true := beq_iff_eq.2 h3
      clear HNA HNB hr hr' hm hm' hj hj' l1 l2 l1' l2'
      obtain ⟨q, hq⟩ : ∃ q, cmpZ ma mb = q := ⟨_, rfl⟩
      rw [cmpI_is, hq] at HC
      rw [hq] at HV
      clear hq
      by_cases hq : q = 0
      · have HE := Lib.hid (HV.out.trans (if_neg (fun c => c.2 hq)))
        have gq : (q != 0) = false := by rw [hq]; rfl
        clear hq h3 HV
        go_enter Tryz.func33, Tryz.ntmps33
        go_wp2_with fail
        refine (HC.out _ (by (repeat (with_reducible (first | exact HG.out | refine Nm.Good.alloc ?_ _))))).mono ?_
        rintro e w1 ⟨rfl, hb1⟩
        obtain ⟨hc, hf⟩ := bcell hb1
        have hz := two_size hb1
        have hz0 : w.heap.size < w1.heap.size := by omega
        have HB1 := Lib.hid (two_gone hb1)
        clear hb1
        go_wp2_with fail
        refine (HT.out _).mono ?_
        rintro e w2 ⟨rfl, hb2⟩
        have HB2 := Lib.hid (bnext HB1.out hb2)
        clear hb2 hc hf hz hz0
        go_wp2
        go_ret
        exact ⟨by rw [HE.out]; rfl, HB2.out⟩
      · have HE := Lib.hid (HV.out.trans (if_pos ⟨h3, hq⟩))
        have gq : (q != 0) = true := bne_iff_ne.2 hq
        clear hq h3 HV HT
        go_enter Tryz.func33, Tryz.ntmps33
        go_wp2_with fail
        refine (HC.out _ (by (repeat (with_reducible (first | exact HG.out | refine Nm.Good.alloc ?_ _))))).mono ?_
        rintro e w1 ⟨rfl, hb1⟩
        have HB1 := Lib.hid (two_gone hb1)
        clear hb1
        go_wp2
        go_ret
        exact ⟨by rw [HE.out]; rfl, HB1.out⟩
    · have HE := Lib.hid (HV.out.trans (if_neg (fun c => h3 c.1)))
      have g3 : (sa == 3) = false := beq_eq_false_iff_ne.2 h3
      clear h3 HV HNA HNB
      go_enter Tryz.func33, Tryz.ntmps33
      go_wp2_with fail
      refine (HT.out _).mono ?_
      rintro e w1 ⟨rfl, hb1⟩
      have HB1 := Lib.hid (two_gone hb1)
      clear hb1
      go_wp2
      go_ret
      exact ⟨by rw [HE.out]; rfl, HB1.out⟩
  · have HE := Lib.hid (HV.out.trans (if_pos h0))
    have gne : (sa != sb) = true := bne_iff_ne.2 h0
    clear h0 HV HNA HNB HT
    have HC := Lib.hid (fun W => Tryz.cmp_Compare_int sa sb W)
    rw [compareInt_is] at HC
    generalize cmpZ sa sb = q at HC HE
    go_enter Tryz.func33, Tryz.ntmps33
    go_wp2_with fail
    refine (HC.out _).mono ?_
    rintro e w1 ⟨rfl, hw⟩
    obtain rfl := hw.symm
    clear hw
    go_wp2
    go_ret
    exact ⟨by rw [HE.out]; rfl, (box_below _ _).alloc (by simp) _⟩

set_option maxRecDepth 100000 in
set_option maxHeartbeats 4000000 in
theorem sCompare_calls (a b : TermL) (ha : a.ok) (hb : b.ok) (w : World) (hg : GoodN w) :
    Calls Tryz.prog 11 #[a.v, b.v] w fun e w' => e = .returned (.int .i64 (valP a b)) ∧ Below w.heap.size w w' := by
  have HA := Lib.hid (fun W hW => valueOf_calls a ha W hW)
  have HB := Lib.hid (fun W hW => valueOf_calls b hb W hW)
  have HC := Lib.hid (fun W hW => vcmp_calls a b W hW)
  have HT := Lib.hid (term_two (w := w) (t := a) (u := b) (T := 23))
  have HB0 := Lib.hid ((box_below w (.cells #[.int .i64 a.k, .string (bs a.x), .string (bs a.y), .string (bs a.z)] 23)).alloc (by simp) (.cells #[.int .i64 b.k, .string (bs b.x), .string (bs b.y), .string (bs b.z)] 23))
  have HG := Lib.hid (hg.on HB0.out)
  clear ha hb hg
  generalize valP a b = V at HC ⊢
  generalize valV a = va at HA HC
  generalize valV b = vb at HB HC
  simp only [TermL.v] at HA HB ⊢
  go_enter Tryz.func11, Tryz.ntmps11
  go_wp2_with fail
  refine name_world (fun W0 hW0 => ?_)
  rw [← hW0] at HT HB0 HG
  have hlt0 : w.heap.size < W0.heap.size := by rw [hW0]; simp; omega
  have hlt1 : w.heap.size + 1 < W0.heap.size := by rw [hW0]; simp
  clear hW0
  have HTA := Lib.hid HT.out.1
  have HTB := Lib.hid HT.out.2
  clear HT
  refine wp_region_held_drew (S := (fun W => Below W0.heap.size W0 W)) (by kernel_rfl) ?_ (fun hHeld => ?_)
  · (try dsimp only); exact (Below.refl _ _).drew
  have hbn : Below W0.heap.size W0 W0.drew := (Below.refl _ _).drew
  refine wpAnyH_take (i := 0) (oi := ⟨some 5, _, _, _, _, _⟩) (v := ?_) rfl (by kernel_rfl) (by kernel_rfl) (by kernel_rfl) (fun _ _ _ h => h) (Or.inl ⟨by kernel_rfl, ?_⟩) (by assumption) ?_
  rotate_left
  · (intro ww hSw; (try dsimp only at hSw); obtain ⟨c0, c1, c2, c3⟩ := HTA.out.on hSw hlt0; go_simp); (try with_reducible rfl)
  (try simp only [Act.put, List.setIfInBounds_toArray, List.set_cons_zero, List.set_cons_succ])
  refine wpAnyH_take (i := 2) (oi := ⟨some 7, _, _, _, _, _⟩) (v := ?_) rfl (by kernel_rfl) (by kernel_rfl) (by kernel_rfl) (fun _ _ _ h => h) (Or.inl ⟨by kernel_rfl, ?_⟩) (by assumption) ?_
  rotate_left
  · (intro ww hSw; (try dsimp only at hSw); obtain ⟨c0, c1, c2, c3⟩ := HTB.out.on hSw hlt1; go_simp); (try with_reducible rfl)
  (try simp only [Act.put, List.setIfInBounds_toArray, List.set_cons_zero, List.set_cons_succ])
  refine wpAnyH_ready (rs := [1]) (by kernel_rfl) (by simp) ?_
  refine AllReadyH.cons rfl (fun K hK => ?_) AllReadyH.nil
  go_simp
  refine (HA.out _ (by first | exact HG.out.on hbn | exact HG.out.on hbn.drew)).mono ?_
  rintro e ws ⟨rfl, hbs⟩
  replace hbn := bnext (by first | exact hbn | exact hbn.drew) hbs
  clear hbs
  go_wp2_with fail
  refine hK.out _ _ ?_ (fun hHeld => ?_)
  · (try dsimp only); first | exact hbn | exact hbn.drew
  clear hK K
  (try simp only [Act.put, List.setIfInBounds_toArray, List.set_cons_zero, List.set_cons_succ])
  refine wpAnyH_ready (rs := [3]) (by kernel_rfl) (by simp) ?_
  refine AllReadyH.cons rfl (fun K hK => ?_) AllReadyH.nil
  go_simp
  refine (HB.out _ (by first | exact HG.out.on hbn | exact HG.out.on hbn.drew)).mono ?_
  rintro e ws ⟨rfl, hbs⟩
  replace hbn := bnext (by first | exact hbn | exact hbn.drew) hbs
  clear hbs
  go_wp2_with fail
  refine hK.out _ _ ?_ (fun hHeld => ?_)
  · (try dsimp only); first | exact hbn | exact hbn.drew
  clear hK K
  (try simp only [Act.put, List.setIfInBounds_toArray, List.set_cons_zero, List.set_cons_succ])
  refine wpAnyH_ready (rs := [4]) (by kernel_rfl) (by simp) ?_
  refine AllReadyH.cons rfl (fun K hK => ?_) AllReadyH.nil
  go_simp
  refine (HC.out _ (by first | exact HG.out.on hbn | exact HG.out.on hbn.drew)).mono ?_
  rintro e ws ⟨rfl, hbs⟩
  replace hbn := bnext (by first | exact hbn | exact hbn.drew) hbs
  clear hbs
  go_wp2_with fail
  refine hK.out _ _ ?_ (fun hHeld => ?_)
  · (try dsimp only); first | exact hbn | exact hbn.drew
  clear hK K
  (try simp only [Act.put, List.setIfInBounds_toArray, List.set_cons_zero, List.set_cons_succ])
  refine wpAnyH_take (i := 5) (oi := ⟨some 4, _, _, _, _, _⟩) (v := ?_) rfl (by kernel_rfl) (by kernel_rfl) (by kernel_rfl) (fun _ _ _ h => h) (Or.inl ⟨by kernel_rfl, ?_⟩) (by assumption) ?_
  rotate_left
  · (intro ww hSw; (try dsimp only at hSw); go_simp); (try with_reducible rfl)
  (try simp only [Act.put, List.setIfInBounds_toArray, List.set_cons_zero, List.set_cons_succ])
  refine wpAnyH_done (by kernel_rfl) ?_ _
  go_wp2
  go_ret
  exact ⟨rfl, HB0.out.trans (hbn.mono HB0.out.size)⟩

end Go.Proofs.YtkfemnjblbnclaaGreatDoor
