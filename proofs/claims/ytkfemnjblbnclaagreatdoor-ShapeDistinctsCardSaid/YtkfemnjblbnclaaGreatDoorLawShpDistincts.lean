/- Each row of any table once: the walk of the statement's function (written by gen/mklawtab12.py). -/
import Derived.Test.YtkfemnjblbnclaaGreatDoorShpRefCopy
import Derived.Test.YtkfemnjblbnclaaGreatDoorShpSpoil
import Derived.Test.YtkfemnjblbnclaaGreatDoorGSameT
import Derived.Test.YtkfemnjblbnclaaGreatDoorShpRefRight
import Derived.Test.YtkfemnjblbnclaaGreatDoorShpAwake
import Derived.Test.YtkfemnjblbnclaaGreatDoorShpRefDist
namespace Go.Proofs.YtkfemnjblbnclaaGreatDoor
open Go.RowKit Go.Maps Go.Sort

theorem right_dist {V : List (List UInt8)} {R : List RowL} (hr : rightT V R = true) : rightT V (distP R) = true := by
  unfold rightT at *
  simp only [Bool.and_eq_true, decide_eq_true_eq, List.all_eq_true] at *
  obtain ⟨⟨⟨h1, h2⟩, h3⟩, h4⟩ := hr
  exact ⟨⟨⟨h1, Nat.le_trans (dist_le R) h2⟩, h3⟩, fun r hm => h4 r ((dist_mem R r).1 hm)⟩

set_option maxRecDepth 100000 in
set_option maxHeartbeats 8000000 in
theorem shapeDistincts_calls (V : List (List UInt8)) (R : List RowL) (hx : okV V) (hr : okRT R) (hre : ∀ r ∈ R, r.length * 56 ≤ 140737488355328) (tv : Value) (w : World) (hg : Nm.Good w) (ht : TabA w tv V R) :
    Calls Tryz.prog 6 #[tv] w fun e w' => e = .returned (.bool true) ∧ Below w.heap.size w w' := by
  obtain ⟨va, n, vc, ra, m, rc, rfl, hV, hR⟩ := ht
  obtain ⟨A, hA⟩ : ∃ A, w.heap.size = A := ⟨_, rfl⟩
  obtain ⟨W0, hW0⟩ : ∃ W0, w.alloc (.cells #[.slice va n vc, .slice ra m rc] 31) = W0 := ⟨_, rfl⟩
  have HB0 := Lib.hid (show Below w.heap.size w W0 by rw [← hW0]; exact box_below _ _)
  have hA0 : Blk W0 A 31 #[.slice va n vc, .slice ra m rc] := by rw [← hW0, ← hA]; exact blk_new _ _ _
  have HG := Lib.hid hg
  have HOV := Lib.hid hx
  have HVL := Lib.hid hV.len
  have HRL := Lib.hid hR.len
  have hTB : ∀ W, Below w.heap.size w W → TabA W (.agg #[.slice va n vc, .slice ra m rc]) V R := fun W hb => ⟨va, n, vc, ra, m, rc, rfl, hV.on hb, hR.on hb⟩
  have HTB := Lib.hid hTB
  have HLI := Lib.hid (fun W (hb : Below w.heap.size w W) => light_calls V R _ W (hTB W hb))
  have HRI := Lib.hid (fun W (hb : Below w.heap.size w W) => tabRight_calls V R hx hr.r va ra n vc m rc W (hV.on hb) (hR.on hb))
  have HAW := Lib.hid (fun W hW => awake_calls W hW)
  have HAE := Lib.hid hA
  have HW0 := Lib.hid hW0
  have HOR := Lib.hid hr
  have HRE := Lib.hid hre
  clear hV hR hg hx hA hW0 hTB hr hre
  have q0 : W0.cell? ⟨A, 0, none⟩ = some (.slice va n vc) := (blk_cell hA0 0).trans rfl
  have q1 : W0.cell? ⟨A, 1, none⟩ = some (.slice ra m rc) := (blk_cell hA0 1).trans rfl
  have hl := blk_lt hA0
  have HA0 := Lib.hid hA0
  clear hA0
  cases hli : lightB V R with
  | false =>
    rw [hli] at HLI
    go_enter Tryz.func6, Tryz.ntmps6
    go_wp2_with fail
    rw [HW0.out, HAE.out]
    refine (HLI.out _ HB0.out).mono ?_
    rintro e w1 ⟨rfl, hb1⟩
    have HB1 := Lib.hid (fb2 HB0.out hb1 (Nat.le_refl _))
    clear hb1
    go_wp2_with fail
    refine (HAW.out _ (HG.out.on HB1.out)).mono ?_
    rintro e w2 ⟨rfl, hb2⟩
    have HBz := Lib.hid (fb2 HB1.out hb2 (Nat.le_refl _))
    clear hb2
    go_wp2
    go_ret
    exact ⟨rfl, HBz.out⟩
  | true =>
    rw [hli] at HLI
    have hlg : R.length ≤ 40 ∧ V.length ≤ 33 := by
      unfold lightB at hli
      simp only [Bool.and_eq_true, decide_eq_true_eq] at hli
      exact hli
    have HLG := Lib.hid hlg
    have HLE := Lib.hid hlg.1
    clear hli hlg
    go_enter Tryz.func6, Tryz.ntmps6
    go_wp2_with fail
    rw [HW0.out, HAE.out]
    refine (HLI.out _ HB0.out).mono ?_
    rintro e w1 ⟨rfl, hb1⟩
    have HB1 := Lib.hid (fb2 HB0.out hb1 (Nat.le_refl _))
    have HA1 := Lib.hid (blk_on HA0.out hb1 hl)
    replace q0 := keptC q0 hb1 hl
    replace q1 := keptC q1 hb1 hl
    replace hl := Nat.lt_of_lt_of_le hl hb1.size
    have HCO := Lib.hid (rCopy_calls V R _ w1 (HTB.out w1 HB1.out) HLG.out.1 HLG.out.2 HRE.out)
    clear hb1
    go_wp2_with fail
    refine HCO.out.mono ?_
    rintro e w2 ⟨uv, rfl, ⟨va1, n1, vc1, ra1, m1, rc1, rfl, hT1, hJ1⟩, hb2⟩
    obtain rfl : n1 = n := hT1.len.symm.trans HVL.out
    obtain rfl : m1 = m := hJ1.len.symm.trans HRL.out
    have HT1 := Lib.hid hT1.a
    have HJ1 := Lib.hid (hJ1.mono (H' := fun b => b < w2.heap.size ∧ w1.heap.size ≤ b ∧ ¬ isT w2 b) (K' := fun b => b < w2.heap.size ∧ w1.heap.size ≤ b ∧ isT w2 b) (fun b hb hk => ⟨hb, hk⟩) (fun b hb hk => ⟨hb, hk⟩))
    have HB2 := Lib.hid (fb2 HB1.out hb2 (Nat.le_refl _))
    have HA2 := Lib.hid (blk_on HA1.out hb2 hl)
    have HB12 := Lib.hid hb2
    obtain ⟨C, hC⟩ : ∃ C, w2.heap.size = C := ⟨_, rfl⟩
    obtain ⟨w3, hw3⟩ : ∃ w3, w2.alloc (.cells #[.slice va1 n1 vc1, .slice ra1 m1 rc1] 31) = w3 := ⟨_, rfl⟩
    have HB23 := Lib.hid (show Below w2.heap.size w2 w3 by rw [← hw3]; exact box_below _ _)
    have HB3 := Lib.hid (fb2 HB2.out HB23.out (Nat.le_refl _))
    have HC3 := Lib.hid (show Blk w3 C 31 #[.slice va1 n1 vc1, .slice ra1 m1 rc1] by rw [← hw3, ← hC]; exact blk_new _ _ _)
    have HA3 := Lib.hid (blk_on HA2.out HB23.out (blk_lt HA2.out))
    have HT3 := Lib.hid (show TabA w3 (.agg #[.slice va1 n1 vc1, .slice ra1 m1 rc1]) V R from ⟨va1, n1, vc1, ra1, m1, rc1, rfl, HT1.out.on HB23.out, hJ1.a.on HB23.out⟩)
    have HCE := Lib.hid hC
    have HW3 := Lib.hid hw3
    clear hT1 hJ1 hb2 hC hw3 q0 q1 hl HCO HLI HLG HRE
    have hasked := distinct_calls V R HOV.out HOR.out _ w3 (HG.out.on HB3.out) HT3.out
    have HAS := Lib.hid hasked
    clear hasked
    go_wp2_with fail
    rw [HW3.out, HCE.out]
    refine HAS.out.mono ?_
    rintro e w4 ⟨uv, rfl, ⟨va2, n2, vc2, ra2, m2, rc2, rfl, hT2, hR2⟩, hb4⟩
    have HS4 := Lib.hid (show TabK (fun i => w3.heap.size ≤ i) w4 (.agg #[.slice va2 n2 vc2, .slice ra2 m2 rc2]) (onlyB (rightT V R) V) (onlyB (rightT V R) (distP R)) from ⟨va2, n2, vc2, ra2, m2, rc2, rfl, hT2, hR2⟩)
    have HB34 := Lib.hid hb4
    have HC4 := Lib.hid (blk_on HC3.out hb4 (blk_lt HC3.out))
    have HA4 := Lib.hid (blk_on HA3.out hb4 (blk_lt HA3.out))
    have q2 : w4.cell? ⟨C, 0, none⟩ = some (.slice va1 n1 vc1) := (blk_cell HC4.out 0).trans rfl
    have q3 : w4.cell? ⟨C, 1, none⟩ = some (.slice ra1 m1 rc1) := (blk_cell HC4.out 1).trans rfl
    have hc1 : C < w4.heap.size := blk_lt HC4.out
    have hc2 : ¬ C = w4.heap.size := by omega
    obtain ⟨E, hE⟩ : ∃ E, w4.heap.size = E := ⟨_, rfl⟩
    obtain ⟨w5, hw5⟩ : ∃ w5, w4.alloc (.cells #[.slice va2 n2 vc2, .slice ra2 m2 rc2] 31) = w5 := ⟨_, rfl⟩
    have HB45 := Lib.hid (show Below w4.heap.size w4 w5 by rw [← hw5]; exact box_below _ _)
    have HE5 := Lib.hid (show Blk w5 E 31 #[.slice va2 n2 vc2, .slice ra2 m2 rc2] by rw [← hw5, ← hE]; exact blk_new _ _ _)
    have HA5 := Lib.hid (blk_on HA4.out HB45.out (blk_lt HA4.out))
    have HC5 := Lib.hid (blk_on HC4.out HB45.out (blk_lt HC4.out))
    have HB25 := Lib.hid (show Below w2.heap.size w2 w5 from fb2 (fb2 HB23.out HB34.out (Nat.le_refl _)) HB45.out (Nat.le_refl _))
    have HB5 := Lib.hid (show Below w.heap.size w w5 from fb2 (fb2 HB3.out HB34.out (Nat.le_refl _)) HB45.out (Nat.le_refl _))
    have HEE := Lib.hid hE
    have HW5 := Lib.hid hw5
    have HS5 := Lib.hid (show TabK (fun i => w3.heap.size ≤ i ∧ i < w4.heap.size) w5 (.agg #[.slice va2 n2 vc2, .slice ra2 m2 rc2]) (onlyB (rightT V R) V) (onlyB (rightT V R) (distP R)) from (HS4.out.mono (fun i hi hk => ⟨hk, hi⟩)).on (stay_below HB45.out))
    clear hT2 hR2 hb4 hE hw5 HS4
    have hsp := spoil_calls (fun b => b < w2.heap.size ∧ w1.heap.size ≤ b ∧ ¬ isT w2 b) (fun b => b < w2.heap.size ∧ w1.heap.size ≤ b ∧ isT w2 b) (fun b h k => h.2.2 k.2.2) (.slice va1 n1 vc1) ra1 m1 rc1 R w5 (HJ1.out.on ((stay_below HB25.out).mono (fun _ _ _ => trivial))) (fun b hb => isT_same hb.2.2 (HB25.out.block b hb.1))
    have HSP := Lib.hid hsp
    clear hsp
    go_wp2_with fail
    rw [HW5.out, HEE.out]
    refine HSP.out.mono ?_
    rintro e w6 ⟨rfl, hs6⟩
    have hk6 : ∀ b, (b < w2.heap.size ∧ w1.heap.size ≤ b ∧ isT w2 b) → w.heap.size ≤ b := fun b hb => Nat.le_trans HB1.out.size hb.2.1
    have HB6 := Lib.hid (show Below w.heap.size w w6 from HB5.out.trans (hs6.below HB5.out.size hk6))
    have HA6 := Lib.hid (show Blk w6 A 31 #[.slice va n1 vc, .slice ra m1 rc] from (hs6.block A (blk_lt HA5.out) (fun c => by have h1 := c.2.1; have h2 := blk_lt HA1.out; omega)).trans HA5.out)
    have HE6 := Lib.hid (show Blk w6 E 31 #[.slice va2 n2 vc2, .slice ra2 m2 rc2] from (hs6.block E (blk_lt HE5.out) (fun c => by have h1 := c.1; have h2 := HEE.out; have h3 := HB23.out.size; have h4 := HB34.out.size; omega)).trans HE5.out)
    have HS6 := Lib.hid (HS5.out.on (hs6.stay (fun b _ hk c => by have h1 := c.1; have h2 := hk.1; have h3 := HB23.out.size; omega))).a
    have q4 : w6.cell? ⟨A, 0, none⟩ = some (.slice va n1 vc) := (blk_cell HA6.out 0).trans rfl
    have q5 : w6.cell? ⟨A, 1, none⟩ = some (.slice ra m1 rc) := (blk_cell HA6.out 1).trans rfl
    have ha6 := blk_lt HA6.out
    have he6 := blk_lt HE6.out
    clear hs6 hk6 q2 q3 hc1 hc2
    cases hri : rightT V R with
    | false =>
      have hpe : formZ (rightT V R) = 2 := by rw [hri]; rfl
      have hpv : onlyB (rightT V R) V = [] := by rw [hri]; rfl
      have hpr : onlyB (rightT V R) (distP R) = [] := by rw [hri]; rfl
      rw [hpv, hpr] at HS6
      rw [hri] at HRI
      try rw [hpe]
      clear hri hpe hpv hpr
      go_wp2_with fail
      refine (HRI.out _ HB6.out).mono ?_
      rintro e w7 ⟨rfl, hb7⟩
      have HB7 := Lib.hid (fb2 HB6.out hb7 (Nat.le_refl _))
      have HA7 := Lib.hid (blk_on HA6.out hb7 ha6)
      have HE7 := Lib.hid (blk_on HE6.out hb7 he6)
      have HS7 := Lib.hid (HS6.out.on hb7)
      have q6 : w7.cell? ⟨E, 0, none⟩ = some (.slice va2 n2 vc2) := (blk_cell HE7.out 0).trans rfl
      have q7 : w7.cell? ⟨E, 1, none⟩ = some (.slice ra2 m2 rc2) := (blk_cell HE7.out 1).trans rfl
      clear hb7 q4 q5 ha6 he6
      have hsn := same_no 2 (by decide) _ (.slice none 0 0) (.slice none 0 0) w7 HS7.out
      have HSN := Lib.hid hsn
      clear hsn
      go_wp2_with fail
      refine HSN.out.mono ?_
      rintro e w8 ⟨rfl, hb8⟩
      have HB8 := Lib.hid (fb2 HB7.out hb8 (Nat.le_refl _))
      clear hb8
      go_wp2_with fail
      refine (HAW.out _ (HG.out.on HB8.out)).mono ?_
      rintro e w9 ⟨rfl, hb9⟩
      have HBz := Lib.hid (fb2 HB8.out hb9 (Nat.le_refl _))
      clear hb9
      go_wp2
      go_ret
      exact ⟨rfl, HBz.out⟩
    | true =>
      have hpe : formZ (rightT V R) = 0 := by rw [hri]; rfl
      have hpv : onlyB (rightT V R) V = V := by rw [hri]; rfl
      have hpr : onlyB (rightT V R) (distP R) = distP R := by rw [hri]; rfl
      rw [hpv, hpr] at HS6
      have HOD := Lib.hid (show okRT (distP R) from fun r hr t ht => HOR.out r ((dist_mem R r).1 hr) t ht)
      have HRD := Lib.hid (right_dist hri)
      rw [hri] at HRI
      try rw [hpe]
      clear hri hpe hpv hpr
      go_wp2_with fail
      refine (HRI.out _ HB6.out).mono ?_
      rintro e w7 ⟨rfl, hb7⟩
      have HB7 := Lib.hid (fb2 HB6.out hb7 (Nat.le_refl _))
      have HA7 := Lib.hid (blk_on HA6.out hb7 ha6)
      have HE7 := Lib.hid (blk_on HE6.out hb7 he6)
      have HS7 := Lib.hid (HS6.out.on hb7)
      have q6 : w7.cell? ⟨E, 0, none⟩ = some (.slice va2 n2 vc2) := (blk_cell HE7.out 0).trans rfl
      have q7 : w7.cell? ⟨E, 1, none⟩ = some (.slice ra2 m2 rc2) := (blk_cell HE7.out 1).trans rfl
      clear hb7 q4 q5 ha6 he6
      have hds := distinct_calls V (distP R) HOV.out HOD.out _ w7 (HG.out.on HB7.out) HS7.out
      rw [HRD.out, dist_twice] at hds
      have HDS := Lib.hid hds
      clear hds
      go_wp2_with fail
      refine HDS.out.mono ?_
      rintro e w7a ⟨uv, rfl, ⟨va4, n4, vc4, ra4, m4, rc4, rfl, hT4, hR4⟩, hb7a⟩
      change TxtK _ _ _ _ _ V at hT4
      change RowK _ _ _ _ _ (distP R) at hR4
      obtain ⟨G, hGE⟩ : ∃ G, w7a.heap.size = G := ⟨_, rfl⟩
      obtain ⟨w7b, hw7b⟩ : ∃ w7b, w7a.alloc (.cells #[.slice va4 n4 vc4, .slice ra4 m4 rc4] 31) = w7b := ⟨_, rfl⟩
      have HBab := Lib.hid (show Below w7a.heap.size w7a w7b by rw [← hw7b]; exact box_below _ _)
      have HB77 := Lib.hid (fb2 hb7a HBab.out (Nat.le_refl _))
      have HB7b := Lib.hid (fb2 HB7.out HB77.out (Nat.le_refl _))
      have HE7b := Lib.hid (blk_on HE7.out HB77.out (blk_lt HE7.out))
      have HA7b := Lib.hid (blk_on HA7.out HB77.out (blk_lt HA7.out))
      have HG7b := Lib.hid (show Blk w7b G 31 #[.slice va4 n4 vc4, .slice ra4 m4 rc4] by rw [← hw7b, ← hGE]; exact blk_new _ _ _)
      have HS7b := Lib.hid (HS7.out.on HB77.out)
      have HU7b := Lib.hid (show TabA w7b (.agg #[.slice va4 n4 vc4, .slice ra4 m4 rc4]) V (distP R) from ⟨va4, n4, vc4, ra4, m4, rc4, rfl, hT4.a.on HBab.out, hR4.a.on HBab.out⟩)
      have HGE := Lib.hid hGE
      have HW7b := Lib.hid hw7b
      clear hT4 hR4 hb7a hGE hw7b q6 q7
      have HSB := Lib.hid (show Blk w7b E 31 #[.slice va2 n2 vc2, .slice ra2 m2 rc2] ∧ Blk w7b A 31 #[.slice va n1 vc, .slice ra m1 rc] ∧ Blk w7b G 31 #[.slice va4 n4 vc4, .slice ra4 m4 rc4] from ⟨HE7b.out, HA7b.out, HG7b.out⟩)
      go_wp2_with fail
      rw [HW7b.out, HGE.out]
      refine wp_region_held_drew (S := (fun W => Blk W E 31 #[.slice va2 n2 vc2, .slice ra2 m2 rc2] ∧ Blk W A 31 #[.slice va n1 vc, .slice ra m1 rc] ∧ Blk W G 31 #[.slice va4 n4 vc4, .slice ra4 m4 rc4])) (by kernel_rfl) ?_ (fun hHeld => ?_)
      · (try dsimp only); exact HSB.out
      obtain ⟨Wd, hWd⟩ : ∃ Wd, w7b.drew = Wd := ⟨_, rfl⟩
      rw [hWd] at hHeld ⊢
      have HBD := Lib.hid (show Below w7b.heap.size w7b Wd by rw [← hWd]; exact (Below.refl _ _).drew)
      have HBWd := Lib.hid (fb2 HB7b.out HBD.out (Nat.le_refl _))
      clear hWd
      refine wpAnyH_take (i := 0) (oi := ⟨some 36, _, _, _, _, _⟩) (v := ?_) rfl (by kernel_rfl) (by kernel_rfl) (by kernel_rfl) (fun _ _ _ h => h) (Or.inl ⟨by kernel_rfl, ?_⟩) (by assumption) ?_
      rotate_left
      · (intro ww hSw; (try dsimp only at hSw); obtain ⟨b0, b1, b2⟩ := hSw; have d1 : ww.cell? ⟨E, 0, none⟩ = some (.slice va2 n2 vc2) := (blk_cell b0 0).trans rfl; have d2 : ww.cell? ⟨E, 1, none⟩ = some (.slice ra2 m2 rc2) := (blk_cell b0 1).trans rfl; have d3 : ww.cell? ⟨A, 0, none⟩ = some (.slice va n1 vc) := (blk_cell b1 0).trans rfl; have d4 : ww.cell? ⟨A, 1, none⟩ = some (.slice ra m1 rc) := (blk_cell b1 1).trans rfl; have d5 : ww.cell? ⟨G, 0, none⟩ = some (.slice va4 n4 vc4) := (blk_cell b2 0).trans rfl; have d6 : ww.cell? ⟨G, 1, none⟩ = some (.slice ra4 m4 rc4) := (blk_cell b2 1).trans rfl; go_simp); (try with_reducible rfl)
      (try simp only [Act.put, List.setIfInBounds_toArray, List.set_cons_zero, List.set_cons_succ])
      refine wpAnyH_take (i := 1) (oi := ⟨some 37, _, _, _, _, _⟩) (v := ?_) rfl (by kernel_rfl) (by kernel_rfl) (by kernel_rfl) (fun _ _ _ h => h) (Or.inl ⟨by kernel_rfl, ?_⟩) (by assumption) ?_
      rotate_left
      · (intro ww hSw; (try dsimp only at hSw); go_simp); (try with_reducible rfl)
      (try simp only [Act.put, List.setIfInBounds_toArray, List.set_cons_zero, List.set_cons_succ])
      refine wpAnyH_take (i := 2) (oi := ⟨some 38, _, _, _, _, _⟩) (v := ?_) rfl (by kernel_rfl) (by kernel_rfl) (by kernel_rfl) (fun _ _ _ h => h) (Or.inl ⟨by kernel_rfl, ?_⟩) (by assumption) ?_
      rotate_left
      · (intro ww hSw; (try dsimp only at hSw); obtain ⟨b0, b1, b2⟩ := hSw; have d1 : ww.cell? ⟨E, 0, none⟩ = some (.slice va2 n2 vc2) := (blk_cell b0 0).trans rfl; have d2 : ww.cell? ⟨E, 1, none⟩ = some (.slice ra2 m2 rc2) := (blk_cell b0 1).trans rfl; have d3 : ww.cell? ⟨A, 0, none⟩ = some (.slice va n1 vc) := (blk_cell b1 0).trans rfl; have d4 : ww.cell? ⟨A, 1, none⟩ = some (.slice ra m1 rc) := (blk_cell b1 1).trans rfl; have d5 : ww.cell? ⟨G, 0, none⟩ = some (.slice va4 n4 vc4) := (blk_cell b2 0).trans rfl; have d6 : ww.cell? ⟨G, 1, none⟩ = some (.slice ra4 m4 rc4) := (blk_cell b2 1).trans rfl; go_simp); (try with_reducible rfl)
      (try simp only [Act.put, List.setIfInBounds_toArray, List.set_cons_zero, List.set_cons_succ])
      have hrf := rDistinct_calls V R _ Wd (HTB.out Wd HBWd.out) HLE.out
      refine wpAnyH_ready (rs := [3]) (by kernel_rfl) (by simp) ?_
      refine AllReadyH.cons rfl (fun K hK => ?_) AllReadyH.nil
      go_simp
      refine hrf.mono ?_
      rintro e w8 ⟨uv3, rfl, ht8, hb8⟩
      clear hrf
      have HB8 := Lib.hid (fb2 HBWd.out hb8 (Nat.le_refl _))
      have HBS8 := Lib.hid (fb2 HBD.out hb8 (Nat.le_refl _))
      have hso := same_ok _ _ _ _ w8 (HS7b.out.on HBS8.out) ht8
      have HSO := Lib.hid hso
      clear hso ht8 hb8
      go_wp2_with fail
      refine hK.out _ _ ?_ (fun hHeld => ?_)
      · exact ⟨blk_on HSB.out.1 HBS8.out (blk_lt HSB.out.1), blk_on HSB.out.2.1 HBS8.out (blk_lt HSB.out.2.1), blk_on HSB.out.2.2 HBS8.out (blk_lt HSB.out.2.2)⟩
      clear hK K
      (try simp only [Act.put, List.setIfInBounds_toArray, List.set_cons_zero, List.set_cons_succ])
      refine wpAnyH_ready (rs := [4]) (by kernel_rfl) (by simp) ?_
      refine AllReadyH.cons rfl (fun K hK => ?_) AllReadyH.nil
      go_simp
      refine HSO.out.mono ?_
      rintro e w9 ⟨rfl, hb9⟩
      have HB9 := Lib.hid (fb2 HB8.out hb9 (Nat.le_refl _))
      have HBS9 := Lib.hid (fb2 HBS8.out hb9 (Nat.le_refl _))
      clear hb9
      go_wp2_with fail
      refine hK.out _ _ ?_ (fun hHeld => ?_)
      · exact ⟨blk_on HSB.out.1 HBS9.out (blk_lt HSB.out.1), blk_on HSB.out.2.1 HBS9.out (blk_lt HSB.out.2.1), blk_on HSB.out.2.2 HBS9.out (blk_lt HSB.out.2.2)⟩
      clear hK K
      (try simp only [Act.put, List.setIfInBounds_toArray, List.set_cons_zero, List.set_cons_succ])
      refine wpAnyH_take (i := 5) (oi := ⟨some 41, _, _, _, _, _⟩) (v := ?_) rfl (by kernel_rfl) (by kernel_rfl) (by kernel_rfl) (fun _ _ _ h => h) (Or.inl ⟨by kernel_rfl, ?_⟩) (by assumption) ?_
      rotate_left
      · (intro ww hSw; (try dsimp only at hSw); go_simp); (try with_reducible rfl)
      (try simp only [Act.put, List.setIfInBounds_toArray, List.set_cons_zero, List.set_cons_succ])
      refine wpAnyH_take (i := 6) (oi := ⟨some 42, _, _, _, _, _⟩) (v := ?_) rfl (by kernel_rfl) (by kernel_rfl) (by kernel_rfl) (fun _ _ _ h => h) (Or.inl ⟨by kernel_rfl, ?_⟩) (by assumption) ?_
      rotate_left
      · (intro ww hSw; (try dsimp only at hSw); obtain ⟨b0, b1, b2⟩ := hSw; have d1 : ww.cell? ⟨E, 0, none⟩ = some (.slice va2 n2 vc2) := (blk_cell b0 0).trans rfl; have d2 : ww.cell? ⟨E, 1, none⟩ = some (.slice ra2 m2 rc2) := (blk_cell b0 1).trans rfl; have d3 : ww.cell? ⟨A, 0, none⟩ = some (.slice va n1 vc) := (blk_cell b1 0).trans rfl; have d4 : ww.cell? ⟨A, 1, none⟩ = some (.slice ra m1 rc) := (blk_cell b1 1).trans rfl; have d5 : ww.cell? ⟨G, 0, none⟩ = some (.slice va4 n4 vc4) := (blk_cell b2 0).trans rfl; have d6 : ww.cell? ⟨G, 1, none⟩ = some (.slice ra4 m4 rc4) := (blk_cell b2 1).trans rfl; go_simp); (try with_reducible rfl)
      (try simp only [Act.put, List.setIfInBounds_toArray, List.set_cons_zero, List.set_cons_succ])
      refine wpAnyH_take (i := 7) (oi := ⟨some 43, _, _, _, _, _⟩) (v := ?_) rfl (by kernel_rfl) (by kernel_rfl) (by kernel_rfl) (fun _ _ _ h => h) (Or.inl ⟨by kernel_rfl, ?_⟩) (by assumption) ?_
      rotate_left
      · (intro ww hSw; (try dsimp only at hSw); go_simp); (try with_reducible rfl)
      (try simp only [Act.put, List.setIfInBounds_toArray, List.set_cons_zero, List.set_cons_succ])
      refine wpAnyH_take (i := 8) (oi := ⟨some 44, _, _, _, _, _⟩) (v := ?_) rfl (by kernel_rfl) (by kernel_rfl) (by kernel_rfl) (fun _ _ _ h => h) (Or.inl ⟨by kernel_rfl, ?_⟩) (by assumption) ?_
      rotate_left
      · (intro ww hSw; (try dsimp only at hSw); obtain ⟨b0, b1, b2⟩ := hSw; have d1 : ww.cell? ⟨E, 0, none⟩ = some (.slice va2 n2 vc2) := (blk_cell b0 0).trans rfl; have d2 : ww.cell? ⟨E, 1, none⟩ = some (.slice ra2 m2 rc2) := (blk_cell b0 1).trans rfl; have d3 : ww.cell? ⟨A, 0, none⟩ = some (.slice va n1 vc) := (blk_cell b1 0).trans rfl; have d4 : ww.cell? ⟨A, 1, none⟩ = some (.slice ra m1 rc) := (blk_cell b1 1).trans rfl; have d5 : ww.cell? ⟨G, 0, none⟩ = some (.slice va4 n4 vc4) := (blk_cell b2 0).trans rfl; have d6 : ww.cell? ⟨G, 1, none⟩ = some (.slice ra4 m4 rc4) := (blk_cell b2 1).trans rfl; go_simp); (try with_reducible rfl)
      (try simp only [Act.put, List.setIfInBounds_toArray, List.set_cons_zero, List.set_cons_succ])
      have hsu := same_ok _ _ _ _ w9 (HU7b.out.on HBS9.out) (HS7b.out.on HBS9.out)
      refine wpAnyH_ready (rs := [9]) (by kernel_rfl) (by simp) ?_
      refine AllReadyH.cons rfl (fun K hK => ?_) AllReadyH.nil
      go_simp
      refine hsu.mono ?_
      rintro e w9a ⟨rfl, hb9a⟩
      clear hsu
      have HB9a := Lib.hid (fb2 HB9.out hb9a (Nat.le_refl _))
      have HBS9a := Lib.hid (fb2 HBS9.out hb9a (Nat.le_refl _))
      clear hb9a
      go_wp2_with fail
      refine hK.out _ _ ?_ (fun hHeld => ?_)
      · exact ⟨blk_on HSB.out.1 HBS9a.out (blk_lt HSB.out.1), blk_on HSB.out.2.1 HBS9a.out (blk_lt HSB.out.2.1), blk_on HSB.out.2.2 HBS9a.out (blk_lt HSB.out.2.2)⟩
      clear hK K
      (try simp only [Act.put, List.setIfInBounds_toArray, List.set_cons_zero, List.set_cons_succ])
      refine wpAnyH_take (i := 10) (oi := ⟨some 46, _, _, _, _, _⟩) (v := ?_) rfl (by kernel_rfl) (by kernel_rfl) (by kernel_rfl) (fun _ _ _ h => h) (Or.inl ⟨by kernel_rfl, ?_⟩) (by assumption) ?_
      rotate_left
      · (intro ww hSw; (try dsimp only at hSw); go_simp); (try with_reducible rfl)
      (try simp only [Act.put, List.setIfInBounds_toArray, List.set_cons_zero, List.set_cons_succ])
      refine wpAnyH_take (i := 11) (oi := ⟨some 47, _, _, _, _, _⟩) (v := ?_) rfl (by kernel_rfl) (by kernel_rfl) (by kernel_rfl) (fun _ _ _ h => h) (Or.inl ⟨by kernel_rfl, ?_⟩) (by assumption) ?_
      rotate_left
      · (intro ww hSw; (try dsimp only at hSw); go_simp); (try with_reducible rfl)
      (try simp only [Act.put, List.setIfInBounds_toArray, List.set_cons_zero, List.set_cons_succ])
      refine wpAnyH_ready (rs := [12]) (by kernel_rfl) (by simp) ?_
      refine AllReadyH.cons rfl (fun K hK => ?_) AllReadyH.nil
      go_simp
      refine (HAW.out _ (HG.out.on HB9a.out)).mono ?_
      rintro e w10 ⟨rfl, hb10⟩
      have HB10 := Lib.hid (fb2 HB9a.out hb10 (Nat.le_refl _))
      have HBS10 := Lib.hid (fb2 HBS9a.out hb10 (Nat.le_refl _))
      clear hb10
      go_wp2_with fail
      refine hK.out _ _ ?_ (fun hHeld => ?_)
      · exact ⟨blk_on HSB.out.1 HBS10.out (blk_lt HSB.out.1), blk_on HSB.out.2.1 HBS10.out (blk_lt HSB.out.2.1), blk_on HSB.out.2.2 HBS10.out (blk_lt HSB.out.2.2)⟩
      clear hK K
      (try simp only [Act.put, List.setIfInBounds_toArray, List.set_cons_zero, List.set_cons_succ])
      refine wpAnyH_take (i := 13) (oi := ⟨some 49, _, _, _, _, _⟩) (v := ?_) rfl (by kernel_rfl) (by kernel_rfl) (by kernel_rfl) (fun _ _ _ h => h) (Or.inl ⟨by kernel_rfl, ?_⟩) (by assumption) ?_
      rotate_left
      · (intro ww hSw; (try dsimp only at hSw); go_simp); (try with_reducible rfl)
      (try simp only [Act.put, List.setIfInBounds_toArray, List.set_cons_zero, List.set_cons_succ])
      refine wpAnyH_take (i := 14) (oi := ⟨some 2, _, _, _, _, _⟩) (v := ?_) rfl (by kernel_rfl) (by kernel_rfl) (by kernel_rfl) (fun _ _ _ h => h) (Or.inl ⟨by kernel_rfl, ?_⟩) (by assumption) ?_
      rotate_left
      · (intro ww hSw; (try dsimp only at hSw); go_simp); (try with_reducible rfl)
      (try simp only [Act.put, List.setIfInBounds_toArray, List.set_cons_zero, List.set_cons_succ])
      refine wpAnyH_done (by kernel_rfl) ?_ _
      go_wp2
      go_ret
      exact ⟨rfl, HB10.out⟩

end Go.Proofs.YtkfemnjblbnclaaGreatDoor
