/- Have any two tables the same rows: the walk of the statement's function (written by gen/mklawtab12.py). -/
import Derived.Test.YtkfemnjblbnclaaGreatDoorShpSame
import Derived.Test.YtkfemnjblbnclaaGreatDoorShpRefRight
import Derived.Test.YtkfemnjblbnclaaGreatDoorShpAwake
namespace Go.Proofs.YtkfemnjblbnclaaGreatDoor
open Go.RowKit Go.Maps Go.Sort

set_option maxRecDepth 100000 in
set_option maxHeartbeats 8000000 in
theorem shapeSames_calls (V : List (List UInt8)) (R : List RowL) (U : List (List UInt8)) (S : List RowL) (hx : okV V) (hr : okRT R) (hu : okV U) (hs : okRT S) (t1 t2 : Value) (w : World) (hg : Nm.Good w) (h1 : TabA w t1 V R) (h2 : TabA w t2 U S) :
    Calls Tryz.prog 8 #[t1, t2] w fun e w' => e = .returned (.bool true) ∧ Below w.heap.size w w' := by
  obtain ⟨va, n, vc, ra, m, rc, rfl, hVA, hRA⟩ := h1
  obtain ⟨ua, n2, uc, sa, m2, sc, rfl, hUA, hSA⟩ := h2
  obtain ⟨A, hA⟩ : ∃ A, w.heap.size = A := ⟨_, rfl⟩
  have h0 := tabs2_new w (.slice va n vc) (.slice ra m rc) (.slice ua n2 uc) (.slice sa m2 sc)
  obtain ⟨W0, hW0⟩ : ∃ W0, (w.alloc (.cells #[.slice va n vc, .slice ra m rc] 31)).alloc (.cells #[.slice ua n2 uc, .slice sa m2 sc] 31) = W0 := ⟨_, rfl⟩
  rw [hW0, hA] at h0
  have H0 := Lib.hid h0
  have HB0 := Lib.hid h0.below
  have HG := Lib.hid hg
  have HT1 := Lib.hid (fun W (hb : Below w.heap.size w W) => (show TabA W (.agg #[.slice va n vc, .slice ra m rc]) V R from ⟨va, n, vc, ra, m, rc, rfl, hVA.on hb, hRA.on hb⟩))
  have HT2 := Lib.hid (fun W (hb : Below w.heap.size w W) => (show TabA W (.agg #[.slice ua n2 uc, .slice sa m2 sc]) U S from ⟨ua, n2, uc, sa, m2, sc, rfl, hUA.on hb, hSA.on hb⟩))
  have HLA := Lib.hid (fun W (hb : Below w.heap.size w W) => light_calls V R _ W (HT1.out W hb))
  have HLB := Lib.hid (fun W (hb : Below w.heap.size w W) => light_calls U S _ W (HT2.out W hb))
  have HRA := Lib.hid (fun W (hb : Below w.heap.size w W) => tabRight_calls V R hx hr.r va ra n vc m rc W (hVA.on hb) (hRA.on hb))
  have HRB := Lib.hid (fun W (hb : Below w.heap.size w W) => tabRight_calls U S hu hs.r ua sa n2 uc m2 sc W (hUA.on hb) (hSA.on hb))
  have HSR := Lib.hid (fun W (hb : Below w.heap.size w W) => sameRows_calls V R U S _ _ W (HT1.out W hb) (HT2.out W hb))
  have HAB := Lib.hid (fun W (hb : Below w.heap.size w W) => tabs_calls V U R S hx hr hu hs _ _ W (hg.on hb) (HT1.out W hb) (HT2.out W hb))
  have HAA := Lib.hid (fun W (hb : Below w.heap.size w W) => tabs_calls V V R R hx hr hx hr _ _ W (hg.on hb) (HT1.out W hb) (HT1.out W hb))
  have HAW := Lib.hid (fun W hW => awake_calls W hW)
  have HAE := Lib.hid hA
  have HW0 := Lib.hid hW0
  clear h0 hW0 hVA hRA hUA hSA hA hg hx hr hu hs
  cases hla : lightB V R with
  | false =>
    rw [hla] at HLA
    clear hla
    go_enter Tryz.func8, Tryz.ntmps8
    go_wp2_with fail
    rw [HW0.out, HAE.out]
    refine (HLA.out _ HB0.out).mono ?_
    rintro e w1 ⟨rfl, hb1⟩
    have HB1 := Lib.hid (fb2 HB0.out hb1 (Nat.le_refl _))
    have HX1 := Lib.hid (blk_on H0.out.one hb1 (blk_lt H0.out.one))
    have HY1 := Lib.hid (blk_on H0.out.two hb1 (blk_lt H0.out.two))
    have q2 : w1.cell? ⟨A + 1, 0, none⟩ = some (.slice ua n2 uc) := (blk_cell HY1.out 0).trans rfl
    have q3 : w1.cell? ⟨A + 1, 1, none⟩ = some (.slice sa m2 sc) := (blk_cell HY1.out 1).trans rfl
    clear hb1
    go_wp2_with fail
    refine (HAW.out _ (HG.out.on HB1.out)).mono ?_
    rintro e w2 ⟨rfl, hb2⟩
    have HBz := Lib.hid (fb2 HB1.out hb2 (Nat.le_refl _))
    clear hb2
    go_wp2
    go_ret
    exact ⟨rfl, HBz.out⟩
  | true =>
    rw [hla] at HLA
    clear hla
    cases hlb : lightB U S with
    | false =>
      rw [hlb] at HLB
      clear hlb
      go_enter Tryz.func8, Tryz.ntmps8
      go_wp2_with fail
      rw [HW0.out, HAE.out]
      refine (HLA.out _ HB0.out).mono ?_
      rintro e w1 ⟨rfl, hb1⟩
      have HB1 := Lib.hid (fb2 HB0.out hb1 (Nat.le_refl _))
      have HX1 := Lib.hid (blk_on H0.out.one hb1 (blk_lt H0.out.one))
      have HY1 := Lib.hid (blk_on H0.out.two hb1 (blk_lt H0.out.two))
      have q2 : w1.cell? ⟨A + 1, 0, none⟩ = some (.slice ua n2 uc) := (blk_cell HY1.out 0).trans rfl
      have q3 : w1.cell? ⟨A + 1, 1, none⟩ = some (.slice sa m2 sc) := (blk_cell HY1.out 1).trans rfl
      clear hb1
      go_wp2_with fail
      refine (HLB.out _ HB1.out).mono ?_
      rintro e w2 ⟨rfl, hb2⟩
      have HB2 := Lib.hid (fb2 HB1.out hb2 (Nat.le_refl _))
      have HX2 := Lib.hid (blk_on HX1.out hb2 (blk_lt HX1.out))
      have HY2 := Lib.hid (blk_on HY1.out hb2 (blk_lt HY1.out))
      have q4 : w2.cell? ⟨A, 0, none⟩ = some (.slice va n vc) := (blk_cell HX2.out 0).trans rfl
      have q5 : w2.cell? ⟨A, 1, none⟩ = some (.slice ra m rc) := (blk_cell HX2.out 1).trans rfl
      clear hb2 q2 q3
      go_wp2_with fail
      refine (HAW.out _ (HG.out.on HB2.out)).mono ?_
      rintro e w3 ⟨rfl, hb3⟩
      have HBz := Lib.hid (fb2 HB2.out hb3 (Nat.le_refl _))
      clear hb3
      go_wp2
      go_ret
      exact ⟨rfl, HBz.out⟩
    | true =>
      rw [hlb] at HLB
      clear hlb
      cases hra : rightT V R with
      | false =>
        have e1 : sameTab V R U S = false := by unfold sameTab; rw [hra]; rfl
        have e2 : sameTab V R V R = false := by unfold sameTab; rw [hra]; rfl
        rw [hra] at HRA
        rw [e1] at HAB
        rw [e2] at HAA
        clear hra e1 e2
        go_enter Tryz.func8, Tryz.ntmps8
        go_wp2_with fail
        rw [HW0.out, HAE.out]
        refine (HLA.out _ HB0.out).mono ?_
        rintro e w1 ⟨rfl, hb1⟩
        have HB1 := Lib.hid (fb2 HB0.out hb1 (Nat.le_refl _))
        have HX1 := Lib.hid (blk_on H0.out.one hb1 (blk_lt H0.out.one))
        have HY1 := Lib.hid (blk_on H0.out.two hb1 (blk_lt H0.out.two))
        have q2 : w1.cell? ⟨A + 1, 0, none⟩ = some (.slice ua n2 uc) := (blk_cell HY1.out 0).trans rfl
        have q3 : w1.cell? ⟨A + 1, 1, none⟩ = some (.slice sa m2 sc) := (blk_cell HY1.out 1).trans rfl
        clear hb1
        go_wp2_with fail
        refine (HLB.out _ HB1.out).mono ?_
        rintro e w2 ⟨rfl, hb2⟩
        have HB2 := Lib.hid (fb2 HB1.out hb2 (Nat.le_refl _))
        have HX2 := Lib.hid (blk_on HX1.out hb2 (blk_lt HX1.out))
        have HY2 := Lib.hid (blk_on HY1.out hb2 (blk_lt HY1.out))
        have q4 : w2.cell? ⟨A, 0, none⟩ = some (.slice va n vc) := (blk_cell HX2.out 0).trans rfl
        have q5 : w2.cell? ⟨A, 1, none⟩ = some (.slice ra m rc) := (blk_cell HX2.out 1).trans rfl
        clear hb2 q2 q3
        go_wp2_with fail
        refine (HRA.out _ HB2.out).mono ?_
        rintro e w3 ⟨rfl, hb3⟩
        have HB3 := Lib.hid (fb2 HB2.out hb3 (Nat.le_refl _))
        have HX3 := Lib.hid (blk_on HX2.out hb3 (blk_lt HX2.out))
        have HY3 := Lib.hid (blk_on HY2.out hb3 (blk_lt HY2.out))
        have r0 : w3.cell? ⟨A, 0, none⟩ = some (.slice va n vc) := (blk_cell HX3.out 0).trans rfl
        have r1 : w3.cell? ⟨A, 1, none⟩ = some (.slice ra m rc) := (blk_cell HX3.out 1).trans rfl
        have r2 : w3.cell? ⟨A + 1, 0, none⟩ = some (.slice ua n2 uc) := (blk_cell HY3.out 0).trans rfl
        have r3 : w3.cell? ⟨A + 1, 1, none⟩ = some (.slice sa m2 sc) := (blk_cell HY3.out 1).trans rfl
        clear hb3 q4 q5
        have HSB := Lib.hid (show Blk w3 A 31 #[.slice va n vc, .slice ra m rc] ∧ Blk w3 (A + 1) 31 #[.slice ua n2 uc, .slice sa m2 sc] from ⟨HX3.out, HY3.out⟩)
        go_wp2_with fail
        clear r0 r1 r2 r3
        refine wp_region_held_drew (S := (fun W => Blk W A 31 #[.slice va n vc, .slice ra m rc] ∧ Blk W (A + 1) 31 #[.slice ua n2 uc, .slice sa m2 sc])) (by kernel_rfl) ?_ (fun hHeld => ?_)
        · (try dsimp only); exact HSB.out
        obtain ⟨Wd, hWd⟩ : ∃ Wd, w3.drew = Wd := ⟨_, rfl⟩
        rw [hWd] at hHeld ⊢
        have HBD := Lib.hid (show Below w3.heap.size w3 Wd by rw [← hWd]; exact (Below.refl _ _).drew)
        have HBWd := Lib.hid (fb2 HB3.out HBD.out (Nat.le_refl _))
        clear hWd
        refine wpAnyH_take (i := 0) (oi := ⟨some 26, _, _, _, _, _⟩) (v := ?_) rfl (by kernel_rfl) (by kernel_rfl) (by kernel_rfl) (fun _ _ _ h => h) (Or.inl ⟨by kernel_rfl, ?_⟩) (by assumption) ?_
        rotate_left
        · (intro ww hSw; (try dsimp only at hSw); obtain ⟨b0, b1⟩ := hSw; have d1 : ww.cell? ⟨A, 0, none⟩ = some (.slice va n vc) := (blk_cell b0 0).trans rfl; have d2 : ww.cell? ⟨A, 1, none⟩ = some (.slice ra m rc) := (blk_cell b0 1).trans rfl; have d3 : ww.cell? ⟨(A + 1), 0, none⟩ = some (.slice ua n2 uc) := (blk_cell b1 0).trans rfl; have d4 : ww.cell? ⟨(A + 1), 1, none⟩ = some (.slice sa m2 sc) := (blk_cell b1 1).trans rfl; go_simp); (try with_reducible rfl)
        (try simp only [Act.put, List.setIfInBounds_toArray, List.set_cons_zero, List.set_cons_succ])
        refine wpAnyH_take (i := 1) (oi := ⟨some 27, _, _, _, _, _⟩) (v := ?_) rfl (by kernel_rfl) (by kernel_rfl) (by kernel_rfl) (fun _ _ _ h => h) (Or.inl ⟨by kernel_rfl, ?_⟩) (by assumption) ?_
        rotate_left
        · (intro ww hSw; (try dsimp only at hSw); obtain ⟨b0, b1⟩ := hSw; have d1 : ww.cell? ⟨A, 0, none⟩ = some (.slice va n vc) := (blk_cell b0 0).trans rfl; have d2 : ww.cell? ⟨A, 1, none⟩ = some (.slice ra m rc) := (blk_cell b0 1).trans rfl; have d3 : ww.cell? ⟨(A + 1), 0, none⟩ = some (.slice ua n2 uc) := (blk_cell b1 0).trans rfl; have d4 : ww.cell? ⟨(A + 1), 1, none⟩ = some (.slice sa m2 sc) := (blk_cell b1 1).trans rfl; go_simp); (try with_reducible rfl)
        (try simp only [Act.put, List.setIfInBounds_toArray, List.set_cons_zero, List.set_cons_succ])
        refine wpAnyH_take (i := 3) (oi := ⟨some 29, _, _, _, _, _⟩) (v := ?_) rfl (by kernel_rfl) (by kernel_rfl) (by kernel_rfl) (fun _ _ _ h => h) (Or.inl ⟨by kernel_rfl, ?_⟩) (by assumption) ?_
        rotate_left
        · (intro ww hSw; (try dsimp only at hSw); go_simp); (try with_reducible rfl)
        (try simp only [Act.put, List.setIfInBounds_toArray, List.set_cons_zero, List.set_cons_succ])
        refine wpAnyH_ready (rs := [2]) (by kernel_rfl) (by simp) ?_
        refine AllReadyH.cons rfl (fun K hK => ?_) AllReadyH.nil
        go_simp
        refine (HAB.out _ HBWd.out).mono ?_
        rintro e wa ⟨rfl, hba⟩
        have HBa := Lib.hid (fb2 HBWd.out hba (Nat.le_refl _))
        have HBSa := Lib.hid (fb2 HBD.out hba (Nat.le_refl _))
        clear hba
        go_wp2_with fail
        refine hK.out _ _ ?_ (fun hHeld => ?_)
        · exact ⟨blk_on HSB.out.1 HBSa.out (blk_lt HSB.out.1), blk_on HSB.out.2 HBSa.out (blk_lt HSB.out.2)⟩
        clear hK K
        (try simp only [Act.put, List.setIfInBounds_toArray, List.set_cons_zero, List.set_cons_succ])
        refine wpAnyH_take (i := 4) (oi := ⟨some 30, _, _, _, _, _⟩) (v := ?_) rfl (by kernel_rfl) (by kernel_rfl) (by kernel_rfl) (fun _ _ _ h => h) (Or.inl ⟨by kernel_rfl, ?_⟩) (by assumption) ?_
        rotate_left
        · (intro ww hSw; (try dsimp only at hSw); go_simp); (try with_reducible rfl)
        (try simp only [Act.put, List.setIfInBounds_toArray, List.set_cons_zero, List.set_cons_succ])
        refine wpAnyH_take (i := 5) (oi := ⟨some 31, _, _, _, _, _⟩) (v := ?_) rfl (by kernel_rfl) (by kernel_rfl) (by kernel_rfl) (fun _ _ _ h => h) (Or.inl ⟨by kernel_rfl, ?_⟩) (by assumption) ?_
        rotate_left
        · (intro ww hSw; (try dsimp only at hSw); go_simp); (try with_reducible rfl)
        (try simp only [Act.put, List.setIfInBounds_toArray, List.set_cons_zero, List.set_cons_succ])
        refine wpAnyH_take (i := 6) (oi := ⟨some 32, _, _, _, _, _⟩) (v := ?_) rfl (by kernel_rfl) (by kernel_rfl) (by kernel_rfl) (fun _ _ _ h => h) (Or.inl ⟨by kernel_rfl, ?_⟩) (by assumption) ?_
        rotate_left
        · (intro ww hSw; (try dsimp only at hSw); obtain ⟨b0, b1⟩ := hSw; have d1 : ww.cell? ⟨A, 0, none⟩ = some (.slice va n vc) := (blk_cell b0 0).trans rfl; have d2 : ww.cell? ⟨A, 1, none⟩ = some (.slice ra m rc) := (blk_cell b0 1).trans rfl; have d3 : ww.cell? ⟨(A + 1), 0, none⟩ = some (.slice ua n2 uc) := (blk_cell b1 0).trans rfl; have d4 : ww.cell? ⟨(A + 1), 1, none⟩ = some (.slice sa m2 sc) := (blk_cell b1 1).trans rfl; go_simp); (try with_reducible rfl)
        (try simp only [Act.put, List.setIfInBounds_toArray, List.set_cons_zero, List.set_cons_succ])
        refine wpAnyH_take (i := 7) (oi := ⟨some 33, _, _, _, _, _⟩) (v := ?_) rfl (by kernel_rfl) (by kernel_rfl) (by kernel_rfl) (fun _ _ _ h => h) (Or.inl ⟨by kernel_rfl, ?_⟩) (by assumption) ?_
        rotate_left
        · (intro ww hSw; (try dsimp only at hSw); obtain ⟨b0, b1⟩ := hSw; have d1 : ww.cell? ⟨A, 0, none⟩ = some (.slice va n vc) := (blk_cell b0 0).trans rfl; have d2 : ww.cell? ⟨A, 1, none⟩ = some (.slice ra m rc) := (blk_cell b0 1).trans rfl; have d3 : ww.cell? ⟨(A + 1), 0, none⟩ = some (.slice ua n2 uc) := (blk_cell b1 0).trans rfl; have d4 : ww.cell? ⟨(A + 1), 1, none⟩ = some (.slice sa m2 sc) := (blk_cell b1 1).trans rfl; go_simp); (try with_reducible rfl)
        (try simp only [Act.put, List.setIfInBounds_toArray, List.set_cons_zero, List.set_cons_succ])
        refine wpAnyH_take (i := 9) (oi := ⟨some 35, _, _, _, _, _⟩) (v := ?_) rfl (by kernel_rfl) (by kernel_rfl) (by kernel_rfl) (fun _ _ _ h => h) (Or.inl ⟨by kernel_rfl, ?_⟩) (by assumption) ?_
        rotate_left
        · (intro ww hSw; (try dsimp only at hSw); obtain ⟨b0, b1⟩ := hSw; have d1 : ww.cell? ⟨A, 0, none⟩ = some (.slice va n vc) := (blk_cell b0 0).trans rfl; have d2 : ww.cell? ⟨A, 1, none⟩ = some (.slice ra m rc) := (blk_cell b0 1).trans rfl; have d3 : ww.cell? ⟨(A + 1), 0, none⟩ = some (.slice ua n2 uc) := (blk_cell b1 0).trans rfl; have d4 : ww.cell? ⟨(A + 1), 1, none⟩ = some (.slice sa m2 sc) := (blk_cell b1 1).trans rfl; go_simp); (try with_reducible rfl)
        (try simp only [Act.put, List.setIfInBounds_toArray, List.set_cons_zero, List.set_cons_succ])
        refine wpAnyH_ready (rs := [8]) (by kernel_rfl) (by simp) ?_
        refine AllReadyH.cons rfl (fun K hK => ?_) AllReadyH.nil
        go_simp
        refine (HAA.out _ HBa.out).mono ?_
        rintro e wb ⟨rfl, hbb⟩
        have HBb := Lib.hid (fb2 HBa.out hbb (Nat.le_refl _))
        have HBSb := Lib.hid (fb2 HBSa.out hbb (Nat.le_refl _))
        clear hbb
        go_wp2_with fail
        refine hK.out _ _ ?_ (fun hHeld => ?_)
        · exact ⟨blk_on HSB.out.1 HBSb.out (blk_lt HSB.out.1), blk_on HSB.out.2 HBSb.out (blk_lt HSB.out.2)⟩
        clear hK K
        (try simp only [Act.put, List.setIfInBounds_toArray, List.set_cons_zero, List.set_cons_succ])
        refine wpAnyH_ready (rs := [10]) (by kernel_rfl) (by simp) ?_
        refine AllReadyH.cons rfl (fun K hK => ?_) AllReadyH.nil
        go_simp
        refine (HRA.out _ HBb.out).mono ?_
        rintro e wc ⟨rfl, hbc⟩
        have HBc := Lib.hid (fb2 HBb.out hbc (Nat.le_refl _))
        have HBSc := Lib.hid (fb2 HBSb.out hbc (Nat.le_refl _))
        clear hbc
        go_wp2_with fail
        refine hK.out _ _ ?_ (fun hHeld => ?_)
        · exact ⟨blk_on HSB.out.1 HBSc.out (blk_lt HSB.out.1), blk_on HSB.out.2 HBSc.out (blk_lt HSB.out.2)⟩
        clear hK K
        (try simp only [Act.put, List.setIfInBounds_toArray, List.set_cons_zero, List.set_cons_succ])
        refine wpAnyH_take (i := 11) (oi := ⟨some 37, _, _, _, _, _⟩) (v := ?_) rfl (by kernel_rfl) (by kernel_rfl) (by kernel_rfl) (fun _ _ _ h => h) (Or.inl ⟨by kernel_rfl, ?_⟩) (by assumption) ?_
        rotate_left
        · (intro ww hSw; (try dsimp only at hSw); go_simp); (try with_reducible rfl)
        (try simp only [Act.put, List.setIfInBounds_toArray, List.set_cons_zero, List.set_cons_succ])
        refine wpAnyH_take (i := 12) (oi := ⟨some 38, _, _, _, _, _⟩) (v := ?_) rfl (by kernel_rfl) (by kernel_rfl) (by kernel_rfl) (fun _ _ _ h => h) (Or.inl ⟨by kernel_rfl, ?_⟩) (by assumption) ?_
        rotate_left
        · (intro ww hSw; (try dsimp only at hSw); go_simp); (try with_reducible rfl)
        (try simp only [Act.put, List.setIfInBounds_toArray, List.set_cons_zero, List.set_cons_succ])
        refine wpAnyH_take (i := 13) (oi := ⟨some 39, _, _, _, _, _⟩) (v := ?_) rfl (by kernel_rfl) (by kernel_rfl) (by kernel_rfl) (fun _ _ _ h => h) (Or.inl ⟨by kernel_rfl, ?_⟩) (by assumption) ?_
        rotate_left
        · (intro ww hSw; (try dsimp only at hSw); go_simp); (try with_reducible rfl)
        (try simp only [Act.put, List.setIfInBounds_toArray, List.set_cons_zero, List.set_cons_succ])
        refine wpAnyH_ready (rs := [14]) (by kernel_rfl) (by simp) ?_
        refine AllReadyH.cons rfl (fun K hK => ?_) AllReadyH.nil
        go_simp
        refine (HAW.out _ (HG.out.on HBc.out)).mono ?_
        rintro e wd ⟨rfl, hbd⟩
        have HBd := Lib.hid (fb2 HBc.out hbd (Nat.le_refl _))
        have HBSd := Lib.hid (fb2 HBSc.out hbd (Nat.le_refl _))
        clear hbd
        go_wp2_with fail
        refine hK.out _ _ ?_ (fun hHeld => ?_)
        · exact ⟨blk_on HSB.out.1 HBSd.out (blk_lt HSB.out.1), blk_on HSB.out.2 HBSd.out (blk_lt HSB.out.2)⟩
        clear hK K
        (try simp only [Act.put, List.setIfInBounds_toArray, List.set_cons_zero, List.set_cons_succ])
        refine wpAnyH_take (i := 15) (oi := ⟨some 41, _, _, _, _, _⟩) (v := ?_) rfl (by kernel_rfl) (by kernel_rfl) (by kernel_rfl) (fun _ _ _ h => h) (Or.inl ⟨by kernel_rfl, ?_⟩) (by assumption) ?_
        rotate_left
        · (intro ww hSw; (try dsimp only at hSw); go_simp); (try with_reducible rfl)
        (try simp only [Act.put, List.setIfInBounds_toArray, List.set_cons_zero, List.set_cons_succ])
        refine wpAnyH_take (i := 16) (oi := ⟨some 4, _, _, _, _, _⟩) (v := ?_) rfl (by kernel_rfl) (by kernel_rfl) (by kernel_rfl) (fun _ _ _ h => h) (Or.inl ⟨by kernel_rfl, ?_⟩) (by assumption) ?_
        rotate_left
        · (intro ww hSw; (try dsimp only at hSw); go_simp); (try with_reducible rfl)
        (try simp only [Act.put, List.setIfInBounds_toArray, List.set_cons_zero, List.set_cons_succ])
        refine wpAnyH_done (by kernel_rfl) ?_ _
        go_wp2
        go_ret
        exact ⟨rfl, HBd.out⟩
      | true =>
        have e2 : sameTab V R V R = true := by unfold sameTab; rw [hra, same_self hra]; rfl
        rw [e2] at HAA
        clear e2
        cases hrb : rightT U S with
        | false =>
          have e1 : sameTab V R U S = false := by unfold sameTab; rw [hrb]; simp
          rw [hra] at HRA
          rw [hrb] at HRB
          rw [e1] at HAB
          clear hra hrb e1
          go_enter Tryz.func8, Tryz.ntmps8
          go_wp2_with fail
          rw [HW0.out, HAE.out]
          refine (HLA.out _ HB0.out).mono ?_
          rintro e w1 ⟨rfl, hb1⟩
          have HB1 := Lib.hid (fb2 HB0.out hb1 (Nat.le_refl _))
          have HX1 := Lib.hid (blk_on H0.out.one hb1 (blk_lt H0.out.one))
          have HY1 := Lib.hid (blk_on H0.out.two hb1 (blk_lt H0.out.two))
          have q2 : w1.cell? ⟨A + 1, 0, none⟩ = some (.slice ua n2 uc) := (blk_cell HY1.out 0).trans rfl
          have q3 : w1.cell? ⟨A + 1, 1, none⟩ = some (.slice sa m2 sc) := (blk_cell HY1.out 1).trans rfl
          clear hb1
          go_wp2_with fail
          refine (HLB.out _ HB1.out).mono ?_
          rintro e w2 ⟨rfl, hb2⟩
          have HB2 := Lib.hid (fb2 HB1.out hb2 (Nat.le_refl _))
          have HX2 := Lib.hid (blk_on HX1.out hb2 (blk_lt HX1.out))
          have HY2 := Lib.hid (blk_on HY1.out hb2 (blk_lt HY1.out))
          have q4 : w2.cell? ⟨A, 0, none⟩ = some (.slice va n vc) := (blk_cell HX2.out 0).trans rfl
          have q5 : w2.cell? ⟨A, 1, none⟩ = some (.slice ra m rc) := (blk_cell HX2.out 1).trans rfl
          clear hb2 q2 q3
          go_wp2_with fail
          refine (HRA.out _ HB2.out).mono ?_
          rintro e w3 ⟨rfl, hb3⟩
          have HB3 := Lib.hid (fb2 HB2.out hb3 (Nat.le_refl _))
          have HX3 := Lib.hid (blk_on HX2.out hb3 (blk_lt HX2.out))
          have HY3 := Lib.hid (blk_on HY2.out hb3 (blk_lt HY2.out))
          have r0 : w3.cell? ⟨A, 0, none⟩ = some (.slice va n vc) := (blk_cell HX3.out 0).trans rfl
          have r1 : w3.cell? ⟨A, 1, none⟩ = some (.slice ra m rc) := (blk_cell HX3.out 1).trans rfl
          have r2 : w3.cell? ⟨A + 1, 0, none⟩ = some (.slice ua n2 uc) := (blk_cell HY3.out 0).trans rfl
          have r3 : w3.cell? ⟨A + 1, 1, none⟩ = some (.slice sa m2 sc) := (blk_cell HY3.out 1).trans rfl
          clear hb3 q4 q5
          go_wp2_with fail
          refine (HRB.out _ HB3.out).mono ?_
          rintro e w4 ⟨rfl, hb4⟩
          have HB4 := Lib.hid (fb2 HB3.out hb4 (Nat.le_refl _))
          have HX4 := Lib.hid (blk_on HX3.out hb4 (blk_lt HX3.out))
          have HY4 := Lib.hid (blk_on HY3.out hb4 (blk_lt HY3.out))
          have s0 : w4.cell? ⟨A, 0, none⟩ = some (.slice va n vc) := (blk_cell HX4.out 0).trans rfl
          have s1 : w4.cell? ⟨A, 1, none⟩ = some (.slice ra m rc) := (blk_cell HX4.out 1).trans rfl
          have s2 : w4.cell? ⟨A + 1, 0, none⟩ = some (.slice ua n2 uc) := (blk_cell HY4.out 0).trans rfl
          have s3 : w4.cell? ⟨A + 1, 1, none⟩ = some (.slice sa m2 sc) := (blk_cell HY4.out 1).trans rfl
          clear hb4 r0 r1 r2 r3
          have HSB := Lib.hid (show Blk w4 A 31 #[.slice va n vc, .slice ra m rc] ∧ Blk w4 (A + 1) 31 #[.slice ua n2 uc, .slice sa m2 sc] from ⟨HX4.out, HY4.out⟩)
          go_wp2_with fail
          clear s0 s1 s2 s3
          refine wp_region_held_drew (S := (fun W => Blk W A 31 #[.slice va n vc, .slice ra m rc] ∧ Blk W (A + 1) 31 #[.slice ua n2 uc, .slice sa m2 sc])) (by kernel_rfl) ?_ (fun hHeld => ?_)
          · (try dsimp only); exact HSB.out
          obtain ⟨Wd, hWd⟩ : ∃ Wd, w4.drew = Wd := ⟨_, rfl⟩
          rw [hWd] at hHeld ⊢
          have HBD := Lib.hid (show Below w4.heap.size w4 Wd by rw [← hWd]; exact (Below.refl _ _).drew)
          have HBWd := Lib.hid (fb2 HB4.out HBD.out (Nat.le_refl _))
          clear hWd
          refine wpAnyH_take (i := 0) (oi := ⟨some 26, _, _, _, _, _⟩) (v := ?_) rfl (by kernel_rfl) (by kernel_rfl) (by kernel_rfl) (fun _ _ _ h => h) (Or.inl ⟨by kernel_rfl, ?_⟩) (by assumption) ?_
          rotate_left
          · (intro ww hSw; (try dsimp only at hSw); obtain ⟨b0, b1⟩ := hSw; have d1 : ww.cell? ⟨A, 0, none⟩ = some (.slice va n vc) := (blk_cell b0 0).trans rfl; have d2 : ww.cell? ⟨A, 1, none⟩ = some (.slice ra m rc) := (blk_cell b0 1).trans rfl; have d3 : ww.cell? ⟨(A + 1), 0, none⟩ = some (.slice ua n2 uc) := (blk_cell b1 0).trans rfl; have d4 : ww.cell? ⟨(A + 1), 1, none⟩ = some (.slice sa m2 sc) := (blk_cell b1 1).trans rfl; go_simp); (try with_reducible rfl)
          (try simp only [Act.put, List.setIfInBounds_toArray, List.set_cons_zero, List.set_cons_succ])
          refine wpAnyH_take (i := 1) (oi := ⟨some 27, _, _, _, _, _⟩) (v := ?_) rfl (by kernel_rfl) (by kernel_rfl) (by kernel_rfl) (fun _ _ _ h => h) (Or.inl ⟨by kernel_rfl, ?_⟩) (by assumption) ?_
          rotate_left
          · (intro ww hSw; (try dsimp only at hSw); obtain ⟨b0, b1⟩ := hSw; have d1 : ww.cell? ⟨A, 0, none⟩ = some (.slice va n vc) := (blk_cell b0 0).trans rfl; have d2 : ww.cell? ⟨A, 1, none⟩ = some (.slice ra m rc) := (blk_cell b0 1).trans rfl; have d3 : ww.cell? ⟨(A + 1), 0, none⟩ = some (.slice ua n2 uc) := (blk_cell b1 0).trans rfl; have d4 : ww.cell? ⟨(A + 1), 1, none⟩ = some (.slice sa m2 sc) := (blk_cell b1 1).trans rfl; go_simp); (try with_reducible rfl)
          (try simp only [Act.put, List.setIfInBounds_toArray, List.set_cons_zero, List.set_cons_succ])
          refine wpAnyH_take (i := 3) (oi := ⟨some 29, _, _, _, _, _⟩) (v := ?_) rfl (by kernel_rfl) (by kernel_rfl) (by kernel_rfl) (fun _ _ _ h => h) (Or.inl ⟨by kernel_rfl, ?_⟩) (by assumption) ?_
          rotate_left
          · (intro ww hSw; (try dsimp only at hSw); go_simp); (try with_reducible rfl)
          (try simp only [Act.put, List.setIfInBounds_toArray, List.set_cons_zero, List.set_cons_succ])
          refine wpAnyH_ready (rs := [2]) (by kernel_rfl) (by simp) ?_
          refine AllReadyH.cons rfl (fun K hK => ?_) AllReadyH.nil
          go_simp
          refine (HAB.out _ HBWd.out).mono ?_
          rintro e wa ⟨rfl, hba⟩
          have HBa := Lib.hid (fb2 HBWd.out hba (Nat.le_refl _))
          have HBSa := Lib.hid (fb2 HBD.out hba (Nat.le_refl _))
          clear hba
          go_wp2_with fail
          refine hK.out _ _ ?_ (fun hHeld => ?_)
          · exact ⟨blk_on HSB.out.1 HBSa.out (blk_lt HSB.out.1), blk_on HSB.out.2 HBSa.out (blk_lt HSB.out.2)⟩
          clear hK K
          (try simp only [Act.put, List.setIfInBounds_toArray, List.set_cons_zero, List.set_cons_succ])
          refine wpAnyH_take (i := 4) (oi := ⟨some 30, _, _, _, _, _⟩) (v := ?_) rfl (by kernel_rfl) (by kernel_rfl) (by kernel_rfl) (fun _ _ _ h => h) (Or.inl ⟨by kernel_rfl, ?_⟩) (by assumption) ?_
          rotate_left
          · (intro ww hSw; (try dsimp only at hSw); go_simp); (try with_reducible rfl)
          (try simp only [Act.put, List.setIfInBounds_toArray, List.set_cons_zero, List.set_cons_succ])
          refine wpAnyH_take (i := 5) (oi := ⟨some 31, _, _, _, _, _⟩) (v := ?_) rfl (by kernel_rfl) (by kernel_rfl) (by kernel_rfl) (fun _ _ _ h => h) (Or.inl ⟨by kernel_rfl, ?_⟩) (by assumption) ?_
          rotate_left
          · (intro ww hSw; (try dsimp only at hSw); go_simp); (try with_reducible rfl)
          (try simp only [Act.put, List.setIfInBounds_toArray, List.set_cons_zero, List.set_cons_succ])
          refine wpAnyH_take (i := 6) (oi := ⟨some 32, _, _, _, _, _⟩) (v := ?_) rfl (by kernel_rfl) (by kernel_rfl) (by kernel_rfl) (fun _ _ _ h => h) (Or.inl ⟨by kernel_rfl, ?_⟩) (by assumption) ?_
          rotate_left
          · (intro ww hSw; (try dsimp only at hSw); obtain ⟨b0, b1⟩ := hSw; have d1 : ww.cell? ⟨A, 0, none⟩ = some (.slice va n vc) := (blk_cell b0 0).trans rfl; have d2 : ww.cell? ⟨A, 1, none⟩ = some (.slice ra m rc) := (blk_cell b0 1).trans rfl; have d3 : ww.cell? ⟨(A + 1), 0, none⟩ = some (.slice ua n2 uc) := (blk_cell b1 0).trans rfl; have d4 : ww.cell? ⟨(A + 1), 1, none⟩ = some (.slice sa m2 sc) := (blk_cell b1 1).trans rfl; go_simp); (try with_reducible rfl)
          (try simp only [Act.put, List.setIfInBounds_toArray, List.set_cons_zero, List.set_cons_succ])
          refine wpAnyH_take (i := 7) (oi := ⟨some 33, _, _, _, _, _⟩) (v := ?_) rfl (by kernel_rfl) (by kernel_rfl) (by kernel_rfl) (fun _ _ _ h => h) (Or.inl ⟨by kernel_rfl, ?_⟩) (by assumption) ?_
          rotate_left
          · (intro ww hSw; (try dsimp only at hSw); obtain ⟨b0, b1⟩ := hSw; have d1 : ww.cell? ⟨A, 0, none⟩ = some (.slice va n vc) := (blk_cell b0 0).trans rfl; have d2 : ww.cell? ⟨A, 1, none⟩ = some (.slice ra m rc) := (blk_cell b0 1).trans rfl; have d3 : ww.cell? ⟨(A + 1), 0, none⟩ = some (.slice ua n2 uc) := (blk_cell b1 0).trans rfl; have d4 : ww.cell? ⟨(A + 1), 1, none⟩ = some (.slice sa m2 sc) := (blk_cell b1 1).trans rfl; go_simp); (try with_reducible rfl)
          (try simp only [Act.put, List.setIfInBounds_toArray, List.set_cons_zero, List.set_cons_succ])
          refine wpAnyH_take (i := 9) (oi := ⟨some 35, _, _, _, _, _⟩) (v := ?_) rfl (by kernel_rfl) (by kernel_rfl) (by kernel_rfl) (fun _ _ _ h => h) (Or.inl ⟨by kernel_rfl, ?_⟩) (by assumption) ?_
          rotate_left
          · (intro ww hSw; (try dsimp only at hSw); obtain ⟨b0, b1⟩ := hSw; have d1 : ww.cell? ⟨A, 0, none⟩ = some (.slice va n vc) := (blk_cell b0 0).trans rfl; have d2 : ww.cell? ⟨A, 1, none⟩ = some (.slice ra m rc) := (blk_cell b0 1).trans rfl; have d3 : ww.cell? ⟨(A + 1), 0, none⟩ = some (.slice ua n2 uc) := (blk_cell b1 0).trans rfl; have d4 : ww.cell? ⟨(A + 1), 1, none⟩ = some (.slice sa m2 sc) := (blk_cell b1 1).trans rfl; go_simp); (try with_reducible rfl)
          (try simp only [Act.put, List.setIfInBounds_toArray, List.set_cons_zero, List.set_cons_succ])
          refine wpAnyH_ready (rs := [8]) (by kernel_rfl) (by simp) ?_
          refine AllReadyH.cons rfl (fun K hK => ?_) AllReadyH.nil
          go_simp
          refine (HAA.out _ HBa.out).mono ?_
          rintro e wb ⟨rfl, hbb⟩
          have HBb := Lib.hid (fb2 HBa.out hbb (Nat.le_refl _))
          have HBSb := Lib.hid (fb2 HBSa.out hbb (Nat.le_refl _))
          clear hbb
          go_wp2_with fail
          refine hK.out _ _ ?_ (fun hHeld => ?_)
          · exact ⟨blk_on HSB.out.1 HBSb.out (blk_lt HSB.out.1), blk_on HSB.out.2 HBSb.out (blk_lt HSB.out.2)⟩
          clear hK K
          (try simp only [Act.put, List.setIfInBounds_toArray, List.set_cons_zero, List.set_cons_succ])
          refine wpAnyH_ready (rs := [10]) (by kernel_rfl) (by simp) ?_
          refine AllReadyH.cons rfl (fun K hK => ?_) AllReadyH.nil
          go_simp
          refine (HRA.out _ HBb.out).mono ?_
          rintro e wc ⟨rfl, hbc⟩
          have HBc := Lib.hid (fb2 HBb.out hbc (Nat.le_refl _))
          have HBSc := Lib.hid (fb2 HBSb.out hbc (Nat.le_refl _))
          clear hbc
          go_wp2_with fail
          refine hK.out _ _ ?_ (fun hHeld => ?_)
          · exact ⟨blk_on HSB.out.1 HBSc.out (blk_lt HSB.out.1), blk_on HSB.out.2 HBSc.out (blk_lt HSB.out.2)⟩
          clear hK K
          (try simp only [Act.put, List.setIfInBounds_toArray, List.set_cons_zero, List.set_cons_succ])
          refine wpAnyH_take (i := 11) (oi := ⟨some 37, _, _, _, _, _⟩) (v := ?_) rfl (by kernel_rfl) (by kernel_rfl) (by kernel_rfl) (fun _ _ _ h => h) (Or.inl ⟨by kernel_rfl, ?_⟩) (by assumption) ?_
          rotate_left
          · (intro ww hSw; (try dsimp only at hSw); go_simp); (try with_reducible rfl)
          (try simp only [Act.put, List.setIfInBounds_toArray, List.set_cons_zero, List.set_cons_succ])
          refine wpAnyH_take (i := 12) (oi := ⟨some 38, _, _, _, _, _⟩) (v := ?_) rfl (by kernel_rfl) (by kernel_rfl) (by kernel_rfl) (fun _ _ _ h => h) (Or.inl ⟨by kernel_rfl, ?_⟩) (by assumption) ?_
          rotate_left
          · (intro ww hSw; (try dsimp only at hSw); go_simp); (try with_reducible rfl)
          (try simp only [Act.put, List.setIfInBounds_toArray, List.set_cons_zero, List.set_cons_succ])
          refine wpAnyH_take (i := 13) (oi := ⟨some 39, _, _, _, _, _⟩) (v := ?_) rfl (by kernel_rfl) (by kernel_rfl) (by kernel_rfl) (fun _ _ _ h => h) (Or.inl ⟨by kernel_rfl, ?_⟩) (by assumption) ?_
          rotate_left
          · (intro ww hSw; (try dsimp only at hSw); go_simp); (try with_reducible rfl)
          (try simp only [Act.put, List.setIfInBounds_toArray, List.set_cons_zero, List.set_cons_succ])
          refine wpAnyH_ready (rs := [14]) (by kernel_rfl) (by simp) ?_
          refine AllReadyH.cons rfl (fun K hK => ?_) AllReadyH.nil
          go_simp
          refine (HAW.out _ (HG.out.on HBc.out)).mono ?_
          rintro e wd ⟨rfl, hbd⟩
          have HBd := Lib.hid (fb2 HBc.out hbd (Nat.le_refl _))
          have HBSd := Lib.hid (fb2 HBSc.out hbd (Nat.le_refl _))
          clear hbd
          go_wp2_with fail
          refine hK.out _ _ ?_ (fun hHeld => ?_)
          · exact ⟨blk_on HSB.out.1 HBSd.out (blk_lt HSB.out.1), blk_on HSB.out.2 HBSd.out (blk_lt HSB.out.2)⟩
          clear hK K
          (try simp only [Act.put, List.setIfInBounds_toArray, List.set_cons_zero, List.set_cons_succ])
          refine wpAnyH_take (i := 15) (oi := ⟨some 41, _, _, _, _, _⟩) (v := ?_) rfl (by kernel_rfl) (by kernel_rfl) (by kernel_rfl) (fun _ _ _ h => h) (Or.inl ⟨by kernel_rfl, ?_⟩) (by assumption) ?_
          rotate_left
          · (intro ww hSw; (try dsimp only at hSw); go_simp); (try with_reducible rfl)
          (try simp only [Act.put, List.setIfInBounds_toArray, List.set_cons_zero, List.set_cons_succ])
          refine wpAnyH_take (i := 16) (oi := ⟨some 4, _, _, _, _, _⟩) (v := ?_) rfl (by kernel_rfl) (by kernel_rfl) (by kernel_rfl) (fun _ _ _ h => h) (Or.inl ⟨by kernel_rfl, ?_⟩) (by assumption) ?_
          rotate_left
          · (intro ww hSw; (try dsimp only at hSw); go_simp); (try with_reducible rfl)
          (try simp only [Act.put, List.setIfInBounds_toArray, List.set_cons_zero, List.set_cons_succ])
          refine wpAnyH_done (by kernel_rfl) ?_ _
          go_wp2
          go_ret
          exact ⟨rfl, HBd.out⟩
        | true =>
          have e1 : sameTab V R U S = sameRowsB V R U S := by unfold sameTab; rw [hra, hrb]; rfl
          rw [hra] at HRA
          rw [hrb] at HRB
          rw [e1] at HAB
          clear hra hrb e1
          cases hsr : sameRowsB V R U S with
          | false =>
            rw [hsr] at HAB HSR
            clear hsr
            go_enter Tryz.func8, Tryz.ntmps8
            go_wp2_with fail
            rw [HW0.out, HAE.out]
            refine (HLA.out _ HB0.out).mono ?_
            rintro e w1 ⟨rfl, hb1⟩
            have HB1 := Lib.hid (fb2 HB0.out hb1 (Nat.le_refl _))
            have HX1 := Lib.hid (blk_on H0.out.one hb1 (blk_lt H0.out.one))
            have HY1 := Lib.hid (blk_on H0.out.two hb1 (blk_lt H0.out.two))
            have q2 : w1.cell? ⟨A + 1, 0, none⟩ = some (.slice ua n2 uc) := (blk_cell HY1.out 0).trans rfl
            have q3 : w1.cell? ⟨A + 1, 1, none⟩ = some (.slice sa m2 sc) := (blk_cell HY1.out 1).trans rfl
            clear hb1
            go_wp2_with fail
            refine (HLB.out _ HB1.out).mono ?_
            rintro e w2 ⟨rfl, hb2⟩
            have HB2 := Lib.hid (fb2 HB1.out hb2 (Nat.le_refl _))
            have HX2 := Lib.hid (blk_on HX1.out hb2 (blk_lt HX1.out))
            have HY2 := Lib.hid (blk_on HY1.out hb2 (blk_lt HY1.out))
            have q4 : w2.cell? ⟨A, 0, none⟩ = some (.slice va n vc) := (blk_cell HX2.out 0).trans rfl
            have q5 : w2.cell? ⟨A, 1, none⟩ = some (.slice ra m rc) := (blk_cell HX2.out 1).trans rfl
            clear hb2 q2 q3
            go_wp2_with fail
            refine (HRA.out _ HB2.out).mono ?_
            rintro e w3 ⟨rfl, hb3⟩
            have HB3 := Lib.hid (fb2 HB2.out hb3 (Nat.le_refl _))
            have HX3 := Lib.hid (blk_on HX2.out hb3 (blk_lt HX2.out))
            have HY3 := Lib.hid (blk_on HY2.out hb3 (blk_lt HY2.out))
            have r0 : w3.cell? ⟨A, 0, none⟩ = some (.slice va n vc) := (blk_cell HX3.out 0).trans rfl
            have r1 : w3.cell? ⟨A, 1, none⟩ = some (.slice ra m rc) := (blk_cell HX3.out 1).trans rfl
            have r2 : w3.cell? ⟨A + 1, 0, none⟩ = some (.slice ua n2 uc) := (blk_cell HY3.out 0).trans rfl
            have r3 : w3.cell? ⟨A + 1, 1, none⟩ = some (.slice sa m2 sc) := (blk_cell HY3.out 1).trans rfl
            clear hb3 q4 q5
            go_wp2_with fail
            refine (HRB.out _ HB3.out).mono ?_
            rintro e w4 ⟨rfl, hb4⟩
            have HB4 := Lib.hid (fb2 HB3.out hb4 (Nat.le_refl _))
            have HX4 := Lib.hid (blk_on HX3.out hb4 (blk_lt HX3.out))
            have HY4 := Lib.hid (blk_on HY3.out hb4 (blk_lt HY3.out))
            have s0 : w4.cell? ⟨A, 0, none⟩ = some (.slice va n vc) := (blk_cell HX4.out 0).trans rfl
            have s1 : w4.cell? ⟨A, 1, none⟩ = some (.slice ra m rc) := (blk_cell HX4.out 1).trans rfl
            have s2 : w4.cell? ⟨A + 1, 0, none⟩ = some (.slice ua n2 uc) := (blk_cell HY4.out 0).trans rfl
            have s3 : w4.cell? ⟨A + 1, 1, none⟩ = some (.slice sa m2 sc) := (blk_cell HY4.out 1).trans rfl
            clear hb4 r0 r1 r2 r3
            go_wp2_with fail
            refine (HSR.out _ HB4.out).mono ?_
            rintro e w5 ⟨rfl, hb5⟩
            have HB5 := Lib.hid (fb2 HB4.out hb5 (Nat.le_refl _))
            have HX5 := Lib.hid (blk_on HX4.out hb5 (blk_lt HX4.out))
            have HY5 := Lib.hid (blk_on HY4.out hb5 (blk_lt HY4.out))
            have t0 : w5.cell? ⟨A, 0, none⟩ = some (.slice va n vc) := (blk_cell HX5.out 0).trans rfl
            have t1 : w5.cell? ⟨A, 1, none⟩ = some (.slice ra m rc) := (blk_cell HX5.out 1).trans rfl
            have t2 : w5.cell? ⟨A + 1, 0, none⟩ = some (.slice ua n2 uc) := (blk_cell HY5.out 0).trans rfl
            have t3 : w5.cell? ⟨A + 1, 1, none⟩ = some (.slice sa m2 sc) := (blk_cell HY5.out 1).trans rfl
            clear hb5 s0 s1 s2 s3
            have HSB := Lib.hid (show Blk w5 A 31 #[.slice va n vc, .slice ra m rc] ∧ Blk w5 (A + 1) 31 #[.slice ua n2 uc, .slice sa m2 sc] from ⟨HX5.out, HY5.out⟩)
            go_wp2_with fail
            clear t0 t1 t2 t3
            refine wp_region_held_drew (S := (fun W => Blk W A 31 #[.slice va n vc, .slice ra m rc] ∧ Blk W (A + 1) 31 #[.slice ua n2 uc, .slice sa m2 sc])) (by kernel_rfl) ?_ (fun hHeld => ?_)
            · (try dsimp only); exact HSB.out
            obtain ⟨Wd, hWd⟩ : ∃ Wd, w5.drew = Wd := ⟨_, rfl⟩
            rw [hWd] at hHeld ⊢
            have HBD := Lib.hid (show Below w5.heap.size w5 Wd by rw [← hWd]; exact (Below.refl _ _).drew)
            have HBWd := Lib.hid (fb2 HB5.out HBD.out (Nat.le_refl _))
            clear hWd
            refine wpAnyH_take (i := 0) (oi := ⟨some 26, _, _, _, _, _⟩) (v := ?_) rfl (by kernel_rfl) (by kernel_rfl) (by kernel_rfl) (fun _ _ _ h => h) (Or.inl ⟨by kernel_rfl, ?_⟩) (by assumption) ?_
            rotate_left
            · (intro ww hSw; (try dsimp only at hSw); obtain ⟨b0, b1⟩ := hSw; have d1 : ww.cell? ⟨A, 0, none⟩ = some (.slice va n vc) := (blk_cell b0 0).trans rfl; have d2 : ww.cell? ⟨A, 1, none⟩ = some (.slice ra m rc) := (blk_cell b0 1).trans rfl; have d3 : ww.cell? ⟨(A + 1), 0, none⟩ = some (.slice ua n2 uc) := (blk_cell b1 0).trans rfl; have d4 : ww.cell? ⟨(A + 1), 1, none⟩ = some (.slice sa m2 sc) := (blk_cell b1 1).trans rfl; go_simp); (try with_reducible rfl)
            (try simp only [Act.put, List.setIfInBounds_toArray, List.set_cons_zero, List.set_cons_succ])
            refine wpAnyH_take (i := 1) (oi := ⟨some 27, _, _, _, _, _⟩) (v := ?_) rfl (by kernel_rfl) (by kernel_rfl) (by kernel_rfl) (fun _ _ _ h => h) (Or.inl ⟨by kernel_rfl, ?_⟩) (by assumption) ?_
            rotate_left
            · (intro ww hSw; (try dsimp only at hSw); obtain ⟨b0, b1⟩ := hSw; have d1 : ww.cell? ⟨A, 0, none⟩ = some (.slice va n vc) := (blk_cell b0 0).trans rfl; have d2 : ww.cell? ⟨A, 1, none⟩ = some (.slice ra m rc) := (blk_cell b0 1).trans rfl; have d3 : ww.cell? ⟨(A + 1), 0, none⟩ = some (.slice ua n2 uc) := (blk_cell b1 0).trans rfl; have d4 : ww.cell? ⟨(A + 1), 1, none⟩ = some (.slice sa m2 sc) := (blk_cell b1 1).trans rfl; go_simp); (try with_reducible rfl)
            (try simp only [Act.put, List.setIfInBounds_toArray, List.set_cons_zero, List.set_cons_succ])
            refine wpAnyH_take (i := 3) (oi := ⟨some 29, _, _, _, _, _⟩) (v := ?_) rfl (by kernel_rfl) (by kernel_rfl) (by kernel_rfl) (fun _ _ _ h => h) (Or.inl ⟨by kernel_rfl, ?_⟩) (by assumption) ?_
            rotate_left
            · (intro ww hSw; (try dsimp only at hSw); go_simp); (try with_reducible rfl)
            (try simp only [Act.put, List.setIfInBounds_toArray, List.set_cons_zero, List.set_cons_succ])
            refine wpAnyH_ready (rs := [2]) (by kernel_rfl) (by simp) ?_
            refine AllReadyH.cons rfl (fun K hK => ?_) AllReadyH.nil
            go_simp
            refine (HAB.out _ HBWd.out).mono ?_
            rintro e wa ⟨rfl, hba⟩
            have HBa := Lib.hid (fb2 HBWd.out hba (Nat.le_refl _))
            have HBSa := Lib.hid (fb2 HBD.out hba (Nat.le_refl _))
            clear hba
            go_wp2_with fail
            refine hK.out _ _ ?_ (fun hHeld => ?_)
            · exact ⟨blk_on HSB.out.1 HBSa.out (blk_lt HSB.out.1), blk_on HSB.out.2 HBSa.out (blk_lt HSB.out.2)⟩
            clear hK K
            (try simp only [Act.put, List.setIfInBounds_toArray, List.set_cons_zero, List.set_cons_succ])
            refine wpAnyH_take (i := 4) (oi := ⟨some 30, _, _, _, _, _⟩) (v := ?_) rfl (by kernel_rfl) (by kernel_rfl) (by kernel_rfl) (fun _ _ _ h => h) (Or.inl ⟨by kernel_rfl, ?_⟩) (by assumption) ?_
            rotate_left
            · (intro ww hSw; (try dsimp only at hSw); go_simp); (try with_reducible rfl)
            (try simp only [Act.put, List.setIfInBounds_toArray, List.set_cons_zero, List.set_cons_succ])
            refine wpAnyH_take (i := 5) (oi := ⟨some 31, _, _, _, _, _⟩) (v := ?_) rfl (by kernel_rfl) (by kernel_rfl) (by kernel_rfl) (fun _ _ _ h => h) (Or.inl ⟨by kernel_rfl, ?_⟩) (by assumption) ?_
            rotate_left
            · (intro ww hSw; (try dsimp only at hSw); go_simp); (try with_reducible rfl)
            (try simp only [Act.put, List.setIfInBounds_toArray, List.set_cons_zero, List.set_cons_succ])
            refine wpAnyH_take (i := 6) (oi := ⟨some 32, _, _, _, _, _⟩) (v := ?_) rfl (by kernel_rfl) (by kernel_rfl) (by kernel_rfl) (fun _ _ _ h => h) (Or.inl ⟨by kernel_rfl, ?_⟩) (by assumption) ?_
            rotate_left
            · (intro ww hSw; (try dsimp only at hSw); obtain ⟨b0, b1⟩ := hSw; have d1 : ww.cell? ⟨A, 0, none⟩ = some (.slice va n vc) := (blk_cell b0 0).trans rfl; have d2 : ww.cell? ⟨A, 1, none⟩ = some (.slice ra m rc) := (blk_cell b0 1).trans rfl; have d3 : ww.cell? ⟨(A + 1), 0, none⟩ = some (.slice ua n2 uc) := (blk_cell b1 0).trans rfl; have d4 : ww.cell? ⟨(A + 1), 1, none⟩ = some (.slice sa m2 sc) := (blk_cell b1 1).trans rfl; go_simp); (try with_reducible rfl)
            (try simp only [Act.put, List.setIfInBounds_toArray, List.set_cons_zero, List.set_cons_succ])
            refine wpAnyH_take (i := 7) (oi := ⟨some 33, _, _, _, _, _⟩) (v := ?_) rfl (by kernel_rfl) (by kernel_rfl) (by kernel_rfl) (fun _ _ _ h => h) (Or.inl ⟨by kernel_rfl, ?_⟩) (by assumption) ?_
            rotate_left
            · (intro ww hSw; (try dsimp only at hSw); obtain ⟨b0, b1⟩ := hSw; have d1 : ww.cell? ⟨A, 0, none⟩ = some (.slice va n vc) := (blk_cell b0 0).trans rfl; have d2 : ww.cell? ⟨A, 1, none⟩ = some (.slice ra m rc) := (blk_cell b0 1).trans rfl; have d3 : ww.cell? ⟨(A + 1), 0, none⟩ = some (.slice ua n2 uc) := (blk_cell b1 0).trans rfl; have d4 : ww.cell? ⟨(A + 1), 1, none⟩ = some (.slice sa m2 sc) := (blk_cell b1 1).trans rfl; go_simp); (try with_reducible rfl)
            (try simp only [Act.put, List.setIfInBounds_toArray, List.set_cons_zero, List.set_cons_succ])
            refine wpAnyH_take (i := 9) (oi := ⟨some 35, _, _, _, _, _⟩) (v := ?_) rfl (by kernel_rfl) (by kernel_rfl) (by kernel_rfl) (fun _ _ _ h => h) (Or.inl ⟨by kernel_rfl, ?_⟩) (by assumption) ?_
            rotate_left
            · (intro ww hSw; (try dsimp only at hSw); obtain ⟨b0, b1⟩ := hSw; have d1 : ww.cell? ⟨A, 0, none⟩ = some (.slice va n vc) := (blk_cell b0 0).trans rfl; have d2 : ww.cell? ⟨A, 1, none⟩ = some (.slice ra m rc) := (blk_cell b0 1).trans rfl; have d3 : ww.cell? ⟨(A + 1), 0, none⟩ = some (.slice ua n2 uc) := (blk_cell b1 0).trans rfl; have d4 : ww.cell? ⟨(A + 1), 1, none⟩ = some (.slice sa m2 sc) := (blk_cell b1 1).trans rfl; go_simp); (try with_reducible rfl)
            (try simp only [Act.put, List.setIfInBounds_toArray, List.set_cons_zero, List.set_cons_succ])
            refine wpAnyH_ready (rs := [8]) (by kernel_rfl) (by simp) ?_
            refine AllReadyH.cons rfl (fun K hK => ?_) AllReadyH.nil
            go_simp
            refine (HAA.out _ HBa.out).mono ?_
            rintro e wb ⟨rfl, hbb⟩
            have HBb := Lib.hid (fb2 HBa.out hbb (Nat.le_refl _))
            have HBSb := Lib.hid (fb2 HBSa.out hbb (Nat.le_refl _))
            clear hbb
            go_wp2_with fail
            refine hK.out _ _ ?_ (fun hHeld => ?_)
            · exact ⟨blk_on HSB.out.1 HBSb.out (blk_lt HSB.out.1), blk_on HSB.out.2 HBSb.out (blk_lt HSB.out.2)⟩
            clear hK K
            (try simp only [Act.put, List.setIfInBounds_toArray, List.set_cons_zero, List.set_cons_succ])
            refine wpAnyH_ready (rs := [10]) (by kernel_rfl) (by simp) ?_
            refine AllReadyH.cons rfl (fun K hK => ?_) AllReadyH.nil
            go_simp
            refine (HRA.out _ HBb.out).mono ?_
            rintro e wc ⟨rfl, hbc⟩
            have HBc := Lib.hid (fb2 HBb.out hbc (Nat.le_refl _))
            have HBSc := Lib.hid (fb2 HBSb.out hbc (Nat.le_refl _))
            clear hbc
            go_wp2_with fail
            refine hK.out _ _ ?_ (fun hHeld => ?_)
            · exact ⟨blk_on HSB.out.1 HBSc.out (blk_lt HSB.out.1), blk_on HSB.out.2 HBSc.out (blk_lt HSB.out.2)⟩
            clear hK K
            (try simp only [Act.put, List.setIfInBounds_toArray, List.set_cons_zero, List.set_cons_succ])
            refine wpAnyH_take (i := 11) (oi := ⟨some 37, _, _, _, _, _⟩) (v := ?_) rfl (by kernel_rfl) (by kernel_rfl) (by kernel_rfl) (fun _ _ _ h => h) (Or.inl ⟨by kernel_rfl, ?_⟩) (by assumption) ?_
            rotate_left
            · (intro ww hSw; (try dsimp only at hSw); go_simp); (try with_reducible rfl)
            (try simp only [Act.put, List.setIfInBounds_toArray, List.set_cons_zero, List.set_cons_succ])
            refine wpAnyH_take (i := 12) (oi := ⟨some 38, _, _, _, _, _⟩) (v := ?_) rfl (by kernel_rfl) (by kernel_rfl) (by kernel_rfl) (fun _ _ _ h => h) (Or.inl ⟨by kernel_rfl, ?_⟩) (by assumption) ?_
            rotate_left
            · (intro ww hSw; (try dsimp only at hSw); go_simp); (try with_reducible rfl)
            (try simp only [Act.put, List.setIfInBounds_toArray, List.set_cons_zero, List.set_cons_succ])
            refine wpAnyH_take (i := 13) (oi := ⟨some 39, _, _, _, _, _⟩) (v := ?_) rfl (by kernel_rfl) (by kernel_rfl) (by kernel_rfl) (fun _ _ _ h => h) (Or.inl ⟨by kernel_rfl, ?_⟩) (by assumption) ?_
            rotate_left
            · (intro ww hSw; (try dsimp only at hSw); go_simp); (try with_reducible rfl)
            (try simp only [Act.put, List.setIfInBounds_toArray, List.set_cons_zero, List.set_cons_succ])
            refine wpAnyH_ready (rs := [14]) (by kernel_rfl) (by simp) ?_
            refine AllReadyH.cons rfl (fun K hK => ?_) AllReadyH.nil
            go_simp
            refine (HAW.out _ (HG.out.on HBc.out)).mono ?_
            rintro e wd ⟨rfl, hbd⟩
            have HBd := Lib.hid (fb2 HBc.out hbd (Nat.le_refl _))
            have HBSd := Lib.hid (fb2 HBSc.out hbd (Nat.le_refl _))
            clear hbd
            go_wp2_with fail
            refine hK.out _ _ ?_ (fun hHeld => ?_)
            · exact ⟨blk_on HSB.out.1 HBSd.out (blk_lt HSB.out.1), blk_on HSB.out.2 HBSd.out (blk_lt HSB.out.2)⟩
            clear hK K
            (try simp only [Act.put, List.setIfInBounds_toArray, List.set_cons_zero, List.set_cons_succ])
            refine wpAnyH_take (i := 15) (oi := ⟨some 41, _, _, _, _, _⟩) (v := ?_) rfl (by kernel_rfl) (by kernel_rfl) (by kernel_rfl) (fun _ _ _ h => h) (Or.inl ⟨by kernel_rfl, ?_⟩) (by assumption) ?_
            rotate_left
            · (intro ww hSw; (try dsimp only at hSw); go_simp); (try with_reducible rfl)
            (try simp only [Act.put, List.setIfInBounds_toArray, List.set_cons_zero, List.set_cons_succ])
            refine wpAnyH_take (i := 16) (oi := ⟨some 4, _, _, _, _, _⟩) (v := ?_) rfl (by kernel_rfl) (by kernel_rfl) (by kernel_rfl) (fun _ _ _ h => h) (Or.inl ⟨by kernel_rfl, ?_⟩) (by assumption) ?_
            rotate_left
            · (intro ww hSw; (try dsimp only at hSw); go_simp); (try with_reducible rfl)
            (try simp only [Act.put, List.setIfInBounds_toArray, List.set_cons_zero, List.set_cons_succ])
            refine wpAnyH_done (by kernel_rfl) ?_ _
            go_wp2
            go_ret
            exact ⟨rfl, HBd.out⟩
          | true =>
            rw [hsr] at HAB HSR
            clear hsr
            go_enter Tryz.func8, Tryz.ntmps8
            go_wp2_with fail
            rw [HW0.out, HAE.out]
            refine (HLA.out _ HB0.out).mono ?_
            rintro e w1 ⟨rfl, hb1⟩
            have HB1 := Lib.hid (fb2 HB0.out hb1 (Nat.le_refl _))
            have HX1 := Lib.hid (blk_on H0.out.one hb1 (blk_lt H0.out.one))
            have HY1 := Lib.hid (blk_on H0.out.two hb1 (blk_lt H0.out.two))
            have q2 : w1.cell? ⟨A + 1, 0, none⟩ = some (.slice ua n2 uc) := (blk_cell HY1.out 0).trans rfl
            have q3 : w1.cell? ⟨A + 1, 1, none⟩ = some (.slice sa m2 sc) := (blk_cell HY1.out 1).trans rfl
            clear hb1
            go_wp2_with fail
            refine (HLB.out _ HB1.out).mono ?_
            rintro e w2 ⟨rfl, hb2⟩
            have HB2 := Lib.hid (fb2 HB1.out hb2 (Nat.le_refl _))
            have HX2 := Lib.hid (blk_on HX1.out hb2 (blk_lt HX1.out))
            have HY2 := Lib.hid (blk_on HY1.out hb2 (blk_lt HY1.out))
            have q4 : w2.cell? ⟨A, 0, none⟩ = some (.slice va n vc) := (blk_cell HX2.out 0).trans rfl
            have q5 : w2.cell? ⟨A, 1, none⟩ = some (.slice ra m rc) := (blk_cell HX2.out 1).trans rfl
            clear hb2 q2 q3
            go_wp2_with fail
            refine (HRA.out _ HB2.out).mono ?_
            rintro e w3 ⟨rfl, hb3⟩
            have HB3 := Lib.hid (fb2 HB2.out hb3 (Nat.le_refl _))
            have HX3 := Lib.hid (blk_on HX2.out hb3 (blk_lt HX2.out))
            have HY3 := Lib.hid (blk_on HY2.out hb3 (blk_lt HY2.out))
            have r0 : w3.cell? ⟨A, 0, none⟩ = some (.slice va n vc) := (blk_cell HX3.out 0).trans rfl
            have r1 : w3.cell? ⟨A, 1, none⟩ = some (.slice ra m rc) := (blk_cell HX3.out 1).trans rfl
            have r2 : w3.cell? ⟨A + 1, 0, none⟩ = some (.slice ua n2 uc) := (blk_cell HY3.out 0).trans rfl
            have r3 : w3.cell? ⟨A + 1, 1, none⟩ = some (.slice sa m2 sc) := (blk_cell HY3.out 1).trans rfl
            clear hb3 q4 q5
            go_wp2_with fail
            refine (HRB.out _ HB3.out).mono ?_
            rintro e w4 ⟨rfl, hb4⟩
            have HB4 := Lib.hid (fb2 HB3.out hb4 (Nat.le_refl _))
            have HX4 := Lib.hid (blk_on HX3.out hb4 (blk_lt HX3.out))
            have HY4 := Lib.hid (blk_on HY3.out hb4 (blk_lt HY3.out))
            have s0 : w4.cell? ⟨A, 0, none⟩ = some (.slice va n vc) := (blk_cell HX4.out 0).trans rfl
            have s1 : w4.cell? ⟨A, 1, none⟩ = some (.slice ra m rc) := (blk_cell HX4.out 1).trans rfl
            have s2 : w4.cell? ⟨A + 1, 0, none⟩ = some (.slice ua n2 uc) := (blk_cell HY4.out 0).trans rfl
            have s3 : w4.cell? ⟨A + 1, 1, none⟩ = some (.slice sa m2 sc) := (blk_cell HY4.out 1).trans rfl
            clear hb4 r0 r1 r2 r3
            go_wp2_with fail
            refine (HSR.out _ HB4.out).mono ?_
            rintro e w5 ⟨rfl, hb5⟩
            have HB5 := Lib.hid (fb2 HB4.out hb5 (Nat.le_refl _))
            have HX5 := Lib.hid (blk_on HX4.out hb5 (blk_lt HX4.out))
            have HY5 := Lib.hid (blk_on HY4.out hb5 (blk_lt HY4.out))
            have t0 : w5.cell? ⟨A, 0, none⟩ = some (.slice va n vc) := (blk_cell HX5.out 0).trans rfl
            have t1 : w5.cell? ⟨A, 1, none⟩ = some (.slice ra m rc) := (blk_cell HX5.out 1).trans rfl
            have t2 : w5.cell? ⟨A + 1, 0, none⟩ = some (.slice ua n2 uc) := (blk_cell HY5.out 0).trans rfl
            have t3 : w5.cell? ⟨A + 1, 1, none⟩ = some (.slice sa m2 sc) := (blk_cell HY5.out 1).trans rfl
            clear hb5 s0 s1 s2 s3
            have HSB := Lib.hid (show Blk w5 A 31 #[.slice va n vc, .slice ra m rc] ∧ Blk w5 (A + 1) 31 #[.slice ua n2 uc, .slice sa m2 sc] from ⟨HX5.out, HY5.out⟩)
            go_wp2_with fail
            clear t0 t1 t2 t3
            refine wp_region_held_drew (S := (fun W => Blk W A 31 #[.slice va n vc, .slice ra m rc] ∧ Blk W (A + 1) 31 #[.slice ua n2 uc, .slice sa m2 sc])) (by kernel_rfl) ?_ (fun hHeld => ?_)
            · (try dsimp only); exact HSB.out
            obtain ⟨Wd, hWd⟩ : ∃ Wd, w5.drew = Wd := ⟨_, rfl⟩
            rw [hWd] at hHeld ⊢
            have HBD := Lib.hid (show Below w5.heap.size w5 Wd by rw [← hWd]; exact (Below.refl _ _).drew)
            have HBWd := Lib.hid (fb2 HB5.out HBD.out (Nat.le_refl _))
            clear hWd
            refine wpAnyH_take (i := 0) (oi := ⟨some 26, _, _, _, _, _⟩) (v := ?_) rfl (by kernel_rfl) (by kernel_rfl) (by kernel_rfl) (fun _ _ _ h => h) (Or.inl ⟨by kernel_rfl, ?_⟩) (by assumption) ?_
            rotate_left
            · (intro ww hSw; (try dsimp only at hSw); obtain ⟨b0, b1⟩ := hSw; have d1 : ww.cell? ⟨A, 0, none⟩ = some (.slice va n vc) := (blk_cell b0 0).trans rfl; have d2 : ww.cell? ⟨A, 1, none⟩ = some (.slice ra m rc) := (blk_cell b0 1).trans rfl; have d3 : ww.cell? ⟨(A + 1), 0, none⟩ = some (.slice ua n2 uc) := (blk_cell b1 0).trans rfl; have d4 : ww.cell? ⟨(A + 1), 1, none⟩ = some (.slice sa m2 sc) := (blk_cell b1 1).trans rfl; go_simp); (try with_reducible rfl)
            (try simp only [Act.put, List.setIfInBounds_toArray, List.set_cons_zero, List.set_cons_succ])
            refine wpAnyH_take (i := 1) (oi := ⟨some 27, _, _, _, _, _⟩) (v := ?_) rfl (by kernel_rfl) (by kernel_rfl) (by kernel_rfl) (fun _ _ _ h => h) (Or.inl ⟨by kernel_rfl, ?_⟩) (by assumption) ?_
            rotate_left
            · (intro ww hSw; (try dsimp only at hSw); obtain ⟨b0, b1⟩ := hSw; have d1 : ww.cell? ⟨A, 0, none⟩ = some (.slice va n vc) := (blk_cell b0 0).trans rfl; have d2 : ww.cell? ⟨A, 1, none⟩ = some (.slice ra m rc) := (blk_cell b0 1).trans rfl; have d3 : ww.cell? ⟨(A + 1), 0, none⟩ = some (.slice ua n2 uc) := (blk_cell b1 0).trans rfl; have d4 : ww.cell? ⟨(A + 1), 1, none⟩ = some (.slice sa m2 sc) := (blk_cell b1 1).trans rfl; go_simp); (try with_reducible rfl)
            (try simp only [Act.put, List.setIfInBounds_toArray, List.set_cons_zero, List.set_cons_succ])
            refine wpAnyH_take (i := 3) (oi := ⟨some 29, _, _, _, _, _⟩) (v := ?_) rfl (by kernel_rfl) (by kernel_rfl) (by kernel_rfl) (fun _ _ _ h => h) (Or.inl ⟨by kernel_rfl, ?_⟩) (by assumption) ?_
            rotate_left
            · (intro ww hSw; (try dsimp only at hSw); go_simp); (try with_reducible rfl)
            (try simp only [Act.put, List.setIfInBounds_toArray, List.set_cons_zero, List.set_cons_succ])
            refine wpAnyH_ready (rs := [2]) (by kernel_rfl) (by simp) ?_
            refine AllReadyH.cons rfl (fun K hK => ?_) AllReadyH.nil
            go_simp
            refine (HAB.out _ HBWd.out).mono ?_
            rintro e wa ⟨rfl, hba⟩
            have HBa := Lib.hid (fb2 HBWd.out hba (Nat.le_refl _))
            have HBSa := Lib.hid (fb2 HBD.out hba (Nat.le_refl _))
            clear hba
            go_wp2_with fail
            refine hK.out _ _ ?_ (fun hHeld => ?_)
            · exact ⟨blk_on HSB.out.1 HBSa.out (blk_lt HSB.out.1), blk_on HSB.out.2 HBSa.out (blk_lt HSB.out.2)⟩
            clear hK K
            (try simp only [Act.put, List.setIfInBounds_toArray, List.set_cons_zero, List.set_cons_succ])
            refine wpAnyH_take (i := 4) (oi := ⟨some 30, _, _, _, _, _⟩) (v := ?_) rfl (by kernel_rfl) (by kernel_rfl) (by kernel_rfl) (fun _ _ _ h => h) (Or.inl ⟨by kernel_rfl, ?_⟩) (by assumption) ?_
            rotate_left
            · (intro ww hSw; (try dsimp only at hSw); go_simp); (try with_reducible rfl)
            (try simp only [Act.put, List.setIfInBounds_toArray, List.set_cons_zero, List.set_cons_succ])
            refine wpAnyH_take (i := 5) (oi := ⟨some 31, _, _, _, _, _⟩) (v := ?_) rfl (by kernel_rfl) (by kernel_rfl) (by kernel_rfl) (fun _ _ _ h => h) (Or.inl ⟨by kernel_rfl, ?_⟩) (by assumption) ?_
            rotate_left
            · (intro ww hSw; (try dsimp only at hSw); go_simp); (try with_reducible rfl)
            (try simp only [Act.put, List.setIfInBounds_toArray, List.set_cons_zero, List.set_cons_succ])
            refine wpAnyH_take (i := 6) (oi := ⟨some 32, _, _, _, _, _⟩) (v := ?_) rfl (by kernel_rfl) (by kernel_rfl) (by kernel_rfl) (fun _ _ _ h => h) (Or.inl ⟨by kernel_rfl, ?_⟩) (by assumption) ?_
            rotate_left
            · (intro ww hSw; (try dsimp only at hSw); obtain ⟨b0, b1⟩ := hSw; have d1 : ww.cell? ⟨A, 0, none⟩ = some (.slice va n vc) := (blk_cell b0 0).trans rfl; have d2 : ww.cell? ⟨A, 1, none⟩ = some (.slice ra m rc) := (blk_cell b0 1).trans rfl; have d3 : ww.cell? ⟨(A + 1), 0, none⟩ = some (.slice ua n2 uc) := (blk_cell b1 0).trans rfl; have d4 : ww.cell? ⟨(A + 1), 1, none⟩ = some (.slice sa m2 sc) := (blk_cell b1 1).trans rfl; go_simp); (try with_reducible rfl)
            (try simp only [Act.put, List.setIfInBounds_toArray, List.set_cons_zero, List.set_cons_succ])
            refine wpAnyH_take (i := 7) (oi := ⟨some 33, _, _, _, _, _⟩) (v := ?_) rfl (by kernel_rfl) (by kernel_rfl) (by kernel_rfl) (fun _ _ _ h => h) (Or.inl ⟨by kernel_rfl, ?_⟩) (by assumption) ?_
            rotate_left
            · (intro ww hSw; (try dsimp only at hSw); obtain ⟨b0, b1⟩ := hSw; have d1 : ww.cell? ⟨A, 0, none⟩ = some (.slice va n vc) := (blk_cell b0 0).trans rfl; have d2 : ww.cell? ⟨A, 1, none⟩ = some (.slice ra m rc) := (blk_cell b0 1).trans rfl; have d3 : ww.cell? ⟨(A + 1), 0, none⟩ = some (.slice ua n2 uc) := (blk_cell b1 0).trans rfl; have d4 : ww.cell? ⟨(A + 1), 1, none⟩ = some (.slice sa m2 sc) := (blk_cell b1 1).trans rfl; go_simp); (try with_reducible rfl)
            (try simp only [Act.put, List.setIfInBounds_toArray, List.set_cons_zero, List.set_cons_succ])
            refine wpAnyH_take (i := 9) (oi := ⟨some 35, _, _, _, _, _⟩) (v := ?_) rfl (by kernel_rfl) (by kernel_rfl) (by kernel_rfl) (fun _ _ _ h => h) (Or.inl ⟨by kernel_rfl, ?_⟩) (by assumption) ?_
            rotate_left
            · (intro ww hSw; (try dsimp only at hSw); obtain ⟨b0, b1⟩ := hSw; have d1 : ww.cell? ⟨A, 0, none⟩ = some (.slice va n vc) := (blk_cell b0 0).trans rfl; have d2 : ww.cell? ⟨A, 1, none⟩ = some (.slice ra m rc) := (blk_cell b0 1).trans rfl; have d3 : ww.cell? ⟨(A + 1), 0, none⟩ = some (.slice ua n2 uc) := (blk_cell b1 0).trans rfl; have d4 : ww.cell? ⟨(A + 1), 1, none⟩ = some (.slice sa m2 sc) := (blk_cell b1 1).trans rfl; go_simp); (try with_reducible rfl)
            (try simp only [Act.put, List.setIfInBounds_toArray, List.set_cons_zero, List.set_cons_succ])
            refine wpAnyH_ready (rs := [8]) (by kernel_rfl) (by simp) ?_
            refine AllReadyH.cons rfl (fun K hK => ?_) AllReadyH.nil
            go_simp
            refine (HAA.out _ HBa.out).mono ?_
            rintro e wb ⟨rfl, hbb⟩
            have HBb := Lib.hid (fb2 HBa.out hbb (Nat.le_refl _))
            have HBSb := Lib.hid (fb2 HBSa.out hbb (Nat.le_refl _))
            clear hbb
            go_wp2_with fail
            refine hK.out _ _ ?_ (fun hHeld => ?_)
            · exact ⟨blk_on HSB.out.1 HBSb.out (blk_lt HSB.out.1), blk_on HSB.out.2 HBSb.out (blk_lt HSB.out.2)⟩
            clear hK K
            (try simp only [Act.put, List.setIfInBounds_toArray, List.set_cons_zero, List.set_cons_succ])
            refine wpAnyH_ready (rs := [10]) (by kernel_rfl) (by simp) ?_
            refine AllReadyH.cons rfl (fun K hK => ?_) AllReadyH.nil
            go_simp
            refine (HRA.out _ HBb.out).mono ?_
            rintro e wc ⟨rfl, hbc⟩
            have HBc := Lib.hid (fb2 HBb.out hbc (Nat.le_refl _))
            have HBSc := Lib.hid (fb2 HBSb.out hbc (Nat.le_refl _))
            clear hbc
            go_wp2_with fail
            refine hK.out _ _ ?_ (fun hHeld => ?_)
            · exact ⟨blk_on HSB.out.1 HBSc.out (blk_lt HSB.out.1), blk_on HSB.out.2 HBSc.out (blk_lt HSB.out.2)⟩
            clear hK K
            (try simp only [Act.put, List.setIfInBounds_toArray, List.set_cons_zero, List.set_cons_succ])
            refine wpAnyH_take (i := 11) (oi := ⟨some 37, _, _, _, _, _⟩) (v := ?_) rfl (by kernel_rfl) (by kernel_rfl) (by kernel_rfl) (fun _ _ _ h => h) (Or.inl ⟨by kernel_rfl, ?_⟩) (by assumption) ?_
            rotate_left
            · (intro ww hSw; (try dsimp only at hSw); go_simp); (try with_reducible rfl)
            (try simp only [Act.put, List.setIfInBounds_toArray, List.set_cons_zero, List.set_cons_succ])
            refine wpAnyH_take (i := 12) (oi := ⟨some 38, _, _, _, _, _⟩) (v := ?_) rfl (by kernel_rfl) (by kernel_rfl) (by kernel_rfl) (fun _ _ _ h => h) (Or.inl ⟨by kernel_rfl, ?_⟩) (by assumption) ?_
            rotate_left
            · (intro ww hSw; (try dsimp only at hSw); go_simp); (try with_reducible rfl)
            (try simp only [Act.put, List.setIfInBounds_toArray, List.set_cons_zero, List.set_cons_succ])
            refine wpAnyH_take (i := 13) (oi := ⟨some 39, _, _, _, _, _⟩) (v := ?_) rfl (by kernel_rfl) (by kernel_rfl) (by kernel_rfl) (fun _ _ _ h => h) (Or.inl ⟨by kernel_rfl, ?_⟩) (by assumption) ?_
            rotate_left
            · (intro ww hSw; (try dsimp only at hSw); go_simp); (try with_reducible rfl)
            (try simp only [Act.put, List.setIfInBounds_toArray, List.set_cons_zero, List.set_cons_succ])
            refine wpAnyH_ready (rs := [14]) (by kernel_rfl) (by simp) ?_
            refine AllReadyH.cons rfl (fun K hK => ?_) AllReadyH.nil
            go_simp
            refine (HAW.out _ (HG.out.on HBc.out)).mono ?_
            rintro e wd ⟨rfl, hbd⟩
            have HBd := Lib.hid (fb2 HBc.out hbd (Nat.le_refl _))
            have HBSd := Lib.hid (fb2 HBSc.out hbd (Nat.le_refl _))
            clear hbd
            go_wp2_with fail
            refine hK.out _ _ ?_ (fun hHeld => ?_)
            · exact ⟨blk_on HSB.out.1 HBSd.out (blk_lt HSB.out.1), blk_on HSB.out.2 HBSd.out (blk_lt HSB.out.2)⟩
            clear hK K
            (try simp only [Act.put, List.setIfInBounds_toArray, List.set_cons_zero, List.set_cons_succ])
            refine wpAnyH_take (i := 15) (oi := ⟨some 41, _, _, _, _, _⟩) (v := ?_) rfl (by kernel_rfl) (by kernel_rfl) (by kernel_rfl) (fun _ _ _ h => h) (Or.inl ⟨by kernel_rfl, ?_⟩) (by assumption) ?_
            rotate_left
            · (intro ww hSw; (try dsimp only at hSw); go_simp); (try with_reducible rfl)
            (try simp only [Act.put, List.setIfInBounds_toArray, List.set_cons_zero, List.set_cons_succ])
            refine wpAnyH_take (i := 16) (oi := ⟨some 4, _, _, _, _, _⟩) (v := ?_) rfl (by kernel_rfl) (by kernel_rfl) (by kernel_rfl) (fun _ _ _ h => h) (Or.inl ⟨by kernel_rfl, ?_⟩) (by assumption) ?_
            rotate_left
            · (intro ww hSw; (try dsimp only at hSw); go_simp); (try with_reducible rfl)
            (try simp only [Act.put, List.setIfInBounds_toArray, List.set_cons_zero, List.set_cons_succ])
            refine wpAnyH_done (by kernel_rfl) ?_ _
            go_wp2
            go_ret
            exact ⟨rfl, HBd.out⟩

end Go.Proofs.YtkfemnjblbnclaaGreatDoor
