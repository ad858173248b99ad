/- Any columns of any table: the walk of the statement's function (written by gen/mklawtab12.py). -/
import Derived.Test.YtkfemnjblbnclaaGreatDoorGCopy
import Derived.Test.YtkfemnjblbnclaaGreatDoorGSameT
import Derived.Test.YtkfemnjblbnclaaGreatDoorShpRefRight
import Derived.Test.YtkfemnjblbnclaaGreatDoorShpAwake
import Derived.Test.YtkfemnjblbnclaaGreatDoorShpRefProj
import Derived.Test.YtkfemnjblbnclaaGreatDoorShpRefNames
import Derived.Test.YtkfemnjblbnclaaGreatDoorShpProject
namespace Go.Proofs.YtkfemnjblbnclaaGreatDoor
open Go.RowKit Go.Maps Go.Sort

set_option maxRecDepth 100000 in
set_option maxHeartbeats 8000000 in
theorem shapeProjects_calls (V : List (List UInt8)) (R : List RowL) (U : List (List UInt8)) (hx : okV V) (hr : okR R) (hu : okV U) (hre : ∀ r ∈ R, r.length * 56 ≤ 140737488355328) (tv : Value) (ua : Option Addr) (un uc : Nat) (w : World) (hg : Nm.Good w) (ht : TabA w tv V R) (hU : TxtA w ua un uc U) :
    Calls Tryz.prog 4 #[tv, .slice ua un uc] w fun e w' => e = .returned (.bool true) ∧ Below w.heap.size w w' := by
  obtain ⟨va, n, vc, ra, m, rc, rfl, hV, hR⟩ := ht
  obtain ⟨A, hA⟩ : ∃ A, w.heap.size = A := ⟨_, rfl⟩
  obtain ⟨W0, hW0⟩ : ∃ W0, w.alloc (.cells #[.slice va n vc, .slice ra m rc] 31) = W0 := ⟨_, rfl⟩
  have HB0 := Lib.hid (show Below w.heap.size w W0 by rw [← hW0]; exact box_below _ _)
  have hA0 : Blk W0 A 31 #[.slice va n vc, .slice ra m rc] := by rw [← hW0, ← hA]; exact blk_new _ _ _
  have HG := Lib.hid hg
  have HOV := Lib.hid hx
  have HVL := Lib.hid hV.len
  have HRL := Lib.hid hR.len
  have hTB : ∀ W, Below w.heap.size w W → TabA W (.agg #[.slice va n vc, .slice ra m rc]) V R := fun W hb => ⟨va, n, vc, ra, m, rc, rfl, hV.on hb, hR.on hb⟩
  have HTB := Lib.hid hTB
  have HLI := Lib.hid (fun W (hb : Below w.heap.size w W) => light_calls V R _ W (hTB W hb))
  have HRI := Lib.hid (fun W (hb : Below w.heap.size w W) => tabRight_calls V R hx hr va ra n vc m rc W (hV.on hb) (hR.on hb))
  have HAW := Lib.hid (fun W hW => awake_calls W hW)
  have HAE := Lib.hid hA
  have HW0 := Lib.hid hW0
  have HOR := Lib.hid hr
  have HRE := Lib.hid hre
  have HOU := Lib.hid hu
  have HUA := Lib.hid hU
  have HUL := Lib.hid hU.len
  have HUC := Lib.hid (And.intro hU.cap hU.most)
  clear hV hR hg hx hA hW0 hTB hr hre hu hU
  have q0 : W0.cell? ⟨A, 0, none⟩ = some (.slice va n vc) := (blk_cell hA0 0).trans rfl
  have q1 : W0.cell? ⟨A, 1, none⟩ = some (.slice ra m rc) := (blk_cell hA0 1).trans rfl
  have hl := blk_lt hA0
  have HA0 := Lib.hid hA0
  clear hA0
  cases hli : lightB V R with
  | false =>
    rw [hli] at HLI
    go_enter Tryz.func4, Tryz.ntmps4
    go_wp2_with fail
    rw [HW0.out, HAE.out]
    refine (HLI.out _ HB0.out).mono ?_
    rintro e w1 ⟨rfl, hb1⟩
    have HB1 := Lib.hid (fb2 HB0.out hb1 (Nat.le_refl _))
    clear hb1
    go_wp2_with fail
    refine (HAW.out _ (HG.out.on HB1.out)).mono ?_
    rintro e w2 ⟨rfl, hb2⟩
    have HBz := Lib.hid (fb2 HB1.out hb2 (Nat.le_refl _))
    clear hb2
    go_wp2
    go_ret
    exact ⟨rfl, HBz.out⟩
  | true =>
    rw [hli] at HLI
    have hlg : R.length ≤ 40 ∧ V.length ≤ 33 := by
      unfold lightB at hli
      simp only [Bool.and_eq_true, decide_eq_true_eq] at hli
      exact hli
    have HLG := Lib.hid hlg
    have HLE := Lib.hid hlg.1
    clear hli hlg
    by_cases h41 : 40 < un
    · have g1 : (40 : Int) < (un : Int) := by omega
      clear h41
      go_enter Tryz.func4, Tryz.ntmps4
      go_wp2_with fail
      rw [HW0.out, HAE.out]
      refine (HLI.out _ HB0.out).mono ?_
      rintro e w1 ⟨rfl, hb1⟩
      have HB1 := Lib.hid (fb2 HB0.out hb1 (Nat.le_refl _))
      clear hb1
      go_wp2_with fail
      refine (HAW.out _ (HG.out.on HB1.out)).mono ?_
      rintro e w2 ⟨rfl, hb2⟩
      have HBz := Lib.hid (fb2 HB1.out hb2 (Nat.le_refl _))
      clear hb2
      go_wp2
      go_ret
      exact ⟨rfl, HBz.out⟩
    have g1 : ¬ (40 : Int) < (un : Int) := by omega
    have HU4 := Lib.hid (show U.length ≤ 40 by rw [HUL.out]; omega)
    clear h41
    go_enter Tryz.func4, Tryz.ntmps4
    go_wp2_with fail
    rw [HW0.out, HAE.out]
    refine (HLI.out _ HB0.out).mono ?_
    rintro e w1 ⟨rfl, hb1⟩
    have HB1 := Lib.hid (fb2 HB0.out hb1 (Nat.le_refl _))
    have HA1 := Lib.hid (blk_on HA0.out hb1 hl)
    replace q0 := keptC q0 hb1 hl
    replace q1 := keptC q1 hb1 hl
    replace hl := Nat.lt_of_lt_of_le hl hb1.size
    have HCO := Lib.hid (rCopy_calls V R _ w1 (HTB.out w1 HB1.out) HLG.out.1 HLG.out.2 HRE.out)
    clear hb1
    go_wp2_with fail
    refine HCO.out.mono ?_
    rintro e w2 ⟨uv, rfl, ⟨va1, n1, vc1, ra1, m1, rc1, rfl, hT1, hJ1⟩, hb2⟩
    obtain rfl : n1 = n := hT1.len.symm.trans HVL.out
    obtain rfl : m1 = m := hJ1.len.symm.trans HRL.out
    have HT1 := Lib.hid hT1.a
    have HJ1 := Lib.hid (hJ1.mono (H' := fun b => b < w2.heap.size ∧ w1.heap.size ≤ b ∧ ¬ isT w2 b) (K' := fun b => b < w2.heap.size ∧ w1.heap.size ≤ b ∧ isT w2 b) (fun b hb hk => ⟨hb, hk⟩) (fun b hb hk => ⟨hb, hk⟩))
    have HB2 := Lib.hid (fb2 HB1.out hb2 (Nat.le_refl _))
    have HA2 := Lib.hid (blk_on HA1.out hb2 hl)
    have HB12 := Lib.hid hb2
    obtain ⟨C, hC⟩ : ∃ C, w2.heap.size = C := ⟨_, rfl⟩
    obtain ⟨w3, hw3⟩ : ∃ w3, w2.alloc (.cells #[.slice va1 n1 vc1, .slice ra1 m1 rc1] 31) = w3 := ⟨_, rfl⟩
    have HB23 := Lib.hid (show Below w2.heap.size w2 w3 by rw [← hw3]; exact box_below _ _)
    have HB3 := Lib.hid (fb2 HB2.out HB23.out (Nat.le_refl _))
    have HC3 := Lib.hid (show Blk w3 C 31 #[.slice va1 n1 vc1, .slice ra1 m1 rc1] by rw [← hw3, ← hC]; exact blk_new _ _ _)
    have HA3 := Lib.hid (blk_on HA2.out HB23.out (blk_lt HA2.out))
    have HT3 := Lib.hid (show TabA w3 (.agg #[.slice va1 n1 vc1, .slice ra1 m1 rc1]) V R from ⟨va1, n1, vc1, ra1, m1, rc1, rfl, HT1.out.on HB23.out, hJ1.a.on HB23.out⟩)
    have HCE := Lib.hid hC
    have HW3 := Lib.hid hw3
    clear hT1 hJ1 hb2 hC hw3 q0 q1 hl HCO HLI HLG HRE
    have hasked := project_calls V U R HOV.out HOR.out HOU.out _ ua un uc w3 HT3.out (HUA.out.on HB3.out)
    have HAS := Lib.hid hasked
    clear hasked
    go_wp2_with fail
    rw [HW3.out, HCE.out]
    refine HAS.out.mono ?_
    rintro e w4 ⟨uv, rfl, ⟨va2, n2, vc2, ra2, m2, rc2, rfl, hT2, hR2⟩, hb4⟩
    have HS4 := Lib.hid (show TabK (fun i => w3.heap.size ≤ i) w4 (.agg #[.slice va2 n2 vc2, .slice ra2 m2 rc2]) (prjV V R U) (prjR V R U) from ⟨va2, n2, vc2, ra2, m2, rc2, rfl, hT2, hR2⟩)
    have HB34 := Lib.hid hb4
    have HC4 := Lib.hid (blk_on HC3.out hb4 (blk_lt HC3.out))
    have HA4 := Lib.hid (blk_on HA3.out hb4 (blk_lt HA3.out))
    have q2 : w4.cell? ⟨C, 0, none⟩ = some (.slice va1 n1 vc1) := (blk_cell HC4.out 0).trans rfl
    have q3 : w4.cell? ⟨C, 1, none⟩ = some (.slice ra1 m1 rc1) := (blk_cell HC4.out 1).trans rfl
    have hc1 : C < w4.heap.size := blk_lt HC4.out
    have hc2 : ¬ C = w4.heap.size := by omega
    obtain ⟨E, hE⟩ : ∃ E, w4.heap.size = E := ⟨_, rfl⟩
    obtain ⟨w5, hw5⟩ : ∃ w5, w4.alloc (.cells #[.slice va2 n2 vc2, .slice ra2 m2 rc2] 31) = w5 := ⟨_, rfl⟩
    have HB45 := Lib.hid (show Below w4.heap.size w4 w5 by rw [← hw5]; exact box_below _ _)
    have HE5 := Lib.hid (show Blk w5 E 31 #[.slice va2 n2 vc2, .slice ra2 m2 rc2] by rw [← hw5, ← hE]; exact blk_new _ _ _)
    have HA5 := Lib.hid (blk_on HA4.out HB45.out (blk_lt HA4.out))
    have HC5 := Lib.hid (blk_on HC4.out HB45.out (blk_lt HC4.out))
    have HB25 := Lib.hid (show Below w2.heap.size w2 w5 from fb2 (fb2 HB23.out HB34.out (Nat.le_refl _)) HB45.out (Nat.le_refl _))
    have HB5 := Lib.hid (show Below w.heap.size w w5 from fb2 (fb2 HB3.out HB34.out (Nat.le_refl _)) HB45.out (Nat.le_refl _))
    have HEE := Lib.hid hE
    have HW5 := Lib.hid hw5
    have HS5 := Lib.hid (show TabK (fun i => w3.heap.size ≤ i ∧ i < w4.heap.size) w5 (.agg #[.slice va2 n2 vc2, .slice ra2 m2 rc2]) (prjV V R U) (prjR V R U) from (HS4.out.mono (fun i hi hk => ⟨hk, hi⟩)).on (stay_below HB45.out))
    clear hT2 hR2 hb4 hE hw5 HS4
    have hsp := spoil_calls (fun b => b < w2.heap.size ∧ w1.heap.size ≤ b ∧ ¬ isT w2 b) (fun b => b < w2.heap.size ∧ w1.heap.size ≤ b ∧ isT w2 b) (fun b h k => h.2.2 k.2.2) (.slice va1 n1 vc1) ra1 m1 rc1 R w5 (HJ1.out.on ((stay_below HB25.out).mono (fun _ _ _ => trivial))) (fun b hb => isT_same hb.2.2 (HB25.out.block b hb.1))
    have HSP := Lib.hid hsp
    clear hsp
    go_wp2_with fail
    rw [HW5.out, HEE.out]
    refine HSP.out.mono ?_
    rintro e w6 ⟨rfl, hs6⟩
    have hk6 : ∀ b, (b < w2.heap.size ∧ w1.heap.size ≤ b ∧ isT w2 b) → w.heap.size ≤ b := fun b hb => Nat.le_trans HB1.out.size hb.2.1
    have HB6 := Lib.hid (show Below w.heap.size w w6 from HB5.out.trans (hs6.below HB5.out.size hk6))
    have HA6 := Lib.hid (show Blk w6 A 31 #[.slice va n1 vc, .slice ra m1 rc] from (hs6.block A (blk_lt HA5.out) (fun c => by have h1 := c.2.1; have h2 := blk_lt HA1.out; omega)).trans HA5.out)
    have HE6 := Lib.hid (show Blk w6 E 31 #[.slice va2 n2 vc2, .slice ra2 m2 rc2] from (hs6.block E (blk_lt HE5.out) (fun c => by have h1 := c.1; have h2 := HEE.out; have h3 := HB23.out.size; have h4 := HB34.out.size; omega)).trans HE5.out)
    have HS6 := Lib.hid (HS5.out.on (hs6.stay (fun b _ hk c => by have h1 := c.1; have h2 := hk.1; have h3 := HB23.out.size; omega))).a
    have q4 : w6.cell? ⟨A, 0, none⟩ = some (.slice va n1 vc) := (blk_cell HA6.out 0).trans rfl
    have q5 : w6.cell? ⟨A, 1, none⟩ = some (.slice ra m1 rc) := (blk_cell HA6.out 1).trans rfl
    have ha6 := blk_lt HA6.out
    have he6 := blk_lt HE6.out
    clear hs6 hk6 q2 q3 hc1 hc2
    cases hri : rightT V R with
    | false =>
      have hpe : prjE V R U = 2 := by unfold prjE; rw [hri]; rfl
      have hpv : prjV V R U = [] := by unfold prjV; rw [hpe]; rfl
      have hpr : prjR V R U = [] := by unfold prjR; rw [hpe]; rfl
      rw [hpv, hpr] at HS6
      rw [hpe]
      clear hpe hpv hpr
      rw [hri] at HRI
      clear hri
      go_wp2_with fail
      refine (HRI.out _ HB6.out).mono ?_
      rintro e w7 ⟨rfl, hb7⟩
      have HB7 := Lib.hid (fb2 HB6.out hb7 (Nat.le_refl _))
      have HA7 := Lib.hid (blk_on HA6.out hb7 ha6)
      have HE7 := Lib.hid (blk_on HE6.out hb7 he6)
      have HS7 := Lib.hid (HS6.out.on hb7)
      have q6 : w7.cell? ⟨E, 0, none⟩ = some (.slice va2 n2 vc2) := (blk_cell HE7.out 0).trans rfl
      have q7 : w7.cell? ⟨E, 1, none⟩ = some (.slice ra2 m2 rc2) := (blk_cell HE7.out 1).trans rfl
      clear hb7 q4 q5 ha6 he6
      have hsn := same_no 2 (by decide) _ (.slice none 0 0) (.slice none 0 0) w7 HS7.out
      have HSN := Lib.hid hsn
      clear hsn
      go_wp2_with fail
      refine HSN.out.mono ?_
      rintro e w8 ⟨rfl, hb8⟩
      have HB8 := Lib.hid (fb2 HB7.out hb8 (Nat.le_refl _))
      clear hb8
      go_wp2_with fail
      refine (HAW.out _ (HG.out.on HB8.out)).mono ?_
      rintro e w9 ⟨rfl, hb9⟩
      have HBz := Lib.hid (fb2 HB8.out hb9 (Nat.le_refl _))
      clear hb9
      go_wp2
      go_ret
      exact ⟨rfl, HBz.out⟩
    | true =>
      rw [hri] at HRI
      by_cases h32 : 32 < U.length
      · have g2 : (32 : Int) < (un : Int) := by have := HUL.out; omega
        have hpe : prjE V R U = 3 := by unfold prjE; rw [if_pos hri, if_pos h32]
        have hpv : prjV V R U = [] := by unfold prjV; rw [hpe]; rfl
        have hpr : prjR V R U = [] := by unfold prjR; rw [hpe]; rfl
        rw [hpv, hpr] at HS6
        rw [hpe]
        clear hpe hpv hpr
        clear hri h32
        go_wp2_with fail
        refine (HRI.out _ HB6.out).mono ?_
        rintro e w7 ⟨rfl, hb7⟩
        have HB7 := Lib.hid (fb2 HB6.out hb7 (Nat.le_refl _))
        have HA7 := Lib.hid (blk_on HA6.out hb7 ha6)
        have HE7 := Lib.hid (blk_on HE6.out hb7 he6)
        have HS7 := Lib.hid (HS6.out.on hb7)
        have q6 : w7.cell? ⟨E, 0, none⟩ = some (.slice va2 n2 vc2) := (blk_cell HE7.out 0).trans rfl
        have q7 : w7.cell? ⟨E, 1, none⟩ = some (.slice ra2 m2 rc2) := (blk_cell HE7.out 1).trans rfl
        clear hb7 q4 q5 ha6 he6
        have hsn := same_no 3 (by decide) _ (.slice none 0 0) (.slice none 0 0) w7 HS7.out
        have HSN := Lib.hid hsn
        clear hsn
        go_wp2_with fail
        refine HSN.out.mono ?_
        rintro e w8 ⟨rfl, hb8⟩
        have HB8 := Lib.hid (fb2 HB7.out hb8 (Nat.le_refl _))
        clear hb8
        go_wp2_with fail
        refine (HAW.out _ (HG.out.on HB8.out)).mono ?_
        rintro e w9 ⟨rfl, hb9⟩
        have HBz := Lib.hid (fb2 HB8.out hb9 (Nat.le_refl _))
        clear hb9
        go_wp2
        go_ret
        exact ⟨rfl, HBz.out⟩
      · have g2 : ¬ (32 : Int) < (un : Int) := by have := HUL.out; omega
        cases hn : namesB [] U with
        | false =>
          have hpe : prjE V R U = 2 := by unfold prjE; rw [if_pos hri, if_neg h32, hn]; rfl
          have hpv : prjV V R U = [] := by unfold prjV; rw [hpe]; rfl
          have hpr : prjR V R U = [] := by unfold prjR; rw [hpe]; rfl
          rw [hpv, hpr] at HS6
          rw [hpe]
          clear hpe hpv hpr
          have HNM := Lib.hid hn
          clear hri h32 hn
          go_wp2_with fail
          refine (HRI.out _ HB6.out).mono ?_
          rintro e w7 ⟨rfl, hb7⟩
          have HB7 := Lib.hid (fb2 HB6.out hb7 (Nat.le_refl _))
          have HA7 := Lib.hid (blk_on HA6.out hb7 ha6)
          have HE7 := Lib.hid (blk_on HE6.out hb7 he6)
          have HS7 := Lib.hid (HS6.out.on hb7)
          have q6 : w7.cell? ⟨E, 0, none⟩ = some (.slice va2 n2 vc2) := (blk_cell HE7.out 0).trans rfl
          have q7 : w7.cell? ⟨E, 1, none⟩ = some (.slice ra2 m2 rc2) := (blk_cell HE7.out 1).trans rfl
          clear hb7 q4 q5 ha6 he6
          have hnm := rNames_calls U HOU.out ua un uc w7 (HUA.out.on HB7.out)
          rw [HNM.out] at hnm
          have HNC := Lib.hid hnm
          clear hnm
          go_wp2_with fail
          refine HNC.out.mono ?_
          rintro e w7n ⟨rfl, hb7n⟩
          have HB7n := Lib.hid (fb2 HB7.out hb7n (Nat.le_refl _))
          have HA7n := Lib.hid (blk_on HA7.out hb7n (blk_lt HA7.out))
          have HE7n := Lib.hid (blk_on HE7.out hb7n (blk_lt HE7.out))
          have HS7n := Lib.hid (HS7.out.on hb7n)
          have q8 : w7n.cell? ⟨E, 0, none⟩ = some (.slice va2 n2 vc2) := (blk_cell HE7n.out 0).trans rfl
          have q9 : w7n.cell? ⟨E, 1, none⟩ = some (.slice ra2 m2 rc2) := (blk_cell HE7n.out 1).trans rfl
          clear hb7n q6 q7
          have hsn := same_no 2 (by decide) _ (.slice none 0 0) (.slice none 0 0) w7n HS7n.out
          have HSN := Lib.hid hsn
          clear hsn
          go_wp2_with fail
          refine HSN.out.mono ?_
          rintro e w8 ⟨rfl, hb8⟩
          have HB8 := Lib.hid (fb2 HB7n.out hb8 (Nat.le_refl _))
          clear hb8
          go_wp2_with fail
          refine (HAW.out _ (HG.out.on HB8.out)).mono ?_
          rintro e w9 ⟨rfl, hb9⟩
          have HBz := Lib.hid (fb2 HB8.out hb9 (Nat.le_refl _))
          clear hb9
          go_wp2
          go_ret
          exact ⟨rfl, HBz.out⟩
        | true =>
          have hpe : prjE V R U = 0 := by unfold prjE; rw [if_pos hri, if_neg h32, if_pos hn]
          have hpv : prjV V R U = U := by unfold prjV; rw [hpe]; rfl
          have hpr : prjR V R U = projP U V R := by unfold prjR; rw [hpe]; rfl
          rw [hpv, hpr] at HS6
          rw [hpe]
          have HNM := Lib.hid hn
          clear hri h32 hn hpe hpv hpr
          go_wp2_with fail
          refine (HRI.out _ HB6.out).mono ?_
          rintro e w7 ⟨rfl, hb7⟩
          have HB7 := Lib.hid (fb2 HB6.out hb7 (Nat.le_refl _))
          have HA7 := Lib.hid (blk_on HA6.out hb7 ha6)
          have HE7 := Lib.hid (blk_on HE6.out hb7 he6)
          have HS7 := Lib.hid (HS6.out.on hb7)
          have q6 : w7.cell? ⟨E, 0, none⟩ = some (.slice va2 n2 vc2) := (blk_cell HE7.out 0).trans rfl
          have q7 : w7.cell? ⟨E, 1, none⟩ = some (.slice ra2 m2 rc2) := (blk_cell HE7.out 1).trans rfl
          clear hb7 q4 q5 ha6 he6
          have hnm := rNames_calls U HOU.out ua un uc w7 (HUA.out.on HB7.out)
          rw [HNM.out] at hnm
          have HNC := Lib.hid hnm
          clear hnm
          go_wp2_with fail
          refine HNC.out.mono ?_
          rintro e w7n ⟨rfl, hb7n⟩
          have HB7n := Lib.hid (fb2 HB7.out hb7n (Nat.le_refl _))
          have HA7n := Lib.hid (blk_on HA7.out hb7n (blk_lt HA7.out))
          have HE7n := Lib.hid (blk_on HE7.out hb7n (blk_lt HE7.out))
          have HS7n := Lib.hid (HS7.out.on hb7n)
          have q8 : w7n.cell? ⟨E, 0, none⟩ = some (.slice va2 n2 vc2) := (blk_cell HE7n.out 0).trans rfl
          have q9 : w7n.cell? ⟨E, 1, none⟩ = some (.slice ra2 m2 rc2) := (blk_cell HE7n.out 1).trans rfl
          clear hb7n q6 q7
          have HSB := Lib.hid (show Blk w7n E 31 #[.slice va2 n2 vc2, .slice ra2 m2 rc2] ∧ Blk w7n A 31 #[.slice va n1 vc, .slice ra m1 rc] from ⟨HE7n.out, HA7n.out⟩)
          go_wp2_with fail
          refine wp_region_held_drew (S := (fun W => Blk W E 31 #[.slice va2 n2 vc2, .slice ra2 m2 rc2] ∧ Blk W A 31 #[.slice va n1 vc, .slice ra m1 rc])) (by kernel_rfl) ?_ (fun hHeld => ?_)
          · (try dsimp only); exact HSB.out
          obtain ⟨Wd, hWd⟩ : ∃ Wd, w7n.drew = Wd := ⟨_, rfl⟩
          rw [hWd] at hHeld ⊢
          have HBD := Lib.hid (show Below w7n.heap.size w7n Wd by rw [← hWd]; exact (Below.refl _ _).drew)
          have HBWd := Lib.hid (fb2 HB7n.out HBD.out (Nat.le_refl _))
          clear hWd
          refine wpAnyH_take (i := 0) (oi := ⟨some 47, _, _, _, _, _⟩) (v := ?_) rfl (by kernel_rfl) (by kernel_rfl) (by kernel_rfl) (fun _ _ _ h => h) (Or.inl ⟨by kernel_rfl, ?_⟩) (by assumption) ?_
          rotate_left
          · (intro ww hSw; (try dsimp only at hSw); obtain ⟨b0, b1⟩ := hSw; have d1 : ww.cell? ⟨E, 0, none⟩ = some (.slice va2 n2 vc2) := (blk_cell b0 0).trans rfl; have d2 : ww.cell? ⟨E, 1, none⟩ = some (.slice ra2 m2 rc2) := (blk_cell b0 1).trans rfl; have d3 : ww.cell? ⟨A, 0, none⟩ = some (.slice va n1 vc) := (blk_cell b1 0).trans rfl; have d4 : ww.cell? ⟨A, 1, none⟩ = some (.slice ra m1 rc) := (blk_cell b1 1).trans rfl; go_simp); (try with_reducible rfl)
          (try simp only [Act.put, List.setIfInBounds_toArray, List.set_cons_zero, List.set_cons_succ])
          refine wpAnyH_take (i := 1) (oi := ⟨some 48, _, _, _, _, _⟩) (v := ?_) rfl (by kernel_rfl) (by kernel_rfl) (by kernel_rfl) (fun _ _ _ h => h) (Or.inl ⟨by kernel_rfl, ?_⟩) (by assumption) ?_
          rotate_left
          · (intro ww hSw; (try dsimp only at hSw); go_simp); (try with_reducible rfl)
          (try simp only [Act.put, List.setIfInBounds_toArray, List.set_cons_zero, List.set_cons_succ])
          refine wpAnyH_take (i := 2) (oi := ⟨some 49, _, _, _, _, _⟩) (v := ?_) rfl (by kernel_rfl) (by kernel_rfl) (by kernel_rfl) (fun _ _ _ h => h) (Or.inl ⟨by kernel_rfl, ?_⟩) (by assumption) ?_
          rotate_left
          · (intro ww hSw; (try dsimp only at hSw); obtain ⟨b0, b1⟩ := hSw; have d1 : ww.cell? ⟨E, 0, none⟩ = some (.slice va2 n2 vc2) := (blk_cell b0 0).trans rfl; have d2 : ww.cell? ⟨E, 1, none⟩ = some (.slice ra2 m2 rc2) := (blk_cell b0 1).trans rfl; have d3 : ww.cell? ⟨A, 0, none⟩ = some (.slice va n1 vc) := (blk_cell b1 0).trans rfl; have d4 : ww.cell? ⟨A, 1, none⟩ = some (.slice ra m1 rc) := (blk_cell b1 1).trans rfl; go_simp); (try with_reducible rfl)
          (try simp only [Act.put, List.setIfInBounds_toArray, List.set_cons_zero, List.set_cons_succ])
          refine wpAnyH_take (i := 3) (oi := ⟨some 50, _, _, _, _, _⟩) (v := ?_) rfl (by kernel_rfl) (by kernel_rfl) (by kernel_rfl) (fun _ _ _ h => h) (Or.inl ⟨by kernel_rfl, ?_⟩) (by assumption) ?_
          rotate_left
          · (intro ww hSw; (try dsimp only at hSw); go_simp); (try with_reducible rfl)
          (try simp only [Act.put, List.setIfInBounds_toArray, List.set_cons_zero, List.set_cons_succ])
          refine wpAnyH_take (i := 5) (oi := ⟨some 52, _, _, _, _, _⟩) (v := ?_) rfl (by kernel_rfl) (by kernel_rfl) (by kernel_rfl) (fun _ _ _ h => h) (Or.inl ⟨by kernel_rfl, ?_⟩) (by assumption) ?_
          rotate_left
          · (intro ww hSw; (try dsimp only at hSw); go_simp); (try with_reducible rfl)
          (try simp only [Act.put, List.setIfInBounds_toArray, List.set_cons_zero, List.set_cons_succ])
          have hrf := rProject_calls V U R HU4.out _ ua un uc Wd (HTB.out Wd HBWd.out) (HUA.out.on HBWd.out) HLE.out
          refine wpAnyH_ready (rs := [4]) (by kernel_rfl) (by simp) ?_
          refine AllReadyH.cons rfl (fun K hK => ?_) AllReadyH.nil
          go_simp
          refine hrf.mono ?_
          rintro e w8 ⟨uv3, rfl, ht8, hb8⟩
          clear hrf
          have HB8 := Lib.hid (fb2 HBWd.out hb8 (Nat.le_refl _))
          have HBS8 := Lib.hid (fb2 HBD.out hb8 (Nat.le_refl _))
          have hso := same_ok _ _ _ _ w8 (HS7n.out.on HBS8.out) ht8
          have HSO := Lib.hid hso
          clear hso ht8 hb8
          go_wp2_with fail
          refine hK.out _ _ ?_ (fun hHeld => ?_)
          · exact ⟨blk_on HSB.out.1 HBS8.out (blk_lt HSB.out.1), blk_on HSB.out.2 HBS8.out (blk_lt HSB.out.2)⟩
          clear hK K
          (try simp only [Act.put, List.setIfInBounds_toArray, List.set_cons_zero, List.set_cons_succ])
          refine wpAnyH_ready (rs := [6]) (by kernel_rfl) (by simp) ?_
          refine AllReadyH.cons rfl (fun K hK => ?_) AllReadyH.nil
          go_simp
          refine HSO.out.mono ?_
          rintro e w9 ⟨rfl, hb9⟩
          have HB9 := Lib.hid (fb2 HB8.out hb9 (Nat.le_refl _))
          have HBS9 := Lib.hid (fb2 HBS8.out hb9 (Nat.le_refl _))
          clear hb9
          go_wp2_with fail
          refine hK.out _ _ ?_ (fun hHeld => ?_)
          · exact ⟨blk_on HSB.out.1 HBS9.out (blk_lt HSB.out.1), blk_on HSB.out.2 HBS9.out (blk_lt HSB.out.2)⟩
          clear hK K
          (try simp only [Act.put, List.setIfInBounds_toArray, List.set_cons_zero, List.set_cons_succ])
          refine wpAnyH_take (i := 7) (oi := ⟨some 54, _, _, _, _, _⟩) (v := ?_) rfl (by kernel_rfl) (by kernel_rfl) (by kernel_rfl) (fun _ _ _ h => h) (Or.inl ⟨by kernel_rfl, ?_⟩) (by assumption) ?_
          rotate_left
          · (intro ww hSw; (try dsimp only at hSw); go_simp); (try with_reducible rfl)
          (try simp only [Act.put, List.setIfInBounds_toArray, List.set_cons_zero, List.set_cons_succ])
          refine wpAnyH_ready (rs := [8]) (by kernel_rfl) (by simp) ?_
          refine AllReadyH.cons rfl (fun K hK => ?_) AllReadyH.nil
          go_simp
          refine (HAW.out _ (HG.out.on HB9.out)).mono ?_
          rintro e w10 ⟨rfl, hb10⟩
          have HB10 := Lib.hid (fb2 HB9.out hb10 (Nat.le_refl _))
          have HBS10 := Lib.hid (fb2 HBS9.out hb10 (Nat.le_refl _))
          clear hb10
          go_wp2_with fail
          refine hK.out _ _ ?_ (fun hHeld => ?_)
          · exact ⟨blk_on HSB.out.1 HBS10.out (blk_lt HSB.out.1), blk_on HSB.out.2 HBS10.out (blk_lt HSB.out.2)⟩
          clear hK K
          (try simp only [Act.put, List.setIfInBounds_toArray, List.set_cons_zero, List.set_cons_succ])
          refine wpAnyH_take (i := 9) (oi := ⟨some 56, _, _, _, _, _⟩) (v := ?_) rfl (by kernel_rfl) (by kernel_rfl) (by kernel_rfl) (fun _ _ _ h => h) (Or.inl ⟨by kernel_rfl, ?_⟩) (by assumption) ?_
          rotate_left
          · (intro ww hSw; (try dsimp only at hSw); go_simp); (try with_reducible rfl)
          (try simp only [Act.put, List.setIfInBounds_toArray, List.set_cons_zero, List.set_cons_succ])
          refine wpAnyH_take (i := 10) (oi := ⟨some 4, _, _, _, _, _⟩) (v := ?_) rfl (by kernel_rfl) (by kernel_rfl) (by kernel_rfl) (fun _ _ _ h => h) (Or.inl ⟨by kernel_rfl, ?_⟩) (by assumption) ?_
          rotate_left
          · (intro ww hSw; (try dsimp only at hSw); go_simp); (try with_reducible rfl)
          (try simp only [Act.put, List.setIfInBounds_toArray, List.set_cons_zero, List.set_cons_succ])
          refine wpAnyH_done (by kernel_rfl) ?_ _
          go_wp2
          go_ret
          exact ⟨rfl, HB10.out⟩

end Go.Proofs.YtkfemnjblbnclaaGreatDoor
