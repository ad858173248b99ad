/- Some columns of a table, or why there are none: package shape's Project (written by gen/mkproject12.py). -/
import Derived.Test.YtkfemnjblbnclaaGreatDoorShpProjected
import Derived.Test.YtkfemnjblbnclaaGreatDoorShpCheck
namespace Go.Proofs.YtkfemnjblbnclaaGreatDoor
open Go.RowKit Go.Maps

def prjE (V : List (List UInt8)) (R : List RowL) (U : List (List UInt8)) : Int := if rightT V R = true then (if 32 < U.length then 3 else if namesB [] U = true then 0 else 2) else 2
def prjV (V : List (List UInt8)) (R : List RowL) (U : List (List UInt8)) : List (List UInt8) := if prjE V R U = 0 then U else []
def prjR (V : List (List UInt8)) (R : List RowL) (U : List (List UInt8)) : List RowL := if prjE V R U = 0 then projP U V R else []
theorem right_none {U : List (List UInt8)} (h : U.length ≤ 32) : rightT U [] = namesB [] U := by
  unfold rightT
  rw [decide_eq_true h]
  simp

set_option maxRecDepth 100000 in
set_option maxHeartbeats 8000000 in
theorem project_calls (V U : List (List UInt8)) (R : List RowL) (hx : okV V) (hr : okR R) (hu : okV U) (tv : Value) (ua : Option Addr) (un uc : Nat) (w : World) (ht : TabA w tv V R) (hU : TxtA w ua un uc U) :
    Calls Tryz.prog 17 #[tv, .slice ua un uc] w fun e w' => ∃ uv, e = .returned (.tuple #[uv, .int .i64 (prjE V R U)]) ∧ TabK (fun i => w.heap.size ≤ i) w' uv (prjV V R U) (prjR V R U) ∧ Below w.heap.size w w' := by
  obtain ⟨va, n, vc, ra, m, rc, rfl, hV, hR⟩ := ht
  have HUL := Lib.hid hU.len
  have hcp := hU.cap
  have hms := hU.most
  unfold maxLen at hms
  obtain ⟨A, hA⟩ : ∃ A, w.heap.size = A := ⟨_, rfl⟩
  obtain ⟨W0, hW0⟩ : ∃ W0, (w.alloc (.cells #[.slice va n vc, .slice ra m rc] 31)).alloc (.cells #[.slice none 0 0, .slice none 0 0] 31) = W0 := ⟨_, rfl⟩
  have HB0 := Lib.hid (show Below w.heap.size w W0 by rw [← hW0]; exact two_alloc _ _ _)
  have HT0 := Lib.hid (tabs2_new w (.slice va n vc) (.slice ra m rc) (.slice none 0 0) (.slice none 0 0))
  rw [hW0, hA] at HT0
  have HTB := Lib.hid (fun W (hb : Below w.heap.size w W) => (show TabA W (.agg #[.slice va n vc, .slice ra m rc]) V R from ⟨va, n, vc, ra, m, rc, rfl, hV.on hb, hR.on hb⟩))
  have HCK := Lib.hid (tCheck_calls V R hx hr (.agg #[.slice va n vc, .slice ra m rc]) W0 (HTB.out W0 HB0.out))
  have HUA := Lib.hid hU
  have HOV := Lib.hid hx
  have HOU := Lib.hid hu
  have HCU := Lib.hid (fun W (hb : Below w.heap.size w W) => tCheck_calls U [] hu (fun r hr => absurd hr List.not_mem_nil) (.agg #[.slice ua un uc, .slice none 0 0]) W ⟨ua, un, uc, none, 0, 0, rfl, hU.on hb, (row_nil (fun _ => True) W none 0 (Nat.zero_le _)).a⟩)
  have HAE := Lib.hid hA
  have HW0 := Lib.hid hW0
  clear hW0 hA hV hR hr hx hU hu
  cases hq : rightT V R with
  | false =>
    rw [hq, show formZ false = 2 from rfl] at HCK
    have he : prjE V R U = 2 := by unfold prjE; rw [hq]; rfl
    have HPV := Lib.hid (show prjV V R U = [] from if_neg (by rw [he]; omega))
    have HPR := Lib.hid (show prjR V R U = [] from if_neg (by rw [he]; omega))
    rw [he]
    clear hq he
    go_enter Tryz.func17, Tryz.ntmps17
    go_wp2_with fail
    rw [HW0.out, HAE.out]
    refine (HCK.out).mono ?_
    rintro e w1 ⟨rfl, hb1⟩
    have HX1 := Lib.hid (blk_on HT0.out.two hb1 (blk_lt HT0.out.two))
    have HB1 := Lib.hid (fb2 HB0.out hb1 (Nat.le_refl _))
    clear hb1
    go_wp2_with (refine whole_abs 31 (.tmp 4) (.tmp 12) ⟨rfl, rfl⟩ (A + 1) #[.slice none 0 0, .slice none 0 0] rfl rfl 31 #[.slice none 0 0, .slice none 0 0] HX1.out (by kernel_rfl) rfl (by kernel_rfl) ?_; intro w9 hA9 hG9)
    have q2 : w9.cell? ⟨A + 1, 0, none⟩ = some (.slice none 0 0) := by rw [blk_cell hA9.out]; rfl
    have q3 : w9.cell? ⟨A + 1, 1, none⟩ = some (.slice none 0 0) := by rw [blk_cell hA9.out]; rfl
    refine bodyPost_ret (v := .tuple #[.agg #[.slice none 0 0, .slice none 0 0], .int .i64 2]) (by simp [results, Tryz.results17, q2, q3, go_sem]) rfl ⟨_, rfl, by rw [HPV.out, HPR.out]; exact tab_nil _ _, ?_⟩
    exact HB1.out.grown hG9.out HB1.out.size (fun j hj => by injection hj with hj; have := HAE.out; omega)
  | true =>
    rw [hq, show formZ true = 0 from rfl] at HCK
    by_cases h32 : 32 < U.length
    · have g1 : (32 : Int) < (un : Int) := by have := HUL.out; omega
      have he : prjE V R U = 3 := by unfold prjE; rw [if_pos hq, if_pos h32]
      have HPV := Lib.hid (show prjV V R U = [] from if_neg (by rw [he]; omega))
      have HPR := Lib.hid (show prjR V R U = [] from if_neg (by rw [he]; omega))
      rw [he]
      clear hq he h32
      go_enter Tryz.func17, Tryz.ntmps17
      go_wp2_with fail
      rw [HW0.out, HAE.out]
      refine (HCK.out).mono ?_
      rintro e w1 ⟨rfl, hb1⟩
      have HX1 := Lib.hid (blk_on HT0.out.two hb1 (blk_lt HT0.out.two))
      have HB1 := Lib.hid (fb2 HB0.out hb1 (Nat.le_refl _))
      clear hb1
      go_wp2_with (refine whole_abs 31 (.tmp 4) (.tmp 17) ⟨rfl, rfl⟩ (A + 1) #[.slice none 0 0, .slice none 0 0] rfl rfl 31 #[.slice none 0 0, .slice none 0 0] HX1.out (by kernel_rfl) rfl (by kernel_rfl) ?_; intro w9 hA9 hG9)
      have q2 : w9.cell? ⟨A + 1, 0, none⟩ = some (.slice none 0 0) := by rw [blk_cell hA9.out]; rfl
      have q3 : w9.cell? ⟨A + 1, 1, none⟩ = some (.slice none 0 0) := by rw [blk_cell hA9.out]; rfl
      refine bodyPost_ret (v := .tuple #[.agg #[.slice none 0 0, .slice none 0 0], .int .i64 3]) (by simp [results, Tryz.results17, q2, q3, go_sem]) rfl ⟨_, rfl, by rw [HPV.out, HPR.out]; exact tab_nil _ _, ?_⟩
      exact HB1.out.grown hG9.out HB1.out.size (fun j hj => by injection hj with hj; have := HAE.out; omega)
    · have g1 : ¬ (32 : Int) < (un : Int) := by have := HUL.out; omega
      cases hn : namesB [] U with
      | false =>
        have HRN := Lib.hid ((right_none (U := U) (by omega)).trans hn)
        rw [HRN.out, show formZ false = 2 from rfl] at HCU
        have he : prjE V R U = 2 := by unfold prjE; rw [if_pos hq, if_neg h32, hn]; rfl
        have HPV := Lib.hid (show prjV V R U = [] from if_neg (by rw [he]; omega))
        have HPR := Lib.hid (show prjR V R U = [] from if_neg (by rw [he]; omega))
        rw [he]
        clear hq he h32 hn
        go_enter Tryz.func17, Tryz.ntmps17
        go_wp2_with fail
        rw [HW0.out, HAE.out]
        refine (HCK.out).mono ?_
        rintro e w1 ⟨rfl, hb1⟩
        have HX1 := Lib.hid (blk_on HT0.out.two hb1 (blk_lt HT0.out.two))
        have HB1 := Lib.hid (fb2 HB0.out hb1 (Nat.le_refl _))
        clear hb1
        go_wp2_with fail
        refine (HCU.out _ HB1.out).mono ?_
        rintro e w2 ⟨rfl, hb2⟩
        have HX2 := Lib.hid (blk_on HX1.out hb2 (blk_lt HX1.out))
        have HB2 := Lib.hid (fb2 HB1.out hb2 (Nat.le_refl _))
        clear hb2
        go_wp2_with (refine whole_abs 31 (.tmp 4) (.tmp 23) ⟨rfl, rfl⟩ (A + 1) #[.slice none 0 0, .slice none 0 0] rfl rfl 31 #[.slice none 0 0, .slice none 0 0] HX2.out (by kernel_rfl) rfl (by kernel_rfl) ?_; intro w9 hA9 hG9)
        have q2 : w9.cell? ⟨A + 1, 0, none⟩ = some (.slice none 0 0) := by rw [blk_cell hA9.out]; rfl
        have q3 : w9.cell? ⟨A + 1, 1, none⟩ = some (.slice none 0 0) := by rw [blk_cell hA9.out]; rfl
        refine bodyPost_ret (v := .tuple #[.agg #[.slice none 0 0, .slice none 0 0], .int .i64 2]) (by simp [results, Tryz.results17, q2, q3, go_sem]) rfl ⟨_, rfl, by rw [HPV.out, HPR.out]; exact tab_nil _ _, ?_⟩
        exact HB2.out.grown hG9.out HB2.out.size (fun j hj => by injection hj with hj; have := HAE.out; omega)
      | true =>
        have HRN := Lib.hid ((right_none (U := U) (by omega)).trans hn)
        rw [HRN.out, show formZ true = 0 from rfl] at HCU
        have he : prjE V R U = 0 := by unfold prjE; rw [if_pos hq, if_neg h32, if_pos hn]
        have HPV := Lib.hid (show prjV V R U = U from if_pos he)
        have HPR := Lib.hid (show prjR V R U = projP U V R from if_pos he)
        rw [he]
        obtain ⟨hnd, _, hr6, _, hrow⟩ := right_nodup hq
        have HPJ := Lib.hid (fun W (hb : Below w.heap.size w W) => projected_calls V U R HOV.out HOU.out hnd (fun r hr => (hrow r hr).1) (by omega) (by omega) (.agg #[.slice va n vc, .slice ra m rc]) ua uc W (HTB.out W hb) (by rw [HUL.out]; exact HUA.out.on hb))
        rw [HUL.out] at HPJ
        clear hq he h32 hn hnd hr6 hrow
        go_enter Tryz.func17, Tryz.ntmps17
        go_wp2_with fail
        rw [HW0.out, HAE.out]
        refine (HCK.out).mono ?_
        rintro e w1 ⟨rfl, hb1⟩
        have HX1 := Lib.hid (blk_on HT0.out.two hb1 (blk_lt HT0.out.two))
        have HA1 := Lib.hid (blk_on HT0.out.one hb1 (blk_lt HT0.out.one))
        have HB1 := Lib.hid (fb2 HB0.out hb1 (Nat.le_refl _))
        clear hb1
        go_wp2_with fail
        refine (HCU.out _ HB1.out).mono ?_
        rintro e w2 ⟨rfl, hb2⟩
        have HX2 := Lib.hid (blk_on HX1.out hb2 (blk_lt HX1.out))
        have HA2 := Lib.hid (blk_on HA1.out hb2 (blk_lt HA1.out))
        have HB2 := Lib.hid (fb2 HB1.out hb2 (Nat.le_refl _))
        have q0 : w2.cell? ⟨A, 0, none⟩ = some (.slice va n vc) := (blk_cell HA2.out 0).trans rfl
        have q1 : w2.cell? ⟨A, 1, none⟩ = some (.slice ra m rc) := (blk_cell HA2.out 1).trans rfl
        clear hb2
        go_wp2_with fail
        refine (HPJ.out _ HB2.out).mono ?_
        rintro e w3 ⟨uv, rfl, ⟨va2, n2, vc2, ra2, m2, rc2, rfl, hT1, hT2⟩, hb3⟩
        have HX3 := Lib.hid (blk_on HX2.out hb3 (blk_lt HX2.out))
        have HT1 := Lib.hid hT1
        have HT2 := Lib.hid hT2
        have HB3 := Lib.hid hb3
        clear hT1 hT2 hb3
        go_wp2_with (refine whole_abs 31 (.tmp 4) (.tmp 27) ⟨rfl, rfl⟩ (A + 1) #[.slice va2 n2 vc2, .slice ra2 m2 rc2] rfl rfl 31 #[.slice none 0 0, .slice none 0 0] HX3.out (by kernel_rfl) rfl (by kernel_rfl) ?_; intro w9 hA9 hG9)
        have q5 : w9.cell? ⟨A + 1, 0, none⟩ = some (.slice va2 n2 vc2) := by rw [blk_cell hA9.out]; rfl
        have q6 : w9.cell? ⟨A + 1, 1, none⟩ = some (.slice ra2 m2 rc2) := by rw [blk_cell hA9.out]; rfl
        have hxl := blk_lt HX2.out
        have HS9 : Stay (fun i => w2.heap.size ≤ i) w3 w9 := (stay_row hG9.out).mono (fun i _ hi => by omega)
        refine bodyPost_ret (v := .tuple #[.agg #[.slice va2 n2 vc2, .slice ra2 m2 rc2], .int .i64 0]) (by simp [results, Tryz.results17, q5, q6, go_sem]) rfl ⟨_, rfl, ?_, ?_⟩
        · rw [HPV.out, HPR.out]
          have hle := HB2.out.size
          exact ⟨va2, n2, vc2, ra2, m2, rc2, rfl, (HT1.out.on HS9).mono (fun i _ hi => Nat.le_trans hle hi), (HT2.out.on HS9).mono (fun i _ hi => Nat.le_trans hle hi)⟩
        · have h3 := fb2 HB2.out HB3.out (Nat.le_refl _)
          exact h3.grown hG9.out h3.size (fun j hj => by injection hj with hj; have := HAE.out; omega)

end Go.Proofs.YtkfemnjblbnclaaGreatDoor
