/- A piece of a table: package shape's Slice, for every table and every two numbers. -/
import Derived.Test.YtkfemnjblbnclaaGreatDoorShpDistinct
namespace Go.Proofs.YtkfemnjblbnclaaGreatDoor
open Go.RowKit Go.Maps

def pieceE (V : List (List UInt8)) (R : List RowL) (off lim : Int) : Int := if rightT V R = true then (if off < 0 ∨ lim < -1 then 1 else 0) else 2
def cutP (R : List RowL) (off lim : Int) : List RowL := if lim < 0 then R.drop off.toNat else (R.drop off.toNat).take lim.toNat
def pieceV (V : List (List UInt8)) (R : List RowL) (off lim : Int) : List (List UInt8) := if pieceE V R off lim = 0 then V else []
def pieceR (V : List (List UInt8)) (R : List RowL) (off lim : Int) : List RowL := if pieceE V R off lim = 0 then cutP R off lim else []
theorem cut_at {R : List RowL} {off lim : Int} {m : Nat} (hm : R.length = m) : cutP R off lim = (R.drop (min off.toNat m)).take (if lim < 0 then m - min off.toNat m else min lim.toNat (m - min off.toNat m)) := by
  have e : R.drop off.toNat = R.drop (min off.toNat m) := by
    by_cases h : off.toNat ≤ m
    · rw [Nat.min_eq_left h]
    · rw [Nat.min_eq_right (by omega), List.drop_eq_nil_of_le (by omega), List.drop_eq_nil_of_le (by omega)]
  have el : (R.drop (min off.toNat m)).length = m - min off.toNat m := by rw [List.length_drop, hm]
  unfold cutP
  rw [e]
  split
  · rw [List.take_of_length_le (by omega)]
  · by_cases h : lim.toNat ≤ m - min off.toNat m
    · rw [show min lim.toNat (m - min off.toNat m) = lim.toNat from Nat.min_eq_left h]
    · rw [show min lim.toNat (m - min off.toNat m) = m - min off.toNat m from Nat.min_eq_right (by omega), List.take_of_length_le (by omega), List.take_of_length_le (by omega)]
theorem row_from {w : World} {ra : Option Addr} {m rc : Nat} {R : List RowL} (h : RowA w ra m rc R) {i : Nat} (hi : i ≤ m) : RowA w (if rc = i then ra else Option.map (fun x => x.add i) ra) (m - i) (rc - i) (R.drop i) := by
  have hl := h.len
  have hc := h.cap
  have hm := h.most
  refine ⟨by rw [List.length_drop, hl], by omega, by omega, fun h0 => ?_⟩
  obtain ⟨g, o, rfl, hg, hcell⟩ := h.cells (by omega)
  refine ⟨g, o + i, by rw [if_neg (by omega), Option.map_some, add_at], hg, fun j hj => ?_⟩
  rw [List.length_drop] at hj
  obtain ⟨a', c', k1, k2⟩ := hcell (i + j) (by omega)
  have e2 : (R.drop i)[j]'(by rw [List.length_drop]; omega) = R[i + j]'(by omega) := by rw [List.getElem_drop]
  rw [e2]
  exact ⟨a', c', by rw [Nat.add_assoc]; exact k1, k2⟩
theorem row_upto {w : World} {ra : Option Addr} {m rc : Nat} {R : List RowL} (h : RowA w ra m rc R) {j : Nat} (hj : j ≤ m) : RowA w ra j rc (R.take j) := by
  have hl := h.len
  have hc := h.cap
  refine ⟨by rw [List.length_take]; omega, by omega, h.most, fun h0 => ?_⟩
  obtain ⟨g, o, e, hg, hcell⟩ := h.cells (by omega)
  refine ⟨g, o, e, hg, fun q hq => ?_⟩
  rw [List.length_take] at hq
  obtain ⟨a', c', k1, k2⟩ := hcell q (by omega)
  have e2 : (R.take j)[q]'(by rw [List.length_take]; omega) = R[q]'(by omega) := by rw [List.getElem_take]
  rw [e2]
  exact ⟨a', c', k1, k2⟩
theorem min_nat (a m : Nat) : (min (a : Int) (m : Int)).toNat = min a m := by omega

set_option maxRecDepth 100000 in
set_option maxHeartbeats 8000000 in
theorem slice_calls (V : List (List UInt8)) (R : List RowL) (off lim : Int) (hx : okV V) (hr : okR R) (tv : Value) (w : World) (ht : TabA w tv V R) :
    Calls Tryz.prog 28 #[tv, .int .i64 off, .int .i64 lim] w fun e w' => ∃ uv, e = .returned (.tuple #[uv, .int .i64 (pieceE V R off lim)]) ∧ TabK (fun i => w.heap.size ≤ i) w' uv (pieceV V R off lim) (pieceR V R off lim) ∧ Below w.heap.size w w' := by
  obtain ⟨va, n, vc, ra, m, rc, rfl, hV, hR⟩ := ht
  have HV := Lib.hid hV
  have HR := Lib.hid hR
  have HVL := Lib.hid hV.len
  have HRL := Lib.hid hR.len
  have hcp := hR.cap
  have hms := hR.most
  unfold maxLen at hms
  obtain ⟨A, hA⟩ : ∃ A, w.heap.size = A := ⟨_, rfl⟩
  obtain ⟨W0, hW0⟩ : ∃ W0, (w.alloc (.cells #[.slice va n vc, .slice ra m rc] 31)).alloc (.cells #[.slice none 0 0, .slice none 0 0] 31) = W0 := ⟨_, rfl⟩
  have HB0 := Lib.hid (show Below w.heap.size w W0 by rw [← hW0]; exact fb2 (box_below _ _) (box_below _ _) (Nat.le_refl _))
  have HA0 := Lib.hid (show Blk W0 A 31 #[.slice va n vc, .slice ra m rc] by rw [← hW0, ← hA]; exact blk_alloc (blk_new _ _ _) _)
  have HX0 := Lib.hid (show Blk W0 (A + 1) 31 #[.slice none 0 0, .slice none 0 0] by
    rw [← hW0, ← hA]
    have := blk_new (w.alloc (.cells #[.slice va n vc, .slice ra m rc] 31)) 31 #[.slice none 0 0, .slice none 0 0]
    rw [show (w.alloc (.cells #[.slice va n vc, .slice ra m rc] 31)).heap.size = w.heap.size + 1 by simp] at this
    exact this)
  have HCK := Lib.hid (tCheck_calls V R hx hr (.agg #[.slice va n vc, .slice ra m rc]) W0 ⟨va, n, vc, ra, m, rc, rfl, hV.on HB0.out, hR.on HB0.out⟩)
  have HAE := Lib.hid hA
  have HW0 := Lib.hid hW0
  clear hW0 hA hV hR hr hx
  cases hq : rightT V R with
  | false =>
    rw [hq, show formZ false = 2 from rfl] at HCK
    have he : pieceE V R off lim = 2 := by unfold pieceE; rw [hq]; rfl
    have HPV := Lib.hid (show pieceV V R off lim = [] from if_neg (by rw [he]; omega))
    have HPR := Lib.hid (show pieceR V R off lim = [] from if_neg (by rw [he]; omega))
    rw [he]
    clear hq he
    go_enter Tryz.func28, Tryz.ntmps28
    go_wp2_with fail
    rw [HW0.out, HAE.out]
    refine (HCK.out).mono ?_
    rintro e w1 ⟨rfl, hb1⟩
    have HA1 := Lib.hid (blk_on HA0.out hb1 (blk_lt HA0.out))
    have HX1 := Lib.hid (blk_on HX0.out hb1 (blk_lt HX0.out))
    have HB1 := Lib.hid (fb2 HB0.out hb1 (Nat.le_refl _))
    clear hb1
    go_wp2_with (refine whole_abs 31 (.tmp 6) (.tmp 14) ⟨rfl, rfl⟩ (A + 1) #[.slice none 0 0, .slice none 0 0] rfl rfl 31 #[.slice none 0 0, .slice none 0 0] HX1.out (by kernel_rfl) rfl (by kernel_rfl) ?_; intro w9 hA9 hG9)
    have q2 : w9.cell? ⟨A + 1, 0, none⟩ = some (.slice none 0 0) := by rw [blk_cell hA9.out]; rfl
    have q3 : w9.cell? ⟨A + 1, 1, none⟩ = some (.slice none 0 0) := by rw [blk_cell hA9.out]; rfl
    refine bodyPost_ret (v := .tuple #[.agg #[.slice none 0 0, .slice none 0 0], .int .i64 2]) (by simp [results, Tryz.results28, q2, q3, go_sem]) rfl ⟨_, rfl, by rw [HPV.out, HPR.out]; exact tab_nil _ _, ?_⟩
    exact HB1.out.grown hG9.out HB1.out.size (fun j hj => by injection hj with hj; have := HAE.out; omega)
  | true =>
    rw [hq, show formZ true = 0 from rfl] at HCK
    by_cases hbad : off < 0 ∨ lim < -1
    · have he : pieceE V R off lim = 1 := by unfold pieceE; rw [if_pos hq, if_pos hbad]
      have HPV := Lib.hid (show pieceV V R off lim = [] from if_neg (by rw [he]; omega))
      have HPR := Lib.hid (show pieceR V R off lim = [] from if_neg (by rw [he]; omega))
      rw [he]
      clear hq he
      rcases (show off < 0 ∨ (¬ off < 0 ∧ lim < -1) by omega) with h0 | ⟨h0, h1⟩
      all_goals
        clear hbad
        go_enter Tryz.func28, Tryz.ntmps28
        go_wp2_with fail
        rw [HW0.out, HAE.out]
        refine (HCK.out).mono ?_
        rintro e w1 ⟨rfl, hb1⟩
        have HX1 := Lib.hid (blk_on HX0.out hb1 (blk_lt HX0.out))
        have HB1 := Lib.hid (fb2 HB0.out hb1 (Nat.le_refl _))
        clear hb1
        go_wp2_with (refine whole_abs 31 (.tmp 6) (.tmp 22) ⟨rfl, rfl⟩ (A + 1) #[.slice none 0 0, .slice none 0 0] rfl rfl 31 #[.slice none 0 0, .slice none 0 0] HX1.out (by kernel_rfl) rfl (by kernel_rfl) ?_; intro w9 hA9 hG9)
        have q2 : w9.cell? ⟨A + 1, 0, none⟩ = some (.slice none 0 0) := by rw [blk_cell hA9.out]; rfl
        have q3 : w9.cell? ⟨A + 1, 1, none⟩ = some (.slice none 0 0) := by rw [blk_cell hA9.out]; rfl
        refine bodyPost_ret (v := .tuple #[.agg #[.slice none 0 0, .slice none 0 0], .int .i64 1]) (by simp [results, Tryz.results28, q2, q3, go_sem]) rfl ⟨_, rfl, by rw [HPV.out, HPR.out]; exact tab_nil _ _, ?_⟩
        exact HB1.out.grown hG9.out HB1.out.size (fun j hj => by injection hj with hj; have := HAE.out; omega)
    · have he : pieceE V R off lim = 0 := by unfold pieceE; rw [if_pos hq, if_neg hbad]
      have HPV := Lib.hid (show pieceV V R off lim = V from if_pos he)
      have HPR := Lib.hid (show pieceR V R off lim = cutP R off lim from if_pos he)
      rw [he]
      have hq2 := hq
      unfold rightT at hq2
      simp only [Bool.and_eq_true, decide_eq_true_eq, List.all_eq_true] at hq2
      obtain ⟨⟨⟨hv32, hr4⟩, _⟩, hrow⟩ := hq2
      have HWD : Hid (∀ r ∈ R, r.length = V.length) := Lib.hid fun r hr => by
        have := hrow r hr
        unfold rowT at this
        simp only [Bool.and_eq_true, decide_eq_true_eq] at this
        exact this.1
      have HV32 := Lib.hid hv32
      have hm4 : m ≤ 4096 := by have := HRL.out; omega
      clear hq he hrow hv32 hr4
      obtain ⟨a, rfl⟩ : ∃ a : Nat, off = a := ⟨off.toNat, by omega⟩
      have HCA := Lib.hid (cut_at (R := R) (off := (a : Int)) (lim := lim) HRL.out)
      rw [Int.toNat_natCast] at HCA
      have h0 : ¬ (a : Int) < 0 := by omega
      have h1 : ¬ lim < -1 := by omega
      clear hbad
      go_enter Tryz.func28, Tryz.ntmps28
      go_wp2_with fail
      rw [HW0.out, HAE.out]
      refine (HCK.out).mono ?_
      rintro e w1 ⟨rfl, hb1⟩
      have hA1 := blk_on HA0.out hb1 (blk_lt HA0.out)
      have HX1 := Lib.hid (blk_on HX0.out hb1 (blk_lt HX0.out))
      have HB1 := Lib.hid (fb2 HB0.out hb1 (Nat.le_refl _))
      have HRW := Lib.hid ((HR.out.on HB0.out).on hb1)
      have HVW := Lib.hid ((HV.out.on HB0.out).on hb1)
      have q0 : w1.cell? ⟨A, 0, none⟩ = some (.slice va n vc) := (blk_cell hA1 0).trans rfl
      have q1 : w1.cell? ⟨A, 1, none⟩ = some (.slice ra m rc) := (blk_cell hA1 1).trans rfl
      clear hb1 hA1
      obtain ⟨i, hie⟩ : ∃ i, min a m = i := ⟨_, rfl⟩
      have him : i ≤ m := by omega
      have HI := Lib.hid ((min_nat a m).trans hie)
      rw [hie] at HCA
      clear hie
      rcases (show lim < 0 ∨ 0 ≤ lim by omega) with h2 | h2
      · rw [if_pos h2] at HCA
        have hcc := copied_calls V (R.drop i) va vc _ _ _ w1 (by rw [HVL.out]; exact HVW.out) (row_from HRW.out him) (fun r hr => HWD.out r (List.mem_of_mem_drop hr)) (by omega) (by have := HV32.out; omega)
        rw [HVL.out] at hcc
        have HCC := Lib.hid hcc
        have HCU := Lib.hid (show cutP R a lim = R.drop i by rw [HCA.out, List.take_of_length_le (by rw [List.length_drop, HRL.out]; omega)])
        clear hcc HCA
        go_wp2_with (first
          | (go_at_call 53; rw [HI.out]; refine HCC.out.mono ?_; rintro e w3 ⟨tv, rfl, hK3, hb3⟩; obtain ⟨va2, n2, vc2, ra2, m2, rc2, rfl, hT1, hT2⟩ := hK3; have HX3 := Lib.hid (blk_on HX1.out hb3 (blk_lt HX1.out)); have HT1 := Lib.hid hT1; have HT2 := Lib.hid hT2; have HB3 := Lib.hid hb3; clear hT1 hT2 hb3)
          | (refine whole_abs 31 (.tmp 6) (.tmp 42) ⟨rfl, rfl⟩ (A + 1) #[.slice va2 n2 vc2, .slice ra2 m2 rc2] rfl rfl 31 #[.slice none 0 0, .slice none 0 0] HX3.out (by kernel_rfl) rfl (by kernel_rfl) ?_; intro w9 hA9 hG9))
        all_goals
          have q5 : w9.cell? ⟨A + 1, 0, none⟩ = some (.slice va2 n2 vc2) := by rw [blk_cell hA9.out]; rfl
          have q6 : w9.cell? ⟨A + 1, 1, none⟩ = some (.slice ra2 m2 rc2) := by rw [blk_cell hA9.out]; rfl
          have hxl := blk_lt HX1.out
          have HS9 : Stay (fun i => w1.heap.size ≤ i) w3 w9 := (stay_row hG9.out).mono (fun i _ hi => by omega)
          refine bodyPost_ret (v := .tuple #[.agg #[.slice va2 n2 vc2, .slice ra2 m2 rc2], .int .i64 0]) (by simp [results, Tryz.results28, q5, q6, go_sem]) rfl ⟨_, rfl, ?_, ?_⟩
          · rw [HPV.out, HPR.out, HCU.out]
            exact TabK.mono ⟨va2, n2, vc2, ra2, m2, rc2, rfl, HT1.out.on HS9, HT2.out.on HS9⟩ (fun i _ hi => Nat.le_trans HB1.out.size hi)
          · exact (fb2 HB1.out HB3.out (Nat.le_refl _)).grown hG9.out (Nat.le_trans HB1.out.size HB3.out.size) (fun j hj => by injection hj with hj; have := HAE.out; omega)
      · have h3 : ¬ lim < 0 := by omega
        obtain ⟨b, rfl⟩ : ∃ b : Nat, lim = b := ⟨lim.toNat, by omega⟩
        rw [if_neg h3, Int.toNat_natCast] at HCA
        obtain ⟨j, hje⟩ : ∃ j, min b (m - i) = j := ⟨_, rfl⟩
        have hjm : j ≤ m - i := by omega
        have HJ := Lib.hid ((min_nat b (m - i)).trans hje)
        rw [hje] at HCA
        clear hje
        have hcc := copied_calls V ((R.drop i).take j) va vc _ _ _ w1 (by rw [HVL.out]; exact HVW.out) (row_upto (row_from HRW.out him) hjm) (fun r hr => HWD.out r (List.mem_of_mem_drop (List.mem_of_mem_take hr))) (by omega) (by have := HV32.out; omega)
        rw [HVL.out] at hcc
        have HCC := Lib.hid hcc
        have HCU := Lib.hid HCA.out
        clear hcc HCA
        go_wp2_with (first
          | (go_at_call 53; rw [HI.out, HJ.out]; refine HCC.out.mono ?_; rintro e w3 ⟨tv, rfl, hK3, hb3⟩; obtain ⟨va2, n2, vc2, ra2, m2, rc2, rfl, hT1, hT2⟩ := hK3; have HX3 := Lib.hid (blk_on HX1.out hb3 (blk_lt HX1.out)); have HT1 := Lib.hid hT1; have HT2 := Lib.hid hT2; have HB3 := Lib.hid hb3; clear hT1 hT2 hb3)
          | (refine whole_abs 31 (.tmp 6) (.tmp 42) ⟨rfl, rfl⟩ (A + 1) #[.slice va2 n2 vc2, .slice ra2 m2 rc2] rfl rfl 31 #[.slice none 0 0, .slice none 0 0] HX3.out (by kernel_rfl) rfl (by kernel_rfl) ?_; intro w9 hA9 hG9))
        all_goals
          have q5 : w9.cell? ⟨A + 1, 0, none⟩ = some (.slice va2 n2 vc2) := by rw [blk_cell hA9.out]; rfl
          have q6 : w9.cell? ⟨A + 1, 1, none⟩ = some (.slice ra2 m2 rc2) := by rw [blk_cell hA9.out]; rfl
          have hxl := blk_lt HX1.out
          have HS9 : Stay (fun i => w1.heap.size ≤ i) w3 w9 := (stay_row hG9.out).mono (fun i _ hi => by omega)
          refine bodyPost_ret (v := .tuple #[.agg #[.slice va2 n2 vc2, .slice ra2 m2 rc2], .int .i64 0]) (by simp [results, Tryz.results28, q5, q6, go_sem]) rfl ⟨_, rfl, ?_, ?_⟩
          · rw [HPV.out, HPR.out, HCU.out]
            exact TabK.mono ⟨va2, n2, vc2, ra2, m2, rc2, rfl, HT1.out.on HS9, HT2.out.on HS9⟩ (fun i _ hi => Nat.le_trans HB1.out.size hi)
          · exact (fb2 HB1.out HB3.out (Nat.le_refl _)).grown hG9.out (Nat.le_trans HB1.out.size HB3.out.size) (fun j hj => by injection hj with hj; have := HAE.out; omega)

end Go.Proofs.YtkfemnjblbnclaaGreatDoor
