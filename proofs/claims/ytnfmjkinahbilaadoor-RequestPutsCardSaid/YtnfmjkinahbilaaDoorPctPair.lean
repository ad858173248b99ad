/- Package percent's pair: the pair of a text, for every text. -/
import Derived.Test.YtnfmjkinahbilaaDoorPctDec
import Derived.Test.YtnfmjkinahbilaaDoorPctCut
import Derived.Test.YtnfmjkinahbilaaDoorPctStore
namespace Go.Proofs.YtnfmjkinahbilaaDoor
open Go.RowKit

def pairR (l : List UInt8) : PairL × Int := match oneP l with
  | none => (⟨[], []⟩, 2)
  | some p => (p, 0)
theorem pair_uncut {l : List UInt8} (h : cutI 61 l = false) : pairR l = (⟨[], []⟩, 2) := by unfold pairR oneP; rw [h]; rfl
theorem pair_no1 {l : List UInt8} (h : cutI 61 l = true) (h1 : decS (cutA 61 l) = none) : pairR l = (⟨[], []⟩, 2) := by unfold pairR oneP; rw [h, h1]; rfl
theorem pair_no2 {l a : List UInt8} (h : cutI 61 l = true) (h1 : decS (cutA 61 l) = some a) (h2 : decS (cutB 61 l) = none) : pairR l = (⟨[], []⟩, 2) := by unfold pairR oneP; rw [h, h1, h2]; rfl
theorem pair_yes {l a b : List UInt8} (h : cutI 61 l = true) (h1 : decS (cutA 61 l) = some a) (h2 : decS (cutB 61 l) = some b) : pairR l = (⟨a, b⟩, 0) := by unfold pairR oneP; rw [h, h1, h2]; rfl
theorem decR_none {l : List UInt8} (h : decS l = none) : decR l = ([], 2) := by unfold decR; rw [h]
theorem decR_some {l a : List UInt8} (h : decS l = some a) : decR l = (a, 0) := by unfold decR; rw [h]
theorem cutA_len (x : UInt8) (l : List UInt8) : (cutA x l).length ≤ l.length := by
  rcases cut_cases x l with ⟨_, _, h, _⟩ | ⟨_, _, h, _⟩
  · omega
  · rw [h]; exact Nat.le_refl _
theorem cutB_le (x : UInt8) (l : List UInt8) : (cutB x l).length ≤ l.length := by
  rcases cut_cases x l with ⟨_, _, _, _, h⟩ | ⟨_, _, _, h⟩
  · rw [← h, List.length_drop]; omega
  · rw [h]; exact Nat.zero_le _
theorem decB (l : List UInt8) (h : l.length ≤ 140737488355327) (W : World) (q : List UInt8 × Int) (hq : decR l = q) : Calls Tryd.prog 38 #[.string (bs l)] W fun e w' => e = .returned (.tuple #[.string (bs q.1), .int .i64 q.2]) ∧ Below W.heap.size W w' := by
  subst hq
  exact pDecode_calls (bs l) W h
def PairT (w : World) (q : PairL × Int) (e : Ending) (w' : World) : Prop := e = .returned (.tuple #[.agg #[.string (bs q.1.k), .string (bs q.1.v)], .int .i64 q.2]) ∧ Below w.heap.size w w'

set_option maxRecDepth 100000 in
set_option maxHeartbeats 2000000 in
theorem pair_calls (s : ByteArray) (w : World) (hs : s.size ≤ 140737488355327) : Calls Tryd.prog 26 #[.string s] w (PairT w (pairR s.data.toList)) := by
  have HC := Lib.hid (fun W => cut_calls 61 s W (by unfold maxLen; omega))
  obtain ⟨X, hX⟩ : ∃ X, w.heap.size = X := ⟨_, rfl⟩
  obtain ⟨W0, hW0⟩ : ∃ W0, w.alloc (.cells #[.string ⟨#[]⟩, .string ⟨#[]⟩] 38) = W0 := ⟨_, rfl⟩
  have HB := Lib.hid (show Below w.heap.size w W0 by rw [← hW0]; exact box_below _ _)
  have HK := Lib.hid (show Blk W0 X 38 #[.string ⟨#[]⟩, .string ⟨#[]⟩] by rw [← hW0, ← hX]; exact blk_new _ _ _)
  have HX := Lib.hid hX
  have HW0 := Lib.hid hW0
  have hA := cutA_len 61 s.data.toList
  have hB := cutB_le 61 s.data.toList
  rw [← Lib.size_eq] at hA hB
  clear hX hW0
  cases hc : cutI 61 s.data.toList with
  | false =>
    have HE := Lib.hid (pair_uncut hc)
    rw [hc] at HC
    clear hc
    go_enter Tryd.func26, Tryd.ntmps26
    go_wp2_with fail
    rw [HW0.out, HX.out]
    refine (HC.out _).mono ?_
    rintro e W1 ⟨rfl, hb⟩
    replace HK := Lib.hid (blk_on HK.out hb (blk_lt HK.out))
    replace HB := Lib.hid (fb2 HB.out hb (Nat.le_refl _))
    clear hb
    go_wp2_with (refine whole_abs 38 (.tmp 2) (.tmp 18) ⟨rfl, rfl⟩ X #[.string ⟨#[]⟩, .string ⟨#[]⟩] rfl rfl 38 #[.string ⟨#[]⟩, .string ⟨#[]⟩] HK.out (by kernel_rfl) rfl (two_one _ _) ?_; intro w9 hA9 hG9)
    have q0 : w9.cell? ⟨X, 0, none⟩ = some (.string ⟨#[]⟩) := (blk_cell hA9.out 0).trans rfl
    have q1 : w9.cell? ⟨X, 1, none⟩ = some (.string ⟨#[]⟩) := (blk_cell hA9.out 1).trans rfl
    refine bodyPost_ret (v := .tuple #[.agg #[.string ⟨#[]⟩, .string ⟨#[]⟩], .int .i64 2]) (by simp [results, Tryd.results26, q0, q1, go_sem]) rfl ⟨by rw [HE.out]; rfl, HB.out.grown hG9.out (by have := HX.out; have := HB.out.size; omega) (fun q hq => by injection hq with hq; have := HX.out; omega)⟩
  | true =>
  rw [hc] at HC
  cases h1 : decS (cutA 61 s.data.toList) with
  | none =>
    have HE := Lib.hid (pair_no1 hc h1)
    have HD1 := Lib.hid (fun W => decB (cutA 61 s.data.toList) (by omega) W _ (decR_none h1))
    clear hc h1
    go_enter Tryd.func26, Tryd.ntmps26
    go_wp2_with fail
    rw [HW0.out, HX.out]
    refine (HC.out _).mono ?_
    rintro e W1 ⟨rfl, hb⟩
    replace HK := Lib.hid (blk_on HK.out hb (blk_lt HK.out))
    replace HB := Lib.hid (fb2 HB.out hb (Nat.le_refl _))
    clear hb
    go_wp2_with fail
    refine (HD1.out _).mono ?_
    rintro e W2 ⟨rfl, hb⟩
    replace HK := Lib.hid (blk_on HK.out hb (blk_lt HK.out))
    replace HB := Lib.hid (fb2 HB.out hb (Nat.le_refl _))
    clear hb
    go_wp2_with (refine whole_abs 38 (.tmp 2) (.tmp 26) ⟨rfl, rfl⟩ X #[.string ⟨#[]⟩, .string ⟨#[]⟩] rfl rfl 38 #[.string ⟨#[]⟩, .string ⟨#[]⟩] HK.out (by kernel_rfl) rfl (two_one _ _) ?_; intro w9 hA9 hG9)
    have q0 : w9.cell? ⟨X, 0, none⟩ = some (.string ⟨#[]⟩) := (blk_cell hA9.out 0).trans rfl
    have q1 : w9.cell? ⟨X, 1, none⟩ = some (.string ⟨#[]⟩) := (blk_cell hA9.out 1).trans rfl
    refine bodyPost_ret (v := .tuple #[.agg #[.string ⟨#[]⟩, .string ⟨#[]⟩], .int .i64 2]) (by simp [results, Tryd.results26, q0, q1, go_sem]) rfl ⟨by rw [HE.out]; rfl, HB.out.grown hG9.out (by have := HX.out; have := HB.out.size; omega) (fun q hq => by injection hq with hq; have := HX.out; omega)⟩
  | some a =>
  have HD1 := Lib.hid (fun W => decB (cutA 61 s.data.toList) (by omega) W _ (decR_some h1))
  cases h2 : decS (cutB 61 s.data.toList) with
  | none =>
    have HE := Lib.hid (pair_no2 hc h1 h2)
    have HD2 := Lib.hid (fun W => decB (cutB 61 s.data.toList) (by omega) W _ (decR_none h2))
    clear hc h1 h2
    go_enter Tryd.func26, Tryd.ntmps26
    go_wp2_with fail
    rw [HW0.out, HX.out]
    refine (HC.out _).mono ?_
    rintro e W1 ⟨rfl, hb⟩
    replace HK := Lib.hid (blk_on HK.out hb (blk_lt HK.out))
    replace HB := Lib.hid (fb2 HB.out hb (Nat.le_refl _))
    clear hb
    go_wp2_with fail
    refine (HD1.out _).mono ?_
    rintro e W2 ⟨rfl, hb⟩
    replace HK := Lib.hid (blk_on HK.out hb (blk_lt HK.out))
    replace HB := Lib.hid (fb2 HB.out hb (Nat.le_refl _))
    clear hb
    go_wp2_with fail
    refine (HD2.out _).mono ?_
    rintro e W3 ⟨rfl, hb⟩
    replace HK := Lib.hid (blk_on HK.out hb (blk_lt HK.out))
    replace HB := Lib.hid (fb2 HB.out hb (Nat.le_refl _))
    clear hb
    go_wp2_with (refine whole_abs 38 (.tmp 2) (.tmp 35) ⟨rfl, rfl⟩ X #[.string ⟨#[]⟩, .string ⟨#[]⟩] rfl rfl 38 #[.string ⟨#[]⟩, .string ⟨#[]⟩] HK.out (by kernel_rfl) rfl (two_one _ _) ?_; intro w9 hA9 hG9)
    have q0 : w9.cell? ⟨X, 0, none⟩ = some (.string ⟨#[]⟩) := (blk_cell hA9.out 0).trans rfl
    have q1 : w9.cell? ⟨X, 1, none⟩ = some (.string ⟨#[]⟩) := (blk_cell hA9.out 1).trans rfl
    refine bodyPost_ret (v := .tuple #[.agg #[.string ⟨#[]⟩, .string ⟨#[]⟩], .int .i64 2]) (by simp [results, Tryd.results26, q0, q1, go_sem]) rfl ⟨by rw [HE.out]; rfl, HB.out.grown hG9.out (by have := HX.out; have := HB.out.size; omega) (fun q hq => by injection hq with hq; have := HX.out; omega)⟩
  | some b =>
    have HE := Lib.hid (pair_yes hc h1 h2)
    have HD2 := Lib.hid (fun W => decB (cutB 61 s.data.toList) (by omega) W _ (decR_some h2))
    clear hc h1 h2
    go_enter Tryd.func26, Tryd.ntmps26
    go_wp2_with fail
    rw [HW0.out, HX.out]
    refine (HC.out _).mono ?_
    rintro e W1 ⟨rfl, hb⟩
    replace HK := Lib.hid (blk_on HK.out hb (blk_lt HK.out))
    replace HB := Lib.hid (fb2 HB.out hb (Nat.le_refl _))
    clear hb
    go_wp2_with fail
    refine (HD1.out _).mono ?_
    rintro e W2 ⟨rfl, hb⟩
    replace HK := Lib.hid (blk_on HK.out hb (blk_lt HK.out))
    replace HB := Lib.hid (fb2 HB.out hb (Nat.le_refl _))
    clear hb
    go_wp2_with fail
    refine (HD2.out _).mono ?_
    rintro e W3 ⟨rfl, hb⟩
    replace HK := Lib.hid (blk_on HK.out hb (blk_lt HK.out))
    replace HB := Lib.hid (fb2 HB.out hb (Nat.le_refl _))
    clear hb
    go_wp2_with (refine whole_abs 38 (.tmp 2) (.tmp 39) ⟨rfl, rfl⟩ X #[.string (bs a), .string (bs b)] rfl rfl 38 #[.string ⟨#[]⟩, .string ⟨#[]⟩] HK.out (by kernel_rfl) rfl (two_one _ _) ?_; intro w9 hA9 hG9)
    have q0 : w9.cell? ⟨X, 0, none⟩ = some (.string (bs a)) := (blk_cell hA9.out 0).trans rfl
    have q1 : w9.cell? ⟨X, 1, none⟩ = some (.string (bs b)) := (blk_cell hA9.out 1).trans rfl
    refine bodyPost_ret (v := .tuple #[.agg #[.string (bs a), .string (bs b)], .int .i64 0]) (by simp [results, Tryd.results26, q0, q1, go_sem]) rfl ⟨by rw [HE.out], HB.out.grown hG9.out (by have := HX.out; have := HB.out.size; omega) (fun q hq => by injection hq with hq; have := HX.out; omega)⟩

end Go.Proofs.YtnfmjkinahbilaaDoor
