
/- The term that a text begins with, and the term whose text it is: what Prefix and Read of package term come to, for every text. -/
import Derived.Test.YtgkpdcjkobieiaaDoorTermAheads
namespace Go.Proofs.YtgkpdcjkobieiaaDoor
open Go.RowKit

theorem unquoteS_le (s : ByteArray) (h : 1 ≤ s.size) : (unquoteS s.data.toList).2 ≤ s.size := by
  have := unq_le (s.data.toList.drop 1) [] false 0
  rw [List.length_drop, ← Lib.size_eq] at this
  unfold unquoteS; omega

theorem lit_below {w w1 w2 : World} {R T : Obj} (hb1 : Below (w.alloc R).heap.size (w.alloc R) w1) (hb2 : Below (w1.alloc T).heap.size (w1.alloc T) w2) : Below w.heap.size w w2 := by
  have h := hb1.size
  rw [World.size_alloc] at h
  exact ((one_box hb1).alloc (by omega) _).trans (hb2.mono (by rw [World.size_alloc]; omega))

theorem res_cell1 {w w1 : World} {R : Obj} (hb1 : Below (w.alloc R).heap.size (w.alloc R) w1) (T : Obj) {o : Nat} {v : Value} (h : (w.alloc R).cell? ⟨w.heap.size, o, none⟩ = some v) : (w1.alloc T).cell? ⟨w.heap.size, o, none⟩ = some v := by
  have hz := hb1.size
  rw [World.size_alloc] at hz
  have e := World.cell?_alloc_lt w1 T ⟨w.heap.size, o, none⟩ (show w.heap.size < w1.heap.size by omega)
  rw [e, hb1.cell (p := ⟨w.heap.size, o, none⟩) (by rw [World.size_alloc]; exact Nat.lt_succ_self _), h]
theorem res_cell {w w1 w2 : World} {R T : Obj} (hb1 : Below (w.alloc R).heap.size (w.alloc R) w1) (hb2 : Below (w1.alloc T).heap.size (w1.alloc T) w2) {o : Nat} {v : Value} (h : (w.alloc R).cell? ⟨w.heap.size, o, none⟩ = some v) : w2.cell? ⟨w.heap.size, o, none⟩ = some v := by
  have hz := hb1.size
  rw [World.size_alloc] at hz
  rw [hb2.cell (p := ⟨w.heap.size, o, none⟩) (by rw [World.size_alloc]; show w.heap.size < _; omega), res_cell1 hb1 T h]

end Go.Proofs.YtgkpdcjkobieiaaDoor
