/- Blocks that are known whole; rows that a call owns, behind another call. -/
import Derived.Test.YtnojdchodmogbaaTripReadPlain
import Derived.Test.YtnojdchodmogbaaTripRight
import Derived.Test.YtnojdchodmogbaaRefReads
import Derived.Deep.LoopGhost
namespace Go.Proofs.Ytnojdchodmogbaa
open Go.RowKit

/- the terms' block -/
def cells12 (t : TripL) : Array Value := #[.int .i64 t.s.k, .string (bs t.s.x), .string (bs t.s.y), .string (bs t.s.z), .int .i64 t.p.k, .string (bs t.p.x), .string (bs t.p.y), .string (bs t.p.z), .int .i64 t.o.k, .string (bs t.o.x), .string (bs t.o.y), .string (bs t.o.z)]
def Blk (W : World) (X : Nat) (T : TypeId) (a : Array Value) : Prop := W.heap[X]? = some (.cells a T (0, 0))
theorem blk_lt {W : World} {X : Nat} {T : TypeId} {a : Array Value} (h : Blk W X T a) : X < W.heap.size := (Array.getElem?_eq_some_iff.1 h).1
theorem blk_cell {W : World} {X : Nat} {T : TypeId} {a : Array Value} (h : Blk W X T a) (i : Nat) : W.cell? ⟨X, i, none⟩ = a[i]? := by unfold Blk at h; simp [World.cell?, h]
theorem blk_free {W : World} {X : Nat} {T : TypeId} {a : Array Value} (h : Blk W X T a) (i : Nat) : W.frozen? ⟨X, i, none⟩ = false := by unfold Blk at h; simp [World.frozen?, h]
theorem blk_on {W W' : World} {X B : Nat} {T : TypeId} {a : Array Value} (h : Blk W X T a) (hb : Below B W W') (hX : X < B) : Blk W' X T a := by unfold Blk at *; rw [hb.block X hX]; exact h
theorem blk_new (W : World) (T : TypeId) (a : Array Value) : Blk (W.alloc (.cells a T)) W.heap.size T a := heap_alloc_new W _
theorem blk_set {W : World} {X : Nat} {T : TypeId} {a : Array Value} (h : Blk W X T a) (i : Nat) (v : Value) : Blk (W.setCell ⟨X, i, none⟩ v) X T (a.setIfInBounds i v) := by
  have hlt := blk_lt h
  unfold Blk at *
  have h' : W.heap[X] = .cells a T (0, 0) := by simpa [Array.getElem?_eq_getElem hlt] using h
  show (W.heap.modify X _)[X]? = _
  rw [Array.getElem?_eq_getElem (by simpa using hlt), Array.getElem_modify_self, h']
  rfl
theorem below_set {B : Nat} {a W : World} (h : Below B a W) {X : Nat} (hX : B ≤ X) (i : Nat) (v : Value) : Below B a (W.setCell ⟨X, i, none⟩ v) := h.setCell hX v

theorem rowOn {w w' : World} {B size n : Nat} {e : TypeId} {v : Value} {xs : List Value} (h : w.ownsRow B e size v n xs) (hb : Below w.heap.size w w') : w'.ownsRow B e size v n xs := by
  refine ⟨h.1, ?_⟩
  rcases h.2 with h0 | ⟨g, cap, cur, hv, hg, hh, r⟩
  · exact .inl h0
  · exact .inr ⟨g, cap, cur, hv, hg, by rw [hb.block g (Array.getElem?_eq_some_iff.1 hh).1]; exact hh, r⟩

theorem fork {Hyp G : World → Nat → Nat → Prop} {C : Prop} (main : (∀ W X Y, Hyp W X Y → G W X Y) → C) (key : ∀ W X Y, Hyp W X Y → G W X Y) : C := main key
theorem blk_other {W : World} {X Y : Nat} {T : TypeId} {a : Array Value} (h : Blk W X T a) (hne : X ≠ Y) (i : Nat) (v : Value) : Blk (W.setCell ⟨Y, i, none⟩ v) X T a := by
  unfold Blk at *
  rw [Below.heap_setCell _ _ _ _ (fun e => hne e)]; exact h
theorem blk_row {W : World} {X : Nat} {T : TypeId} {a : Array Value} (h : Blk W X T a) (n : Array Value) : Blk (W.setRow X n) X T n := setRow_heap W X a n T _ h
theorem row_other (W : World) (Y : Nat) (n : Array Value) (X : Nat) (hne : X ≠ Y) : (W.setRow Y n).heap[X]? = W.heap[X]? := by
  show (W.heap.modify Y _)[X]? = _
  rw [Array.getElem?_modify]
  rw [if_neg (fun e => hne e.symm)]
theorem blk_row_other {W : World} {X Y : Nat} {T : TypeId} {a : Array Value} (h : Blk W X T a) (hne : X ≠ Y) (n : Array Value) : Blk (W.setRow Y n) X T a := by
  unfold Blk at *
  rw [row_other W Y n X hne]; exact h
theorem blkDrew {W : World} {X : Nat} {T : TypeId} {a : Array Value} (h : Blk W X T a) : Blk W.drew X T a := h

end Go.Proofs.Ytnojdchodmogbaa
