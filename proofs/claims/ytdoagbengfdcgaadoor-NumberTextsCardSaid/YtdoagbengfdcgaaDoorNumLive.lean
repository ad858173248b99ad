/- The variables of a statement's function that are alive: three cells each, in whatever world comes behind. -/
import Derived.Test.YtdoagbengfdcgaaDoorNumAwake
import Derived.Test.YtdoagbengfdcgaaDoorNumWrong
namespace Go.Proofs.YtdoagbengfdcgaaDoor
open Go.RowKit

structure C3 (W : World) (b : Nat) (x y z : Value) : Prop where
  c0 : W.cell? ⟨b, 0, none⟩ = some x
  c1 : W.cell? ⟨b, 1, none⟩ = some y
  c2 : W.cell? ⟨b, 2, none⟩ = some z
  lt : b < W.heap.size
theorem C3.on {W W' : World} {b : Nat} {x y z : Value} (h : C3 W b x y z) (hb : Below W.heap.size W W') : C3 W' b x y z :=
  ⟨(hb.cell (p := ⟨b, 0, none⟩) h.lt).trans h.c0, (hb.cell (p := ⟨b, 1, none⟩) h.lt).trans h.c1, (hb.cell (p := ⟨b, 2, none⟩) h.lt).trans h.c2, Nat.lt_of_lt_of_le h.lt hb.size⟩
theorem C3.alloc {W : World} {b : Nat} {x y z : Value} (h : C3 W b x y z) (o : Obj) : C3 (W.alloc o) b x y z := h.on (box_below W o)
theorem C3.drewN {W : World} {b : Nat} {x y z : Value} (h : C3 W b x y z) (n : Nat) : C3 (W.drewN n) b x y z := h.on (below_drewN (Below.refl _ _) n)
theorem C3.fresh (W : World) (x y z : Value) (t : TypeId) : C3 (W.alloc (.cells #[x, y, z] t)) W.heap.size x y z :=
  ⟨by rw [World.cell?_alloc_at _ _ _ _ rfl]; rfl, by rw [World.cell?_alloc_at _ _ _ _ rfl]; rfl, by rw [World.cell?_alloc_at _ _ _ _ rfl]; rfl, by simp⟩
theorem bbox {w w1 w2 : World} {o : Obj} (h1 : Below w.heap.size w w1) (h2 : Below (w1.alloc o).heap.size (w1.alloc o) w2) : Below w.heap.size w w2 := h1.trans ((one_box h2).mono h1.size)

theorem wrong_of {v s : Int} {d : Bool} {v' s' : Int} {d' : Bool} (h : rightZ v s d = false ∨ (rightZ v s d = true ∧ rightZ v' s' d' = false)) : (rightZ v s d && rightZ v' s' d') = false := by
  rcases h with h | ⟨h, h'⟩
  · rw [h]; rfl
  · rw [h, h']; rfl
theorem right_two (v s : Int) (d : Bool) (v' s' : Int) (d' : Bool) : (rightZ v s d = false ∨ (rightZ v s d = true ∧ rightZ v' s' d' = false)) ∨ (rightZ v s d = true ∧ rightZ v' s' d' = true) := by
  cases rightZ v s d <;> cases rightZ v' s' d' <;> simp

end Go.Proofs.YtdoagbengfdcgaaDoor
