
/- Which terms are right, and what Check answers of them: what package term's tests of a term come to, for every term. -/
import Derived.Test.YtkejninogmphhaaDoorTermRight
namespace Go.Proofs.YtkejninogmphhaaDoor
open Go.RowKit

/- a term as a value -/
def termV (k : Int) (x y z : ByteArray) : Value := .agg #[.int .i64 k, .string x, .string y, .string z]

/- OK, or ErrForm -/
def formZ (b : Bool) : Int := if b then 0 else 2

theorem box_below (w : World) (o : Obj) : Below w.heap.size w (w.alloc o) := (Below.refl _ _).alloc (Nat.le_refl _) _

theorem bcell {W w1 : World} (hb : Below W.heap.size W w1) : (∀ b o, b < W.heap.size → w1.cell? ⟨b, o, none⟩ = W.cell? ⟨b, o, none⟩) ∧ (∀ b o, b < W.heap.size → w1.frozen? ⟨b, o, none⟩ = W.frozen? ⟨b, o, none⟩) :=
  ⟨fun b o h => hb.cell (p := ⟨b, o, none⟩) h, fun b o h => hb.frozen (p := ⟨b, o, none⟩) h⟩

theorem bnext {W w1 w2 : World} (h1 : Below W.heap.size W w1) (h2 : Below w1.heap.size w1 w2) : Below W.heap.size W w2 := h1.trans (h2.mono h1.size)
theorem two_boxes {w w1 w2 : World} {o : Obj} (h1 : Below (w.alloc o).heap.size (w.alloc o) w1) (h2 : Below w1.heap.size w1 w2) : Below w.heap.size w w2 :=
  ((box_below w o).trans (h1.mono (by simp))).trans (h2.mono (by have := h1.size; simp at this; omega))
theorem one_box {w w1 : World} {o : Obj} (h1 : Below (w.alloc o).heap.size (w.alloc o) w1) : Below w.heap.size w w1 :=
  (box_below w o).trans (h1.mono (by simp))

end Go.Proofs.YtkejninogmphhaaDoor
