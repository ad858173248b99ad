/- What a reckoning's boxes hold while it goes on. -/
import Derived.Test.YtdoagbengfdcgaaDoorNumSpread
import Derived.Deep.RegionHeld3
namespace Go.Proofs.YtdoagbengfdcgaaDoor
open Go.RowKit

/- what the two boxes of a reckoning hold, and its result's, as long as all that was there stays -/
def boxed (w : World) (t : TypeId) (a b c a' b' c' x y z : Value) : World := ((w.alloc (.cells #[a, b, c] t)).alloc (.cells #[a', b', c'] t)).alloc (.cells #[x, y, z] t)
theorem boxes {w W : World} {a b c a' b' c' x y z : Value} {t : TypeId} (hB : Below (boxed w t a b c a' b' c' x y z).heap.size (boxed w t a b c a' b' c' x y z) W) :
    W.cell? ⟨w.heap.size, 0, none⟩ = some a ∧ W.cell? ⟨w.heap.size, 1, none⟩ = some b ∧ W.cell? ⟨w.heap.size, 2, none⟩ = some c ∧ W.cell? ⟨w.heap.size + 1, 0, none⟩ = some a' ∧ W.cell? ⟨w.heap.size + 1, 1, none⟩ = some b' ∧ W.cell? ⟨w.heap.size + 1, 2, none⟩ = some c' ∧
    (W.cell? ⟨w.heap.size + 1 + 1, 0, none⟩ = some x ∧ W.cell? ⟨w.heap.size + 1 + 1, 1, none⟩ = some y ∧ W.cell? ⟨w.heap.size + 1 + 1, 2, none⟩ = some z) ∧ (∀ i, W.frozen? ⟨w.heap.size + 1 + 1, i, none⟩ = false) := by
  unfold boxed at hB
  have h0 : ∀ i, W.cell? ⟨w.heap.size, i, none⟩ = (#[a, b, c] : Array Value)[i]? := fun i => by
    rw [hB.cell (p := ⟨w.heap.size, i, none⟩) (by simp; omega), World.cell?_alloc_past _ _ _ (by simp; omega), World.cell?_alloc_past _ _ _ (by simp), World.cell?_alloc_at _ _ _ _ rfl]
  have h1 : ∀ i, W.cell? ⟨w.heap.size + 1, i, none⟩ = (#[a', b', c'] : Array Value)[i]? := fun i => by
    rw [hB.cell (p := ⟨w.heap.size + 1, i, none⟩) (by simp), World.cell?_alloc_past _ _ _ (by simp), World.cell?_alloc_at _ _ _ _ (by simp)]
  have h2 : ∀ i, W.cell? ⟨w.heap.size + 1 + 1, i, none⟩ = (#[x, y, z] : Array Value)[i]? := fun i => by
    rw [hB.cell (p := ⟨w.heap.size + 1 + 1, i, none⟩) (by simp), World.cell?_alloc_at _ _ _ _ (by simp)]
  have h3 : ∀ i, W.frozen? ⟨w.heap.size + 1 + 1, i, none⟩ = false := fun i => by
    rw [hB.frozen (p := ⟨w.heap.size + 1 + 1, i, none⟩) (by simp), World.frozen?_alloc_at _ _ _ _ (by simp)]
  exact ⟨h0 0, h0 1, h0 2, h1 0, h1 1, h1 2, ⟨h2 0, h2 1, h2 2⟩, h3⟩
theorem boxed_size {w : World} {a b c a' b' c' x y z : Value} {t : TypeId} : (boxed w t a b c a' b' c' x y z).heap.size = w.heap.size + 3 := by simp [boxed]
theorem boxed_below {w W : World} {a b c a' b' c' x y z : Value} {t : TypeId} (hB : Below (boxed w t a b c a' b' c' x y z).heap.size (boxed w t a b c a' b' c' x y z) W) : Below w.heap.size w W := by
  have h : Below w.heap.size w (boxed w t a b c a' b' c' x y z) := (((Below.refl _ _).alloc (Nat.le_refl _) _).alloc (by simp) _).alloc (by simp; omega) _
  exact h.trans (hB.mono (by rw [boxed_size]; omega))

def decOf (d d' : Bool) : Bool := d || d'

end Go.Proofs.YtdoagbengfdcgaaDoor
