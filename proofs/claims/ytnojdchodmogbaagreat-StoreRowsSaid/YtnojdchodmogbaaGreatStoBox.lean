/- A triple in a block of its own, or in a list's row: its cells, behind a call. -/
import Derived.Test.YtnojdchodmogbaaGreatStoCmp
import Derived.Test.YtnojdchodmogbaaGreatRefReads
namespace Go.Proofs.YtnojdchodmogbaaGreat
open Go.RowKit

theorem cells_on {W W' : World} {B g k : Nat} {t : TripL} (h : Cells12 W g k t) (hb : Below B W W') (hg : g < B) : Cells12 W' g k t := by
  obtain ⟨⟨c0, c1, c2, c3⟩, ⟨c4, c5, c6, c7⟩, ⟨c8, c9, c10, c11⟩⟩ := h
  exact ⟨⟨keptC c0 hb hg, keptC c1 hb hg, keptC c2 hb hg, keptC c3 hb hg⟩, ⟨keptC c4 hb hg, keptC c5 hb hg, keptC c6 hb hg, keptC c7 hb hg⟩, ⟨keptC c8 hb hg, keptC c9 hb hg, keptC c10 hb hg, keptC c11 hb hg⟩⟩
/- a triple in a block of its own -/
def Box12 (w : World) (g : Nat) (t : TripL) : Prop :=
  (w.cell? ⟨g, 0, none⟩ = some (.int .i64 t.s.k) ∧ w.cell? ⟨g, 1, none⟩ = some (.string (bs t.s.x)) ∧ w.cell? ⟨g, 2, none⟩ = some (.string (bs t.s.y)) ∧ w.cell? ⟨g, 3, none⟩ = some (.string (bs t.s.z))) ∧
  (w.cell? ⟨g, 4, none⟩ = some (.int .i64 t.p.k) ∧ w.cell? ⟨g, 5, none⟩ = some (.string (bs t.p.x)) ∧ w.cell? ⟨g, 6, none⟩ = some (.string (bs t.p.y)) ∧ w.cell? ⟨g, 7, none⟩ = some (.string (bs t.p.z))) ∧
  (w.cell? ⟨g, 8, none⟩ = some (.int .i64 t.o.k) ∧ w.cell? ⟨g, 9, none⟩ = some (.string (bs t.o.x)) ∧ w.cell? ⟨g, 10, none⟩ = some (.string (bs t.o.y)) ∧ w.cell? ⟨g, 11, none⟩ = some (.string (bs t.o.z)))
theorem box12_of {W : World} {X : Nat} {T : TypeId} {t : TripL} (h : Blk W X T (cells12 t)) : Box12 W X t := by
  refine ⟨⟨?_, ?_, ?_, ?_⟩, ⟨?_, ?_, ?_, ?_⟩, ⟨?_, ?_, ?_, ?_⟩⟩ <;> (rw [blk_cell h]; rfl)
theorem box_on {W W' : World} {B g : Nat} {t : TripL} (h : Box12 W g t) (hb : Below B W W') (hg : g < B) : Box12 W' g t := by
  obtain ⟨⟨c0, c1, c2, c3⟩, ⟨c4, c5, c6, c7⟩, ⟨c8, c9, c10, c11⟩⟩ := h
  exact ⟨⟨keptC c0 hb hg, keptC c1 hb hg, keptC c2 hb hg, keptC c3 hb hg⟩, ⟨keptC c4 hb hg, keptC c5 hb hg, keptC c6 hb hg, keptC c7 hb hg⟩, ⟨keptC c8 hb hg, keptC c9 hb hg, keptC c10 hb hg, keptC c11 hb hg⟩⟩


end Go.Proofs.YtnojdchodmogbaaGreat
