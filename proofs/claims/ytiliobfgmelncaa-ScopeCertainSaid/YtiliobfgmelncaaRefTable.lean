
/- Which tables are right, by the document's own answer. -/
import Derived.Test.YtiliobfgmelncaaRefScopeSmall
import Derived.Deep.QuietTactic
import Derived.BigQuiet
namespace Go.Proofs.Ytiliobfgmelncaa
open Go.RowKit

theorem drew_below {B : Nat} {a w : World} (h : Below B a w) (n : Nat) : Below B a (w.drewN n) := ⟨h.os, h.tape, h.output, h.size, h.block⟩
/- where the table's two slices stand in a box of their own -/
def TabIn (w : World) (vs rs : Value) (wr : World) : Prop := wr.cell? ⟨w.heap.size, 0, none⟩ = some vs ∧ wr.cell? ⟨w.heap.size, 1, none⟩ = some rs ∧ Below w.heap.size w wr ∧ w.heap.size < wr.heap.size
theorem TabIn.on {w wr wr' : World} {vs rs : Value} (h : TabIn w vs rs wr) (hb : Below wr.heap.size wr wr') : TabIn w vs rs wr' := by
  obtain ⟨h0, h1, h2, h3⟩ := h
  exact ⟨(hb.cell (p := ⟨_, _, none⟩) h3).trans h0, (hb.cell (p := ⟨_, _, none⟩) h3).trans h1, h2.trans (hb.mono (Nat.le_of_lt h3)), Nat.lt_of_lt_of_le h3 hb.size⟩
theorem TabIn.drew {w wr : World} {vs rs : Value} (h : TabIn w vs rs wr) (n : Nat) : TabIn w vs rs (wr.drewN n) := h.on (drew_below (Below.refl _ _) n)
theorem TabIn.new (w : World) (vs rs : Value) (T : TypeId) : TabIn w vs rs (w.alloc (.cells #[vs, rs] T)) := by
  have hb := blk_new w T #[vs, rs]
  exact ⟨by rw [blk_cell hb]; rfl, by rw [blk_cell hb]; rfl, box_below _ _, by simp⟩
theorem tableB_long {V : List (List UInt8)} {R : List (List TermL)} (h : 32 < V.length ∨ 64 < R.length) : tableB V R = false := by
  unfold tableB
  rcases h with h | h
  · rw [decide_eq_false (show ¬ V.length ≤ 32 by omega)]; simp
  · rw [decide_eq_false (show ¬ R.length ≤ 64 by omega)]; simp
theorem tableB_names {V : List (List UInt8)} {R : List (List TermL)} (h : namesB [] V = false) : tableB V R = false := by unfold tableB; rw [h]; simp
theorem tableB_rows {V : List (List UInt8)} {R : List (List TermL)} (h : rowsB V.length R = false) : tableB V R = false := by unfold tableB; rw [h]; simp
theorem tableB_yes {V : List (List UInt8)} {R : List (List TermL)} (h1 : V.length ≤ 32) (h2 : R.length ≤ 64) (h3 : namesB [] V = true) (h4 : rowsB V.length R = true) : tableB V R = true := by unfold tableB; rw [h3, h4, decide_eq_true h1, decide_eq_true h2]; rfl
def rowZ (n : Nat) (r : List TermL) : Bool := decide (r.length = n) && r.all valueZ
theorem rowsB_eq (n : Nat) (R : List (List TermL)) : rowsB n R = R.all (rowZ n) := rfl

end Go.Proofs.Ytiliobfgmelncaa
