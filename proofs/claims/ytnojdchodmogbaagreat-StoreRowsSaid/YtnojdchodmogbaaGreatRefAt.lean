/- The term at the first place of a name: the document's own answer. -/
import Derived.Test.YtnojdchodmogbaaGreatRefMatches
namespace Go.Proofs.YtnojdchodmogbaaGreat
open Go.RowKit

theorem at_ret (tm : Array Value) (W : World) (A : Nat) (t : TermL) (Q : Ending → World → Prop) (h6 : tm.getD 6 undef = .pointer (some ⟨A, 0, none⟩)) (hA : Blk W A 27 t.cells.toArray) (hQ : Q (.returned t.v) W) :
    bodyPost Tryz.prog Tryz.f53 Q Exit.ret { tmps := tm, defers := [] } W := by
  have q : ∀ i, W.cell? ⟨A, i, none⟩ = t.cells.toArray[i]? := fun i => blk_cell hA i
  have q0 : W.cell? ⟨A, 0, none⟩ = some (.int .i64 t.k) := q 0
  have q1 : W.cell? ⟨A, 1, none⟩ = some (.string (bs t.x)) := q 1
  have q2 : W.cell? ⟨A, 2, none⟩ = some (.string (bs t.y)) := q 2
  have q3 : W.cell? ⟨A, 3, none⟩ = some (.string (bs t.z)) := q 3
  have e6 : tm[6]?.getD undef = .pointer (some ⟨A, 0, none⟩) := by rw [← Array.getD_eq_getD_getElem?]; exact h6
  refine bodyPost_ret (v := t.v) (by unfold TermL.v; simp [results, Tryz.results53, e6, q0, q1, q2, q3, go_sem]) rfl hQ

theorem three_box (w : World) (o o2 o3 : Obj) : Below w.heap.size w (((w.alloc o).alloc o2).alloc o3) := (two_box w o o2).alloc (by simp; omega) o3
theorem txt_eq {a b : List UInt8} (h : ((bs a).toList == (bs b).toList) = true) : a = b := by rw [bs_toList, bs_toList] at h; exact eq_of_beq h
theorem txt_ne {a b : List UInt8} (h : ((bs a).toList == (bs b).toList) = false) : ¬ a = b := by rw [bs_toList, bs_toList] at h; exact beq_eq_false_iff_ne.1 h
section
variable {p t : TripL} {n : List UInt8}
def NotAt (a : TermL) (n : List UInt8) : Prop := ¬ (a.k = 4 ∧ a.x = n)
theorem not_at1 {a : TermL} (_ : a.k = 4) (h : ((bs a.x).toList == (bs n).toList) = false) : NotAt a n := fun c => txt_ne h c.2
theorem not_at2 {a : TermL} (h : ¬ a.k = 4) : NotAt a n := fun c => h c.1
theorem at_s (h : p.s.k = 4) (hx : ((bs p.s.x).toList == (bs n).toList) = true) : atName p t n = t.s := by unfold atName; rw [if_pos ⟨h, txt_eq hx⟩]
theorem at_p (h0 : NotAt p.s n) (h : p.p.k = 4) (hx : ((bs p.p.x).toList == (bs n).toList) = true) : atName p t n = t.p := by unfold atName; rw [if_neg h0, if_pos ⟨h, txt_eq hx⟩]
theorem at_o (h0 : NotAt p.s n) (h1 : NotAt p.p n) : atName p t n = t.o := by unfold atName; rw [if_neg h0, if_neg h1]
end
theorem at_end (tm : Array Value) (w : World) (o o2 : Obj) (p t : TripL) (n : List UInt8) (x : TermL) (hx : atName p t n = x) (h6 : tm.getD 6 undef = .pointer (some ⟨w.heap.size + 1 + 1, 0, none⟩)) :
    bodyPost Tryz.prog Tryz.f53 (fun e w' => e = .returned (atName p t n).v ∧ Below w.heap.size w w') Exit.ret { tmps := tm, defers := [] } (((w.alloc o).alloc o2).alloc (.cells #[.int .i64 x.k, .string (bs x.x), .string (bs x.y), .string (bs x.z)] 27)) := by
  refine at_ret tm _ (w.heap.size + 1 + 1) x _ h6 ?_ ⟨by rw [hx], three_box _ _ _ _⟩
  have h := blk_new ((w.alloc o).alloc o2) 27 x.cells.toArray
  have e : ((w.alloc o).alloc o2).heap.size = w.heap.size + 1 + 1 := by simp
  rw [e] at h
  exact h

set_option maxRecDepth 100000 in
set_option maxHeartbeats 4000000 in
theorem at_calls (p t : TripL) (n : List UInt8) (w : World) : Calls Tryz.prog 53 #[p.v, t.v, .string (bs n)] w fun e w' => e = .returned (atName p t n).v ∧ Below w.heap.size w w' := by
  simp only [TripL.v]
  go_enter Tryz.func53, Tryz.ntmps53
  go_wp2
  all_goals first
    | exact at_end _ w _ _ p t n t.s (at_s (by assumption) (by assumption)) (by first | rfl | simp)
    | exact at_end _ w _ _ p t n t.p (at_p (by first | exact not_at1 (by assumption) (by assumption) | exact not_at2 (by assumption)) (by assumption) (by assumption)) (by first | rfl | simp)
    | exact at_end _ w _ _ p t n t.o (at_o (by first | exact not_at1 (by assumption) (by assumption) | exact not_at2 (by assumption)) (by first | exact not_at1 (by assumption) (by assumption) | exact not_at2 (by assumption))) (by first | rfl | simp)

end Go.Proofs.YtnojdchodmogbaaGreat
