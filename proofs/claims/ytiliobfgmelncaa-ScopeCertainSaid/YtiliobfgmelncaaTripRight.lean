
/- Whether a triple is right, as a triple and as a pattern: package triples' Check and CheckPattern. -/
import Derived.Test.YtiliobfgmelncaaTripCheck
namespace Go.Proofs.Ytiliobfgmelncaa
open Go.RowKit

set_option maxHeartbeats 1000000 in
theorem tPattern_calls (t : TripL) (ht : t.ok) (w : World) :
    Calls Try.prog 41 #[t.v] w fun e w' => e = .returned (.int .i64 (formZ (patB t))) ∧ Below w.heap.size w w' := by
  have HT := Lib.hid ht
  clear ht
  obtain ⟨⟨k, x, y, z⟩, ⟨k', x', y', z'⟩, ⟨k'', x'', y'', z''⟩⟩ := t
  simp only [TripL.v]
  go_enter Try.func41, Try.ntmps41
  go_wp2_with fail
  refine (check_calls ⟨⟨k, x, y, z⟩, ⟨k', x', y', z'⟩, ⟨k'', x'', y'', z''⟩⟩ HT.out (w.heap.size + 1) (w.heap.size + 1 + 1) (w.heap.size + 1 + 1 + 1) [1, 4] [1, 4] [1, 2, 4] _ (by decide) (by decide) (by decide) ?_ ?_ ?_ (by simp <;> omega) (by simp <;> omega) (by simp <;> omega)).mono ?_
  · intro j hj
    rcases (show j = 0 ∨ j = 1 by simp at hj; omega) with rfl | rfl
    all_goals simp [go_sem, World.cell?_alloc_lt]
  · intro j hj
    rcases (show j = 0 ∨ j = 1 by simp at hj; omega) with rfl | rfl
    all_goals simp [go_sem, World.cell?_alloc_lt]
  · intro j hj
    rcases (show j = 0 ∨ j = 1 ∨ j = 2 by simp at hj; omega) with rfl | rfl | rfl
    all_goals simp [go_sem]
  rintro e w1 ⟨rfl, hb1⟩
  go_wp2
  go_ret
  exact ⟨rfl, ((((box_below _ _).alloc (by simp) _).alloc (by simp; omega) _).alloc (by simp; omega) _).trans (hb1.mono (by simp; omega))⟩

end Go.Proofs.Ytiliobfgmelncaa
