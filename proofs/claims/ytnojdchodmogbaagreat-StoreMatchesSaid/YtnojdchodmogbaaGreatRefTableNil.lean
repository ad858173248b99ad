/- Two tables of nothing are the same: the document's own answer tells so. -/
import Derived.Test.YtnojdchodmogbaaGreatRefReads
import Derived.Test.YtnojdchodmogbaaGreatStoRows
namespace Go.Proofs.YtnojdchodmogbaaGreat
open Go.RowKit

set_option maxHeartbeats 2000000 in
theorem sameTable_nil (w : World) : Calls Tryz.prog 26 #[noTable, noTable] w fun e w' => e = .returned (.bool true) ∧ Below w.heap.size w w' := by
  have ST := fun W => SameTexts_calls [] (.slice none 0 0) (.slice none 0 0) W (by decide) (.inl ⟨rfl, rfl⟩) (.inl ⟨rfl, rfl⟩)
  simp only [noTable]
  go_enter Tryz.func26, Tryz.ntmps26
  go_wp2_with fail
  refine (ST _).mono ?_
  rintro e w1 ⟨rfl, n, rfl⟩
  go_wp2
  go_loopw [5] (fun i wr => i = .int .i64 0 ∧ Below w.heap.size w wr ∧ wr.cell? ⟨w.heap.size, 1, none⟩ = some (.slice none 0 0)) (fun _ _ => 0)
  case atStart =>
    refine ⟨rfl, ?_, by simp [go_sem]⟩
    have h := ((Below.refl w.heap.size w).alloc (Nat.le_refl _) (.cells #[.slice none 0 0, .slice none 0 0] 56)).alloc (by simp) (.cells #[.slice none 0 0, .slice none 0 0] 56)
    first | exact drewN_below h _ | exact (drewN_below h _).drew | exact h
  case round =>
    obtain ⟨rfl, hb, hc⟩ := hrel
    go_wp2
    go_ret
    exact ⟨rfl, by first | exact hb | exact hb.drew⟩

end Go.Proofs.YtnojdchodmogbaaGreat
