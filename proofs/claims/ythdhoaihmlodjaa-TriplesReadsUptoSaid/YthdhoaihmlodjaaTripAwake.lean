/- The program answers: the statements' awake. -/
import Derived.Test.YthdhoaihmlodjaaTripRead
namespace Go.Proofs.Ythdhoaihmlodjaa
open Go.RowKit

def awakeS : List UInt8 := [60, 97, 62, 32, 60, 98, 62, 32, 34, 99, 34, 32, 46, 10]
def awakeT : TripL := ⟨⟨1, [97], [], []⟩, ⟨1, [98], [], []⟩, ⟨2, [99], [], []⟩⟩
theorem awake_ans : ansS awakeS = ([awakeT], 0, 0) := by rfl

set_option maxHeartbeats 1000000 in
theorem awake_calls (w : World) : Calls Try.prog 14 #[] w fun e w' => e = .returned (.bool true) ∧ Below w.heap.size w w' := by
  go_enter Try.func14, Try.ntmps14
  go_wp2_with fail
  refine (tRead_calls _ _ (by decide)).mono ?_
  rintro e w1 ⟨v, rfl, hown, hb⟩
  rw [show (ByteArray.data ⟨#[60, 97, 62, 32, 60, 98, 62, 32, 34, 99, 34, 32, 46, 10]⟩).toList = awakeS from rfl, awake_ans] at *
  dsimp only at *
  have hc := fun g hg => hown.cells (g := g) hg 9 (.string (bs [99])) rfl
  rcases hown.2 with ⟨_, h0⟩ | ⟨g, cap, cur, rfl, _⟩
  · simp at h0
  · have hcell : w1.cell? ⟨g, 9, none⟩ = some (.string ⟨#[99]⟩) := by
      have := hc g rfl
      simp [Addr.add] at this
      exact this
    clear hc hown
    rw [show ([awakeT] : List TripL).length = 1 from rfl]
    go_wp2
    go_ret
    exact ⟨rfl, hb⟩

end Go.Proofs.Ythdhoaihmlodjaa
