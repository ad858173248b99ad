/- The program answers: the statements' awake; what keeps worlds together. -/
import Derived.Test.YtkejninogmphhaaDoorLexWords
namespace Go.Proofs.YtkejninogmphhaaDoor
open Go.RowKit

def awakeS : List UInt8 := [63, 120, 32, 60, 61, 32, 49, 46, 53]
def awakeT : List TokL := [⟨2, [120], noTerm, 0⟩, ⟨5, [60, 61], noTerm, 3⟩, ⟨3, [], ⟨2, [49, 46, 53], decT, []⟩, 6⟩]
theorem awake_ans : lexS awakeS = (awakeT, 0, 0) := by rfl

theorem step_below {w w1 w2 : World} (h : Below w.heap.size w w1) (h2 : Below w1.heap.size w1 w2) : Below w.heap.size w w2 := h.trans (h2.mono h.size)
theorem draws_below {B : Nat} {a w : World} (h : Below B a w) (n : Nat) : Below B a (w.drewN n) := ⟨h.os, h.tape, h.output, h.size, h.block⟩

set_option maxHeartbeats 1000000 in
theorem awake_calls (w : World) : Calls Tryd.prog 9 #[] w fun e w' => e = .returned (.bool true) ∧ Below w.heap.size w w' := by
  go_enter Tryd.func9, Tryd.ntmps9
  go_wp2_with fail
  refine (Lex_calls _ _).mono ?_
  rintro e w1 ⟨v, rfl, hown, hb⟩
  rw [show (ByteArray.data ⟨#[63, 120, 32, 60, 61, 32, 49, 46, 53]⟩).toList = awakeS from rfl, awake_ans] at *
  dsimp only at *
  have hc := fun g hg => hown.cells (g := g) hg 8 (.string (bs [60, 61])) rfl
  have hd := fun g hg => hown.cells (g := g) hg 18 (.string (bs decT)) rfl
  rcases hown.2 with ⟨_, h0⟩ | ⟨g, cap, cur, rfl, hg0, hh, hn, hm, _⟩
  · simp [awakeT] at h0
  · have hcell : w1.cell? ⟨g, 8, none⟩ = some (.string ⟨#[60, 61]⟩) := by
      have := hc g rfl
      simp [Addr.add] at this
      exact this
    have hcell2 : w1.cell? ⟨g, 18, none⟩ = some (.string ⟨#[104, 116, 116, 112, 58, 47, 47, 119, 119, 119, 46, 119, 51, 46, 111, 114, 103, 47, 50, 48, 48, 49, 47, 88, 77, 76, 83, 99, 104, 101, 109, 97, 35, 100, 101, 99, 105, 109, 97, 108]⟩) := by
      have := hd g rfl
      simp [Addr.add] at this
      exact this
    clear hc hd hown hh hg0
    rw [show awakeT.length = 3 from rfl] at hn ⊢
    go_wp2
    go_ret
    exact ⟨rfl, hb⟩

end Go.Proofs.YtkejninogmphhaaDoor
