
/- The program answers: the statements' awake; what keeps worlds together. -/
import Derived.Test.YtgkpdcjkobieiaaDoorLexWords
namespace Go.Proofs.YtgkpdcjkobieiaaDoor
open Go.RowKit

def awakeS : List UInt8 := [63, 120, 32, 60, 61, 32, 49, 46, 53]
def awakeT : List TokL := [⟨2, [120], noTerm, 0⟩, ⟨5, [60, 61], noTerm, 3⟩, ⟨3, [], ⟨2, [49, 46, 53], decT, []⟩, 6⟩]
theorem awake_ans : lexS awakeS = (awakeT, 0, 0) := by rfl

theorem step_below {w w1 w2 : World} (h : Below w.heap.size w w1) (h2 : Below w1.heap.size w1 w2) : Below w.heap.size w w2 := h.trans (h2.mono h.size)
theorem draws_below {B : Nat} {a w : World} (h : Below B a w) (n : Nat) : Below B a (w.drewN n) := ⟨h.os, h.tape, h.output, h.size, h.block⟩

end Go.Proofs.YtgkpdcjkobieiaaDoor
