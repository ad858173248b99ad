
/- All words of a text: package lex's words and Lex, for every text. -/
import Derived.Test.YtgkpdcjkobieiaaDoorLexRows
namespace Go.Proofs.YtgkpdcjkobieiaaDoor
open Go.RowKit

/- what a round keeps: the words so far, the place -/
def WordsR (w : World) (l : List UInt8) (f : Nat) (v a c b : Value) (wr : World) : Prop :=
  ∃ (T : List TokL) (p : Nat), a = .int .i64 p ∧ c = .int .i64 T.length ∧ b = .int .i64 0 ∧ wr.ownsRow w.heap.size 35 7 v T.length (tokCells T) ∧ Below w.heap.size w wr ∧ Hid (Run5 l T f p) ∧ p ≤ l.length ∧ T.length ≤ p ∧ l.length - p < f

end Go.Proofs.YtgkpdcjkobieiaaDoor
