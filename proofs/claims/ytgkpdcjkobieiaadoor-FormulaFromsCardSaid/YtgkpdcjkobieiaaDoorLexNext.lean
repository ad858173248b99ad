
/- The first word of a text from a place on: package lex's Next, for every text and every place. -/
import Derived.Test.YtgkpdcjkobieiaaDoorLexWord
namespace Go.Proofs.YtgkpdcjkobieiaaDoor
open Go.RowKit

def NextT (w : World) (l : List UInt8) (a : Nat) (e : Ending) (w' : World) : Prop := e = .returned (.tuple #[(nextS l a).1.v, .int .i64 (nextS l a).2.1, .int .i64 (nextS l a).2.2]) ∧ Below w.heap.size w w'
def NoneT (w : World) (e : Ending) (w' : World) : Prop := e = .returned (.tuple #[noTok.v, .int .i64 0, .int .i64 2]) ∧ Below w.heap.size w w'

end Go.Proofs.YtgkpdcjkobieiaaDoor
