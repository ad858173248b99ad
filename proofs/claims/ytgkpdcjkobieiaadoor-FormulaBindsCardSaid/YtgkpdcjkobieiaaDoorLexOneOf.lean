
/- Which sign of a row of signs a text begins with: package lex's oneOf, for every text. -/
import Derived.Test.YtgkpdcjkobieiaaDoorLexLeaf
namespace Go.Proofs.YtgkpdcjkobieiaaDoor
open Go.RowKit

theorem ascii_step (row : ByteArray) (k : Nat) (h : k < row.size) (ha : (row[k]'h).toNat < 128) : (Utf8.decode row k).2 = 1 := by rw [decode_ascii row k h ha]

end Go.Proofs.YtgkpdcjkobieiaaDoor
