
/- How many letters, digits and blanks a text begins with; where the next word must begin: package lex's small functions, for every text. Which sign of a row of signs a text begins with: package lex's oneOf, for every text. The sign that a text begins with; a full stop and the digits behind it: package lex's signAhead and placesAhead, for every text. -/
import Derived.Test.YtgkpdcjkobieiaaDoorLexPlain2
import Derived.Test.YtgkpdcjkobieiaaDoorTermAheads
import Derived.Shelf.Strings.SlTrimAscii
namespace Go.Proofs.YtgkpdcjkobieiaaDoor
open Go.RowKit

end Go.Proofs.YtgkpdcjkobieiaaDoor

namespace Go.Proofs.YtgkpdcjkobieiaaDoor
open Go.RowKit

theorem ascii_step (row : ByteArray) (k : Nat) (h : k < row.size) (ha : (row[k]'h).toNat < 128) : (Utf8.decode row k).2 = 1 := by rw [decode_ascii row k h ha]

end Go.Proofs.YtgkpdcjkobieiaaDoor

namespace Go.Proofs.YtgkpdcjkobieiaaDoor
open Go.RowKit

theorem double_ascii : ∀ k (h : k < (ByteArray.mk #[60, 61, 62, 61, 33, 61, 38, 38, 124, 124]).size), ((ByteArray.mk #[60, 61, 62, 61, 33, 61, 38, 38, 124, 124])[k]'h).toNat < 128 := by decide
theorem single_ascii : ∀ k (h : k < (ByteArray.mk #[123, 125, 40, 41, 46, 44, 42, 43, 45, 47, 61, 60, 62, 33]).size), ((ByteArray.mk #[123, 125, 40, 41, 46, 44, 42, 43, 45, 47, 61, 60, 62, 33])[k]'h).toNat < 128 := by decide

end Go.Proofs.YtgkpdcjkobieiaaDoor
