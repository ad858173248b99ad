
/- The pieces of a term that a text begins with: what package term's readers of brackets, types, languages and escapes come to, for every text. -/
import Derived.Test.YtgkpdcjkobieiaaDoorTermCheck
import Derived.Test.YtgkpdcjkobieiaaDoorTermPlains
namespace Go.Proofs.YtgkpdcjkobieiaaDoor
open Go.RowKit

theorem ret_si {a b : ByteArray} {m n : Int} (h : a = b) (g : m = n) : Ending.returned (.tuple #[.string a, .int .i64 m]) = .returned (.tuple #[.string b, .int .i64 n]) := by rw [h, g]

theorem len_ok {s : ByteArray} (h : s.size ≤ 281474976710656) : s.size ≤ maxLen := by unfold maxLen; omega

theorem drop_bs (s : ByteArray) (a : Nat) : s.extract a s.size = bs (s.data.toList.drop a) := bs_eq (by rw [Lib.extract_data, List.take_of_length_le]; rw [List.length_drop, ← Lib.size_eq]; exact Nat.le_refl _)
theorem piece_bs (s : ByteArray) (a b : Nat) : s.extract a b = bs ((s.data.toList.drop a).take (b - a)) := bs_eq (Lib.extract_data s a b)

theorem pre_le {s : ByteArray} {p : List UInt8} (h : Lib.hasPrefix s.data.toList p = true) : p.length ≤ s.size := by
  have := Lib.hasPrefix_le h; rw [Lib.size_eq]; exact this
theorem lead_le_size (p : Nat → Int → Bool) (s : ByteArray) (n : Nat) : lead p 0 (s.data.toList.drop n) ≤ s.size - n := by
  rw [Lib.size_eq]; exact lead_drop_le p _ n

theorem bracketS_size (s : ByteArray) (n : Nat) : (bracketS (s.data.toList.drop n)).2 ≤ s.size - n + 1 := by
  have := bracketS_le (s.data.toList.drop n); rw [List.length_drop, ← Lib.size_eq] at this; exact this

end Go.Proofs.YtgkpdcjkobieiaaDoor
