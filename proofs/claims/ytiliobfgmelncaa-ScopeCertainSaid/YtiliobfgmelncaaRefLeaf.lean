
/- What the document's own answers for bytes and texts come to (names, IRIs, languages, literals' texts): plain tests of all bytes, for every text. -/
import Derived.Test.YtiliobfgmelncaaTermRight
namespace Go.Proofs.Ytiliobfgmelncaa
open Go.RowKit

def hasB (b : Int) (l : List UInt8) : Bool := l.any fun c => decide ((c.toNat : Int) = b)
def allB (p : Int → Bool) (l : List UInt8) : Bool := l.all fun c => p (c.toNat : Int)
theorem hasB_step (b : Int) (l : List UInt8) (k : Nat) (h : k < l.length) : hasB b (l.drop k) = (decide ((l[k].toNat : Int) = b) || hasB b (l.drop (k + 1))) := by
  rw [List.drop_eq_getElem_cons h]; rfl
theorem hasB_end (b : Int) (l : List UInt8) (k : Nat) (h : l.length ≤ k) : hasB b (l.drop k) = false := by
  rw [List.drop_eq_nil_of_le h]; rfl
theorem allB_step (p : Int → Bool) (l : List UInt8) (k : Nat) (h : k < l.length) : allB p (l.drop k) = (p (l[k].toNat : Int) && allB p (l.drop (k + 1))) := by
  rw [List.drop_eq_getElem_cons h]; rfl
theorem allB_end (p : Int → Bool) (l : List UInt8) (k : Nat) (h : l.length ≤ k) : allB p (l.drop k) = true := by
  rw [List.drop_eq_nil_of_le h]; rfl
theorem get_list (s : ByteArray) (k : Nat) (h : k < s.size) : (s.data.toList[k]'(by simpa using h)) = s[k]'h := by simp; rfl

def betw (f b t : Int) : Bool := decide (f ≤ b ∧ b ≤ t)

theorem mark_has (b : Int) : hasB b [60, 62, 34, 123, 125, 124, 94, 96, 92] = markZ b := by
  rw [Bool.eq_iff_iff]; simp [hasB, markZ]; omega

theorem iriZ_atoms (c : Int) : iriZ c = (betw 33 c 126 && !markZ c) := by
  rw [Bool.eq_iff_iff]; simp [iriZ, betw] <;> omega

theorem litZ_atoms (c : Int) : litZ c = (betw 32 c 126 || (c == 10) || (c == 9)) := by
  rw [Bool.eq_iff_iff]; simp [litZ, betw] <;> omega

theorem wordZ_atoms (c : Int) : wordZ c = (betw 97 c 122 || betw 65 c 90 || betw 48 c 57 || (c == 95)) := by
  rw [Bool.eq_iff_iff]; simp [wordZ, betw, letterZ, smallZ, bigZ, digitZ] <;> omega

theorem smallZ_atoms (c : Int) : smallZ c = (betw 97 c 122) := by
  rw [Bool.eq_iff_iff]; simp [smallZ, betw] <;> omega

end Go.Proofs.Ytiliobfgmelncaa
