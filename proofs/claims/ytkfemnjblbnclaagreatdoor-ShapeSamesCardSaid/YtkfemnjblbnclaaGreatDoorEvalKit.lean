/- Small things for the walks of layer 10: a text held against those that types and truths have; the box of a term. -/
import Derived.Test.YtkfemnjblbnclaaGreatDoorGPlain
import Derived.Test.YtkfemnjblbnclaaGreatDoorBlkKit
import Derived.Test.YtkfemnjblbnclaaGreatDoorTripPlain
import Derived.Lib.Hide
namespace Go.Proofs.YtkfemnjblbnclaaGreatDoor
open Go.RowKit

theorem eqd (a b : List UInt8) : ((bs a).toList == b) = decide (a = b) := by
  rw [bs_toList, Bool.eq_iff_iff]; simp
theorem eqS (y : List UInt8) : ((bs y).toList == [104, 116, 116, 112, 58, 47, 47, 119, 119, 119, 46, 119, 51, 46, 111, 114, 103, 47, 50, 48, 48, 49, 47, 88, 77, 76, 83, 99, 104, 101, 109, 97, 35, 115, 116, 114, 105, 110, 103]) = decide (y = tyS) := eqd y tyS
theorem eqB (y : List UInt8) : ((bs y).toList == [104, 116, 116, 112, 58, 47, 47, 119, 119, 119, 46, 119, 51, 46, 111, 114, 103, 47, 50, 48, 48, 49, 47, 88, 77, 76, 83, 99, 104, 101, 109, 97, 35, 98, 111, 111, 108, 101, 97, 110]) = decide (y = tyB) := eqd y tyB
theorem eqI (y : List UInt8) : ((bs y).toList == [104, 116, 116, 112, 58, 47, 47, 119, 119, 119, 46, 119, 51, 46, 111, 114, 103, 47, 50, 48, 48, 49, 47, 88, 77, 76, 83, 99, 104, 101, 109, 97, 35, 105, 110, 116, 101, 103, 101, 114]) = decide (y = tyIL) := eqd y tyIL
theorem eqD (y : List UInt8) : ((bs y).toList == [104, 116, 116, 112, 58, 47, 47, 119, 119, 119, 46, 119, 51, 46, 111, 114, 103, 47, 50, 48, 48, 49, 47, 88, 77, 76, 83, 99, 104, 101, 109, 97, 35, 100, 101, 99, 105, 109, 97, 108]) = decide (y = tyDL) := eqd y tyDL
theorem eqT (x : List UInt8) : ((bs x).toList == [116, 114, 117, 101]) = decide (x = txT) := eqd x txT
theorem eqF (x : List UInt8) : ((bs x).toList == [102, 97, 108, 115, 101]) = decide (x = txF) := eqd x txF
theorem eqN (x : List UInt8) : (bs x).toList.isEmpty = x.isEmpty := by rw [bs_toList]
theorem emp_dec (x : List UInt8) : x.isEmpty = decide (x = []) := by cases x <;> rfl

theorem SI : tyS ≠ tyIL := by decide
theorem SD : tyS ≠ tyDL := by decide
theorem SB : tyS ≠ tyB := by decide
theorem BI : tyB ≠ tyIL := by decide
theorem BD : tyB ≠ tyDL := by decide
theorem ID : tyIL ≠ tyDL := by decide
theorem IB : tyIL ≠ tyB := by decide
theorem DB : tyDL ≠ tyB := by decide
theorem TF : txT ≠ txF := by decide
/- the six sorts of types -/
theorem type_cases (y : List UInt8) : y = [] ∨ y = tyS ∨ y = tyB ∨ y = tyIL ∨ y = tyDL ∨ (y ≠ [] ∧ y ≠ tyS ∧ y ≠ tyB ∧ y ≠ tyIL ∧ y ≠ tyDL) := by
  by_cases h0 : y = []
  · exact .inl h0
  by_cases h1 : y = tyS
  · exact .inr (.inl h1)
  by_cases h2 : y = tyB
  · exact .inr (.inr (.inl h2))
  by_cases h3 : y = tyIL
  · exact .inr (.inr (.inr (.inl h3)))
  by_cases h4 : y = tyDL
  · exact .inr (.inr (.inr (.inr (.inl h4))))
  exact .inr (.inr (.inr (.inr (.inr ⟨h0, h1, h2, h3, h4⟩))))

/- what is no error has texts that may be -/
def SzV (v : VL) : Prop := ∀ s, v = some s → s.ok
theorem sz_none : SzV none := fun _ h => by cases h
theorem sz_some {t : TermL} (h : t.ok) : SzV (some t) := fun s e => by cases e; exact h
theorem noTerm_ok : noTerm.ok := ⟨Nat.zero_le _, Nat.zero_le _, Nat.zero_le _⟩
theorem un_ok {v : VL} (h : SzV v) : (unV v).ok := by
  cases v with
  | none => exact noTerm_ok
  | some t => exact h t rfl
theorem lit_ok {x y : List UInt8} (hx : x.length ≤ maxLen) (hy : y.length ≤ maxLen) : (litT x y).ok := ⟨hx, hy, Nat.zero_le _⟩
theorem truth_ok (b : Bool) : (truthT b).ok := by
  have e : (4 : Nat) ≤ maxLen ∧ 5 ≤ maxLen ∧ 40 ≤ maxLen := by unfold maxLen; omega
  cases b
  · exact lit_ok e.2.1 e.2.2
  · exact lit_ok e.1 e.2.2
theorem sz_truth (b : Bool) : SzV (trueV b) := sz_some (truth_ok b)
theorem termV_eta (t : TermL) : t.v = .agg #[.int .i64 t.k, .string (bs t.x), .string (bs t.y), .string (bs t.z)] := rfl

end Go.Proofs.YtkfemnjblbnclaaGreatDoor
