/- The order of terms as a plain function on bytes, and that it is an order (no program). -/
import Derived.Test.YtiliobfgmelncaaTermPlains
import Derived.Lib.Bytealg
namespace Go.Proofs.Ytiliobfgmelncaa
open Go.Lib (compareBytes)

theorem cb_range : ∀ a b : List UInt8, compareBytes a b = -1 ∨ compareBytes a b = 0 ∨ compareBytes a b = 1
  | [], [] => by simp [compareBytes]
  | [], _ :: _ => by simp [compareBytes]
  | _ :: _, [] => by simp [compareBytes]
  | a :: as, b :: bs => by
    have := cb_range as bs
    simp only [compareBytes]
    by_cases h1 : a < b
    · simp [h1]
    · by_cases h2 : b < a <;> simp [h1, h2, this]

theorem cb_zero : ∀ a b : List UInt8, compareBytes a b = 0 ↔ a = b
  | [], [] => by simp [compareBytes]
  | [], _ :: _ => by simp [compareBytes]
  | _ :: _, [] => by simp [compareBytes]
  | a :: as, b :: bs => by
    have := cb_zero as bs
    simp only [compareBytes, List.cons.injEq]
    split
    · rename_i h; simp; intro e; subst e; exact absurd h (UInt8.lt_irrefl a)
    · split
      · rename_i h; simp; intro e; subst e; exact absurd h (UInt8.lt_irrefl a)
      · rename_i h1 h2
        have e : a = b := UInt8.le_antisymm (UInt8.not_lt.1 h2) (UInt8.not_lt.1 h1)
        simp [e, this]

theorem cb_anti : ∀ a b : List UInt8, compareBytes b a = - compareBytes a b
  | [], [] => by simp [compareBytes]
  | [], _ :: _ => by simp [compareBytes]
  | _ :: _, [] => by simp [compareBytes]
  | a :: as, b :: bs => by
    have := cb_anti as bs
    simp only [compareBytes]
    by_cases h1 : a < b
    · have h2 : ¬ b < a := UInt8.not_lt.2 (UInt8.le_of_lt h1)
      simp [h1, h2]
    · by_cases h2 : b < a <;> simp [h1, h2, this]

theorem cb_trans : ∀ a b c : List UInt8, compareBytes a b ≤ 0 → compareBytes b c ≤ 0 → compareBytes a c ≤ 0
  | [], _, [] => by simp [compareBytes]
  | [], _, _ :: _ => by simp [compareBytes]
  | _ :: _, [], _ => by simp [compareBytes]
  | _ :: _, _ :: _, [] => by simp [compareBytes]
  | a :: as, b :: bs, c :: cs => by
    have ih := cb_trans as bs cs
    simp only [compareBytes]
    by_cases h1 : a < b
    · by_cases h2 : b < c
      · simp [h1, h2, UInt8.lt_trans h1 h2]
      · by_cases h3 : c < b
        · simp [h2, h3]
        · have e : b = c := UInt8.le_antisymm (UInt8.not_lt.1 h3) (UInt8.not_lt.1 h2)
          subst e; simp [h1]
    · by_cases h2 : b < a
      · simp [h1, h2]
      · have e : a = b := UInt8.le_antisymm (UInt8.not_lt.1 h2) (UInt8.not_lt.1 h1)
        subst e
        by_cases h3 : a < c
        · simp [h3]
        · by_cases h4 : c < a
          · simp [h3, h4]
          · simpa [h3, h4, h1] using ih

/- the order of terms: by kind, text, type, language -/
def termCmp (k : Int) (x y z : List UInt8) (k' : Int) (x' y' z' : List UInt8) : Int :=
  if k < k' then -1 else if k' < k then 1 else if compareBytes x x' ≠ 0 then compareBytes x x' else if compareBytes y y' ≠ 0 then compareBytes y y' else compareBytes z z'

theorem tc_range (k : Int) (x y z : List UInt8) (k' : Int) (x' y' z' : List UInt8) : termCmp k x y z k' x' y' z' = -1 ∨ termCmp k x y z k' x' y' z' = 0 ∨ termCmp k x y z k' x' y' z' = 1 := by
  have h1 := cb_range x x'; have h2 := cb_range y y'; have h3 := cb_range z z'
  unfold termCmp
  repeat' split
  all_goals first | omega | assumption | simp

theorem tc_zero (k : Int) (x y z : List UInt8) (k' : Int) (x' y' z' : List UInt8) : termCmp k x y z k' x' y' z' = 0 ↔ k = k' ∧ x = x' ∧ y = y' ∧ z = z' := by
  rw [← cb_zero x x', ← cb_zero y y', ← cb_zero z z']
  unfold termCmp
  repeat' split
  all_goals omega

theorem tc_anti (k : Int) (x y z : List UInt8) (k' : Int) (x' y' z' : List UInt8) : termCmp k' x' y' z' k x y z = - termCmp k x y z k' x' y' z' := by
  have h1 := cb_anti x x'; have h2 := cb_anti y y'; have h3 := cb_anti z z'
  unfold termCmp
  repeat' split
  all_goals omega

theorem tc_trans (k : Int) (x y z : List UInt8) (k' : Int) (x' y' z' : List UInt8) (k'' : Int) (x'' y'' z'' : List UInt8) (h : termCmp k x y z k' x' y' z' ≤ 0) (g : termCmp k' x' y' z' k'' x'' y'' z'' ≤ 0) : termCmp k x y z k'' x'' y'' z'' ≤ 0 := by
  have a1 := cb_trans x x' x''; have a2 := cb_trans y y' y''; have a3 := cb_trans z z' z''
  have b1 := cb_trans x' x'' x; have b2 := cb_trans y' y'' y; have b3 := cb_trans z' z'' z
  have c1 := cb_trans x'' x x'; have c2 := cb_trans y'' y y'; have c3 := cb_trans z'' z z'
  have d1 := cb_anti x x'; have d2 := cb_anti y y'; have d3 := cb_anti z z'
  have e1 := cb_anti x' x''; have e2 := cb_anti y' y''; have e3 := cb_anti z' z''
  have f1 := cb_anti x x''; have f2 := cb_anti y y''; have f3 := cb_anti z z''
  unfold termCmp at *
  repeat' split at h
  all_goals repeat' split at g
  all_goals repeat' split
  all_goals omega

end Go.Proofs.Ytiliobfgmelncaa
