/- Plain words on bytes and lists of bytes for terms (no program): which bytes a name, an IRI, a literal and a language may have, and how many of them a list begins with. -/
import Derived.WalkKit
namespace Go.Proofs.YtnfmjkinahbilaaDoor

/- tests on a byte or a rune, as a number -/
def smallZ (c : Int) : Bool := decide (97 ≤ c ∧ c ≤ 122)
def bigZ (c : Int) : Bool := decide (65 ≤ c ∧ c ≤ 90)
def digitZ (c : Int) : Bool := decide (48 ≤ c ∧ c ≤ 57)
def letterZ (c : Int) : Bool := smallZ c || bigZ c
def wordZ (c : Int) : Bool := letterZ c || digitZ c || decide (c = 95)
def nameZ (c k : Int) : Bool := letterZ c || (decide (0 < k) && (decide (c = 95) || digitZ c))
def litZ (c : Int) : Bool := decide (32 ≤ c ∧ c ≤ 126) || decide (c = 10) || decide (c = 9)
def markZ (c : Int) : Bool := decide (c = 60 ∨ c = 62 ∨ c = 34 ∨ c = 123 ∨ c = 125 ∨ c = 124 ∨ c = 94 ∨ c = 96 ∨ c = 92)
def iriZ (c : Int) : Bool := decide (33 ≤ c ∧ c ≤ 126) && !markZ c

theorem small_high {c : Int} (h : 128 ≤ c) : smallZ c = false := by simp [smallZ]; omega
theorem name_high {c k : Int} (h : 128 ≤ c) : nameZ c k = false := by
  simp [nameZ, letterZ, smallZ, bigZ, digitZ]; omega
theorem lit_high {c : Int} (h : 128 ≤ c) : litZ c = false := by simp [litZ]; omega
theorem iri_high {c : Int} (h : 128 ≤ c) : iriZ c = false := by
  simp [iriZ]; omega

/- how many elements a list begins with that meet a test which may ask for the place -/
def lead (p : Nat → Int → Bool) : Nat → List UInt8 → Nat
  | _, [] => 0
  | k, b :: r => if p k (b.toNat : Int) then lead p (k + 1) r + 1 else 0

theorem lead_le (p : Nat → Int → Bool) (k : Nat) (l : List UInt8) : lead p k l ≤ l.length := by
  induction l generalizing k with
  | nil => simp [lead]
  | cons b r ih => simp only [lead, List.length_cons]; split <;> have := ih (k + 1) <;> omega

theorem lead_drop_yes (p : Nat → Int → Bool) (l : List UInt8) (k : Nat) (h : k < l.length) (hp : p k (l[k].toNat : Int) = true) :
    lead p k (l.drop k) = lead p (k + 1) (l.drop (k + 1)) + 1 := by
  rw [List.drop_eq_getElem_cons h]; simp [lead, hp]
theorem lead_drop_no (p : Nat → Int → Bool) (l : List UInt8) (k : Nat) (h : k < l.length) (hp : p k (l[k].toNat : Int) = false) :
    lead p k (l.drop k) = 0 := by
  rw [List.drop_eq_getElem_cons h]; simp [lead, hp]
theorem lead_drop_end (p : Nat → Int → Bool) (l : List UInt8) (k : Nat) (h : l.length ≤ k) : lead p k (l.drop k) = 0 := by
  rw [List.drop_eq_nil_of_le h]; rfl

theorem ret_bool {a b : Bool} (h : a = b) : Ending.returned (.bool a) = .returned (.bool b) := by rw [h]
theorem ret_int {k : IntKind} {a b : Int} (h : a = b) : Ending.returned (.int k a) = .returned (.int k b) := by rw [h]

def nameLead (l : List UInt8) : Nat := lead (fun k c => decide (k < 32) && nameZ c k) 0 l
def iriLead (l : List UInt8) : Nat := lead (fun k c => decide (k < 4096) && iriZ c) 0 l
def langLead (l : List UInt8) : Nat := lead (fun k c => decide (k ≤ 8) && smallZ c) 0 l

def nameL (l : List UInt8) : Bool := !l.isEmpty && nameLead l == l.length
def iriL (l : List UInt8) : Bool := !l.isEmpty && iriLead l == l.length
def langL (l : List UInt8) : Bool := !l.isEmpty && langLead l == l.length && decide (l.length ≤ 8)
def litL (l : List UInt8) : Bool := decide (l.length ≤ 4096) && l.all fun b => litZ (b.toNat : Int)

def tagL (y z : List UInt8) : Bool := if z.isEmpty then y.isEmpty || iriL y else y.isEmpty && langL z
def bareL (y z : List UInt8) : Bool := y.isEmpty && z.isEmpty
def rightL (k : Int) (x y z : List UInt8) : Bool :=
  if k = 1 then bareL y z && iriL x else if k = 3 ∨ k = 4 then bareL y z && nameL x else if k = 2 then litL x && tagL y z else decide (k = 0) && x.isEmpty && bareL y z

end Go.Proofs.YtnfmjkinahbilaaDoor
