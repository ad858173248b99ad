/- A triple in plain words: when it is right, as a triple and as a pattern; the names of its variables. No program. -/
import Derived.Test.YtkfemnjblbnclaaGreatDoorGPlain
namespace Go.Proofs.YtkfemnjblbnclaaGreatDoor

def TermL.right (t : TermL) : Bool := rightL t.k t.x t.y t.z
def TermL.ok (t : TermL) : Prop := (bs t.x).size ≤ maxLen ∧ (bs t.y).size ≤ maxLen ∧ (bs t.z).size ≤ maxLen

structure TripL where
  s : TermL
  p : TermL
  o : TermL
/- its cells, side by side -/
def TripL.v (t : TripL) : Value := .agg #[.int .i64 t.s.k, .string (bs t.s.x), .string (bs t.s.y), .string (bs t.s.z), .int .i64 t.p.k, .string (bs t.p.x), .string (bs t.p.y), .string (bs t.p.z), .int .i64 t.o.k, .string (bs t.o.x), .string (bs t.o.y), .string (bs t.o.z)]
def TripL.ok (t : TripL) : Prop := t.s.ok ∧ t.p.ok ∧ t.o.ok

/- a term of one of the kinds, that is right -/
def placeB (K : List Int) (t : TermL) : Bool := K.contains t.k && t.right
def checkB (K0 K1 K2 : List Int) (t : TripL) : Bool := placeB K0 t.s && (placeB K1 t.p && placeB K2 t.o)
def tripB (t : TripL) : Bool := checkB [1, 3] [1] [1, 3, 2] t
def patB (t : TripL) : Bool := checkB [1, 4] [1, 4] [1, 2, 4] t

/- a name more, if the term is a variable that is not among them -/
def moreL (l : List (List UInt8)) (t : TermL) : List (List UInt8) := if t.k = 4 ∧ ¬ t.x ∈ l then l ++ [t.x] else l
def varsL (t : TripL) : List (List UInt8) := moreL (moreL (moreL [] t.s) t.p) t.o

theorem moreL_length (l : List (List UInt8)) (t : TermL) : (moreL l t).length ≤ l.length + 1 := by
  unfold moreL; split <;> simp
theorem varsL_length (t : TripL) : (varsL t).length ≤ 3 := by
  unfold varsL
  have h1 := moreL_length [] t.s
  have h2 := moreL_length (moreL [] t.s) t.p
  have h3 := moreL_length (moreL (moreL [] t.s) t.p) t.o
  simp at h1; omega

/- the texts' cells -/
def textCells (l : List (List UInt8)) : List Value := l.map fun x => .string (bs x)
theorem textCells_length (l : List (List UInt8)) : (textCells l).length = l.length := by simp [textCells]
theorem textCells_append (l r : List (List UInt8)) : textCells (l ++ r) = textCells l ++ textCells r := by simp [textCells]

end Go.Proofs.YtkfemnjblbnclaaGreatDoor
