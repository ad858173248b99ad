
/- The variables of an operation that needs none: by the document's own answer. -/
import Derived.Test.YtiliobfgmelncaaRefUnion
import Derived.Test.YtiliobfgmelncaaRefScopeShape
namespace Go.Proofs.Ytiliobfgmelncaa
open Go.RowKit

def tpart (T : List TripL) : List (List UInt8) := T.foldl (fun acc t => unionO acc (varsL t)) []
theorem tpart_next {T : List TripL} {k : Nat} (hk : k < T.length) : tpart (T.take (k + 1)) = unionO (tpart (T.take k)) (varsL T[k]) := by
  unfold tpart
  rw [List.take_succ_eq_append_getElem hk, List.foldl_append]
  rfl
def kindAt (r : List TermL) (k : Nat) : Int := if h : k < r.length then r[k].k else 1
def lackZ (k : Nat) (r : List TermL) : Bool := kindAt r k == 0
theorem lack_next {R : List (List TermL)} {k j : Nat} (hj : j < R.length) : (R.take (j + 1)).any (lackZ k) = ((R.take j).any (lackZ k) || lackZ k R[j]) := by
  rw [List.take_succ_eq_append_getElem hj, List.any_append]
  simp
def vpart (R : List (List TermL)) (V : List (List UInt8)) (cert : Bool) (acc : List (List UInt8)) : Nat → List (List UInt8)
  | 0 => acc
  | k + 1 => if (!cert || !R.any (lackZ k)) = true then moreO (vpart R V cert acc k) (V.getD k []) else vpart R V cert acc k
theorem vpart_yes {R : List (List TermL)} {V : List (List UInt8)} {cert : Bool} {acc : List (List UInt8)} {k : Nat} (hk : k < V.length) (h : (!cert || !R.any (lackZ k)) = true) : vpart R V cert acc (k + 1) = moreO (vpart R V cert acc k) V[k] := by
  rw [vpart, if_pos h, List.getD_eq_getElem?_getD, List.getElem?_eq_getElem hk]; rfl
theorem vpart_no {R : List (List TermL)} {V : List (List UInt8)} {cert : Bool} {acc : List (List UInt8)} {k : Nat} (h : (!cert || !R.any (lackZ k)) = false) : vpart R V cert acc (k + 1) = vpart R V cert acc k := by
  rw [vpart, if_neg (by rw [h]; decide)]
theorem put_yes (c D : Bool) (h : (!c || !D) = true) : c = false ∨ (c = true ∧ D = false) := by cases c <;> cases D <;> simp_all
theorem put_no (c D : Bool) (h : (!c || !D) = false) : c = true ∧ D = true := by cases c <;> cases D <;> simp_all
def leafO (o : OpL) (cert : Bool) : List (List UInt8) := vpart o.R o.V cert (tpart o.T) o.V.length

end Go.Proofs.Ytiliobfgmelncaa
