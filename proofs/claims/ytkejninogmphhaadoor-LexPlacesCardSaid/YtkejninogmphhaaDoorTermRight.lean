
/- Which texts are names, IRIs, languages, literals' texts, and which terms are right: what package term's tests come to, for every text and term. -/
import Derived.Test.YtkejninogmphhaaDoorTermLead
namespace Go.Proofs.YtkejninogmphhaaDoor
open Go.RowKit

theorem lit_step (l : List UInt8) (k : Nat) (h : k < l.length) :
    (l.drop k).all (fun b => litZ (b.toNat : Int)) = (litZ (l[k].toNat : Int) && (l.drop (k + 1)).all fun b => litZ (b.toNat : Int)) := by
  rw [List.drop_eq_getElem_cons h]; rfl

end Go.Proofs.YtkejninogmphhaaDoor
