
/- The names of a triple's variables, by the document's own answer; are two lists of texts the same? (the second part) -/
import Derived.Test.YtiliobfgmelncaaRefVars
import Derived.Deep.RegionHeld3
namespace Go.Proofs.Ytiliobfgmelncaa
open Go.RowKit

def MoreT (B : Nat) (W0 : World) (M : List (List UInt8)) (e : Ending) (w' : World) : Prop :=
  ∃ v, e = .returned v ∧ w'.ownsRow B 9 1 v M.length (textCells M) ∧ Below B W0 w'

theorem drewRow {w : World} {B size n : Nat} {e : TypeId} {v : Value} {xs : List Value} (h : w.ownsRow B e size v n xs) : w.drew.ownsRow B e size v n xs := h
theorem rowBase {w : World} {B B2 size n : Nat} {e : TypeId} {v : Value} {xs : List Value} (h : w.ownsRow B e size v n xs) (hb : B2 ≤ B) : w.ownsRow B2 e size v n xs := by
  refine ⟨h.1, ?_⟩
  rcases h.2 with h0 | ⟨g, cap, cur, hv, hg, r⟩
  · exact .inl h0
  · exact .inr ⟨g, cap, cur, hv, Nat.le_trans hb hg, r⟩
theorem keptB {W W' : World} {B b o : Nat} {v : Value} (h : W.cell? ⟨b, o, none⟩ = some v) (hb : Below B W W') (hp : b < B) : W'.cell? ⟨b, o, none⟩ = some v := by rw [hb.cell (p := ⟨b, o, none⟩) hp]; exact h

end Go.Proofs.Ytiliobfgmelncaa
