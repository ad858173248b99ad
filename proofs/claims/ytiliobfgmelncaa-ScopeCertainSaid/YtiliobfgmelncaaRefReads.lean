/- A slice that reads as given cells. -/
import Derived.Test.YtiliobfgmelncaaTripVars
import Derived.Deep.QuietTactic
import Derived.BigQuiet
namespace Go.Proofs.Ytiliobfgmelncaa
open Go.RowKit

/- a slice of n elements that reads as the cells xs -/
def Reads (w : World) (v : Value) (n : Nat) (xs : List Value) : Prop :=
  (v = .slice none 0 0 ∧ n = 0) ∨ ∃ g cap, v = .slice (some ⟨g, 0, none⟩) n cap ∧ g < w.heap.size ∧ n ≤ cap ∧ cap ≤ maxLen ∧ ∀ j u, xs[j]? = some u → w.cell? ⟨g, j, none⟩ = some u
theorem reads_of {w : World} {B size : Nat} {e : TypeId} {v : Value} {n : Nat} {xs : List Value} (h : w.ownsRow B e size v n xs) : Reads w v n xs := by
  rcases h.2 with h0 | ⟨g, cap, cur, hv, hg, hh, hn, hm, _⟩
  · exact .inl h0
  · refine .inr ⟨g, cap, hv, (Array.getElem?_eq_some_iff.1 hh).1, hn, hm, fun j u hj => ?_⟩
    have := h.cells (g := g) (by rw [hv]; rfl) j u hj
    cases j with
    | zero => simpa [Addr.add] using this
    | succ j => simpa [Addr.add] using this
theorem Reads.on {w w' : World} {v : Value} {n : Nat} {xs : List Value} (h : Reads w v n xs) (hb : Below w.heap.size w w') : Reads w' v n xs := by
  rcases h with h0 | ⟨g, cap, hv, hg, hn, hm, hc⟩
  · exact .inl h0
  · exact .inr ⟨g, cap, hv, Nat.lt_of_lt_of_le hg hb.size, hn, hm, fun j u hj => by rw [hb.cell (p := ⟨g, j, none⟩) hg]; exact hc j u hj⟩

end Go.Proofs.Ytiliobfgmelncaa
