
/- Names in order, with one more: by the document's own answer. (Written by gen/mkmore7.py.) -/
import Derived.Test.YtiliobfgmelncaaScopePlains
import Derived.Test.YtiliobfgmelncaaRefScopeSmall
import Derived.Test.YtiliobfgmelncaaRefVars2
namespace Go.Proofs.Ytiliobfgmelncaa
open Go.RowKit

/- names that a call hands back: they lie in what is there -/
def NamesT (w : World) (M : List (List UInt8)) (e : Ending) (w' : World) : Prop := ∃ a c, e = .returned (.slice a M.length c) ∧ TxtA w' a M.length c M ∧ Below w.heap.size w w'
theorem txtA_own {w : World} {B : Nat} {v : Value} {M : List (List UInt8)} (h : w.ownsRow B 9 1 v M.length (textCells M)) : ∃ a c, v = .slice a M.length c ∧ TxtA w a M.length c M := by
  rcases reads_of h with ⟨rfl, h0⟩ | ⟨g, cap, rfl, hg, hc, hm, hr⟩
  · exact ⟨none, 0, by rw [h0], rfl, by rw [h0]; exact Nat.le_refl _, Nat.zero_le _, fun h => absurd h (by omega)⟩
  · exact ⟨_, _, rfl, rfl, hc, hm, fun _ => ⟨g, 0, rfl, hg, fun j hj => by rw [Nat.zero_add]; exact hr j _ (by simp [textCells, hj])⟩⟩
theorem own_start (w : World) : (w.alloc (.cells #[] 9)).ownsRow w.heap.size 9 1 (.slice (some ⟨w.heap.size, 0, none⟩) 0 0) ([] : List (List UInt8)).length (textCells []) := World.ownsRow_made (base := w.heap.size) (e := 9) (size := 1) w #[] 0 (Nat.le_refl _) (by unfold maxLen; omega) rfl
theorem textCells_two (O : List (List UInt8)) (x y : List UInt8) : textCells (O ++ [x] ++ [y]) = textCells O ++ [.string (bs x)] ++ [.string (bs y)] := by rw [textCells_append, textCells_append]; rfl

end Go.Proofs.Ytiliobfgmelncaa
