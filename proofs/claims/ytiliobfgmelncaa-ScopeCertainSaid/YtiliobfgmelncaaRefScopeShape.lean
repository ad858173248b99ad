
/- Which rows of operations are shaped, and where the operations begin whose result one makes: by the document's own answer. -/
import Derived.Test.YtiliobfgmelncaaScopePlains
import Derived.Test.YtiliobfgmelncaaRefScopeRight
namespace Go.Proofs.Ytiliobfgmelncaa
open Go.RowKit

/- a slice of operations, wherever it begins -/
structure OpsA (w : World) (a : Option Addr) (n c : Nat) (C : List OpL) : Prop where
  len : C.length = n
  cap : n ≤ c
  most : c ≤ maxLen
  cells : 0 < n → ∃ g o, a = some ⟨g, o, none⟩ ∧ g < w.heap.size ∧ ∀ j (h : j < C.length), ∃ A, Op7 w g (o + j * 7) C[j] A ∧ OpIn w C[j] A
theorem OpsA.on {w w' : World} {a : Option Addr} {n c : Nat} {C : List OpL} (h : OpsA w a n c C) (hb : Below w.heap.size w w') : OpsA w' a n c C := by
  refine ⟨h.len, h.cap, h.most, fun h0 => ?_⟩
  obtain ⟨g, o, ha, hg, hc⟩ := h.cells h0
  refine ⟨g, o, ha, Nat.lt_of_lt_of_le hg hb.size, fun j hj => ?_⟩
  obtain ⟨A, h1, h2⟩ := hc j hj
  exact ⟨A, h1.on hb hg, h2.on hb⟩

end Go.Proofs.Ytiliobfgmelncaa
