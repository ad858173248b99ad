
/- Names in order, of both, and those that are in both: by the document's own answer. (Written by gen/mkunion7.py.) -/
import Derived.Test.YtiliobfgmelncaaRefMore
namespace Go.Proofs.Ytiliobfgmelncaa
open Go.RowKit

theorem unionO_snoc (L M : List (List UInt8)) (x : List UInt8) : unionO L (M ++ [x]) = moreO (unionO L M) x := by
  induction M generalizing L with
  | nil => rfl
  | cons y r ih => rw [List.cons_append, unionO, ih, unionO]
theorem unionO_next {L M : List (List UInt8)} {k : Nat} (hk : k < M.length) : unionO L (M.take (k + 1)) = moreO (unionO L (M.take k)) M[k] := by rw [List.take_succ_eq_append_getElem hk, unionO_snoc]
theorem unionO_take (L M : List (List UInt8)) (k : Nat) : (unionO L (M.take k)).length ≤ L.length + M.length := by
  have h1 := unionO_length L (M.take k)
  have h2 : (M.take k).length ≤ M.length := by rw [List.length_take]; omega
  omega

theorem meetO_next_yes {L M : List (List UInt8)} {k : Nat} (hk : k < L.length) (h : L[k] ∈ M) : meetO (L.take (k + 1)) M = meetO (L.take k) M ++ [L[k]] := by
  unfold meetO
  rw [List.take_succ_eq_append_getElem hk, List.filter_append]
  simp [h]
theorem meetO_next_no {L M : List (List UInt8)} {k : Nat} (hk : k < L.length) (h : ¬ L[k] ∈ M) : meetO (L.take (k + 1)) M = meetO (L.take k) M := by
  unfold meetO
  rw [List.take_succ_eq_append_getElem hk, List.filter_append]
  simp [h]
theorem meetO_length (L M : List (List UInt8)) : (meetO L M).length ≤ L.length := List.length_filter_le _ _
theorem meetO_take (L M : List (List UInt8)) (k : Nat) : (meetO (L.take k) M).length ≤ L.length := by
  have h1 := meetO_length (L.take k) M
  rw [List.length_take] at h1
  omega

end Go.Proofs.Ytiliobfgmelncaa
