
/- Pairs, written, by the document's own answer. -/
import Derived.Test.YtnfmjkinahbilaaDoorRPctEnc
import Derived.Test.YtnfmjkinahbilaaDoorPctMake
import Derived.Lib.QuietBelow
namespace Go.Proofs.YtnfmjkinahbilaaDoor
open Go.RowKit Go.Sort

theorem wr_first {L : List PairL} (h : 0 < L.length) : wrS (L.take 1) = wr1 L[0] := by
  cases L with
  | nil => simp at h
  | cons p r => simp [wrS]
theorem wr_next {L : List PairL} {k : Nat} (h : k < L.length) (h0 : 0 < k) : wrS (L.take (k + 1)) = wrS (L.take k) ++ 38 :: wr1 L[k] := by
  rw [List.take_succ_eq_append_getElem h]
  match hq : L.take k with
  | [] =>
    have := congrArg List.length hq
    rw [List.length_take, List.length_nil] at this
    omega
  | p :: r => exact wrS_more p r L[k]
theorem wr_bs (p : PairL) : bs (wr1 p) = bs (encS p.k) ++ ⟨#[61]⟩ ++ bs (encS p.v) := by
  show _ = bs (encS p.k) ++ bs [61] ++ bs (encS p.v)
  rw [bs_app, bs_app]; unfold wr1; simp
theorem wr_bs1 {L : List PairL} {k : Nat} (h : k < L.length) (h0 : k = 0) {O A B : ByteArray} (ho : bs (wrS (L.take k)) = O) (ha : bs (encS L[k].k) = A) (hb : bs (encS L[k].v) = B) : bs (wrS (L.take (k + 1))) = O ++ A ++ ⟨#[61]⟩ ++ B := by
  subst h0
  rw [wr_first h, ← ho, ← ha, ← hb]
  show _ = bs [] ++ bs (encS L[0].k) ++ bs [61] ++ bs (encS L[0].v)
  rw [bs_app, bs_app, bs_app]
  unfold wr1; simp
theorem wr_bs2 {L : List PairL} {k : Nat} (h : k < L.length) (h0 : 0 < k) {O A B : ByteArray} (ho : bs (wrS (L.take k)) = O) (ha : bs (encS L[k].k) = A) (hb : bs (encS L[k].v) = B) : bs (wrS (L.take (k + 1))) = O ++ ⟨#[38]⟩ ++ A ++ ⟨#[61]⟩ ++ B := by
  rw [wr_next h h0, ← ho, ← ha, ← hb]
  show _ = bs (wrS (L.take k)) ++ bs [38] ++ bs (encS L[k].k) ++ bs [61] ++ bs (encS L[k].v)
  rw [bs_app, bs_app, bs_app, bs_app]
  unfold wr1; simp

end Go.Proofs.YtnfmjkinahbilaaDoor
