/- A struct By as an argument: how it is opened. -/
import Derived.Test.YtdnfaoanaehjhaaGreatDoorH30
namespace Go.Proofs.YtdnfaoanaehjhaaGreatDoor
open Go.ChangeShapes Go.WideShapes Go.ChangeAt Go.RowKit Go.Joins Go.Deep

set_option maxRecDepth 100000 in
theorem Tryz.cellsBy : Tryz.prog.cellsOf 53 = 2 := by kernel_rfl
section
variable {H : Type} {enc : TypeId × Value → H}
set_option maxRecDepth 100000 in
theorem open_by {W : World} {base n : Nat} {spare : Nat → Bool} {held : Bool} {l : List Value} {y : DataW H × List MemPlace} (hlen : l.length = 2) (h : DataW.trod enc Tryz.prog W base spare held n 53 l = some y) :
    ∃ a n cap L u, l = [.slice a n cap, .int .i64 u] ∧ TxtA W a n cap L ∧ ∀ x ∈ L, okS x := by
  match l, hlen with
  | [c0, c1], _ =>
    obtain ⟨zs, n2, _, _, _, hlen2, hg2⟩ := DataW.trod_struct Tryz.underlying53 h
    match zs, hlen2 with
    | [z0, z1], _ =>
      have k0 := hg2 0 _ rfl
      have k1 := hg2 1 _ rfl
      simp only [List.getElem?_cons_zero, List.getElem?_cons_succ] at k0 k1
      replace k0 : DataW.trod enc Tryz.prog W base spare held n2 22 [c0] = some z0 := k0
      replace k1 : DataW.trod enc Tryz.prog W base spare held n2 3 [c1] = some z1 := k1
      obtain ⟨a, k, cap, L, rfl, hL, hLo⟩ := open_txt k0
      obtain ⟨u, e1, _, _⟩ := DataW.trod_int Tryz.underlying3 k1
      simp at e1
      subst e1
      exact ⟨a, k, cap, L, u, rfl, hL, hLo⟩
end

end Go.Proofs.YtdnfaoanaehjhaaGreatDoor
