/- A term as an argument: how it is opened into its four fields, and how it reads again behind the call. -/
import Derived.Test.YtnojdchodmogbaaRows
import Derived.ProofKit
import Derived.SizedLaws
import Derived.Lib.SmallJoins
namespace Go.Proofs.Ytnojdchodmogbaa
open Go.ChangeShapes Go.WideShapes Go.ChangeAt Go.RowKit Go.Joins
open Go.ChangeMaps (open_string shut_string)

set_option maxRecDepth 100000 in
theorem Try.own : ownKnob Try.prog.godebug = none := by kernel_rfl
set_option maxRecDepth 100000 in
theorem Try.cellsTerm : Try.prog.cellsOf 23 = 4 := by kernel_rfl

section
variable {H : Type} {enc : TypeId × Value → H}
/- a term's datum -/
def termD (k : Int) (x y z : ByteArray) : DataW H := .agg [.lit (.int .i64 k), .lit (.string x.data.toList), .lit (.string y.data.toList), .lit (.string z.data.toList)]

set_option maxRecDepth 100000 in
theorem open_term {W : World} {base b0 : Nat} {spare : Nat → Bool} {held : Bool} {v : Value} {d : DataW H} {p : List MemPlace} (hv : Value.okWide Try.prog W .any b0 23 v) (h : DataW.Trod enc Try.prog W base spare held 23 v d p) :
    ∃ (k : Int) (x y z : ByteArray), v = .agg #[.int .i64 k, .string x, .string y, .string z] ∧ d = termD k x y z ∧ p = [] ∧ (Lit.int .i64 k).wf = true ∧ x.size ≤ maxLen ∧ y.size ≤ maxLen ∧ z.size ≤ maxLen := by
  obtain ⟨c0, c1, c2, c3, y0, y1, y2, y3, m, rfl, rfl, rfl, h0, h1, h2, h3⟩ := open_agg4 Try.underlying23 (by kernel_rfl) Try.cellsTerm hv h
  obtain ⟨k, e0, rfl, wk⟩ := DataW.trod_int Try.underlying3 h0
  obtain ⟨x, e1, rfl, wx⟩ := DataW.trod_string Try.underlying9 h1
  obtain ⟨y, e2, rfl, wy⟩ := DataW.trod_string Try.underlying9 h2
  obtain ⟨z, e3, rfl, wz⟩ := DataW.trod_string Try.underlying9 h3
  simp at e0 e1 e2 e3
  subst e0 e1 e2 e3
  exact ⟨k, x, y, z, rfl, rfl, rfl, wk, wx, wy, wz⟩

set_option maxRecDepth 100000 in
theorem shut_term {k : Int} {x y z : ByteArray} (wk : (Lit.int .i64 k).wf = true) (wx : x.size ≤ maxLen) (wy : y.size ≤ maxLen) (wz : z.size ≤ maxLen) (W : World) (base : Nat) (spare : Nat → Bool) (held : Bool) :
    DataW.Trod enc Try.prog W base spare held 23 (.agg #[.int .i64 k, .string x, .string y, .string z]) (termD k x y z) [] :=
  shut_agg4 (y0 := (.lit (.int .i64 k), [])) (y1 := (.lit (.string x.data.toList), [])) (y2 := (.lit (.string y.data.toList), [])) (y3 := (.lit (.string z.data.toList), [])) Try.underlying23 (by kernel_rfl) Try.cellsTerm
    ⟨1, by simp [DataW.trod, Try.underlying3, wk]⟩ ⟨1, by simp [DataW.trod, Try.underlying9, wx]⟩ ⟨1, by simp [DataW.trod, Try.underlying9, wy]⟩ ⟨1, by simp [DataW.trod, Try.underlying9, wz]⟩
end

/- a call of values without memory that leaves all that was there as it was meets what its row asks behind it -/
set_option maxRecDepth 100000 in
theorem post_kept {H : Type} {enc : TypeId × Value → H} {P : Program} {f : Func} {s : ChangeSpec} {apart fresh handsOn : Bool} {W W' : World} {args : Array Value} {v : Value} {ds gs : List (DataW H)}
    (hW : DataW.Whole enc P f.params.toList s.vars apart W args.toList ds gs [])
    (hres : ∀ (b : Nat) (sp : Nat → Bool) (hd : Bool), DataW.TrodAll enc P W' b sp hd f.resultTypes.toList (v.resultList f.resultTypes.size) (s.fn H (ds ++ gs)).results [])
    (hargs : ∀ sp : Nat → Bool, DataW.TrodAll enc P W' 0 sp true f.params.toList args.toList (s.fn H (ds ++ gs)).args [])
    (hvars : ∀ sp : Nat → Bool, DataW.TrodVars enc P W' sp s.vars (s.fn H (ds ++ gs)).vars [])
    (hb : Below W.heap.size W W') : s.post enc P f apart fresh handsOn false W args v W' :=
  ⟨ds, gs, [], [], [], [], hW, hres _ _ _, hargs _, hvars _, hb.frame _, fun h => by cases h⟩

end Go.Proofs.Ytnojdchodmogbaa
