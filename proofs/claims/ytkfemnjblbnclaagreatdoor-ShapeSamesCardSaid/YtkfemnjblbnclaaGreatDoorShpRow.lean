/- A term as an argument; the listed tables; a world that holds them (written by gen/mkrow12.py). -/
import Derived.Test.YtkfemnjblbnclaaGreatDoorRows
import Derived.Test.YtkfemnjblbnclaaGreatDoorShpCells
import Derived.Test.YtkfemnjblbnclaaGreatDoorGNumA
import Derived.Test.YtkfemnjblbnclaaGreatDoorTripPlain
import Derived.ProofKit
import Derived.OpenShut
import Derived.SizedLaws
import Derived.Lib.SmallJoins
import Derived.Lib.LaidTab
import Derived.Stop.LaidErr
import Derived.MakeChecks
import Derived.Deep.DeepHandedRow
namespace Go.Proofs.YtkfemnjblbnclaaGreatDoor
open Go.ChangeShapes Go.WideShapes Go.ChangeAt Go.RowKit Go.Joins
open Go.ChangeMaps (open_string shut_string)

set_option maxRecDepth 100000 in
theorem Tryz.own : ownKnob Tryz.prog.godebug = none := by kernel_rfl

section
variable {H : Type} {enc : TypeId × Value → H}
/- a term's datum -/
def termD (k : Int) (x y z : ByteArray) : DataW H := .agg [.lit (.int .i64 k), .lit (.string x.data.toList), .lit (.string y.data.toList), .lit (.string z.data.toList)]

set_option maxRecDepth 100000 in
theorem open_term {W : World} {base b0 : Nat} {spare : Nat → Bool} {held : Bool} {v : Value} {d : DataW H} {p : List MemPlace} (hv : Value.okWide Tryz.prog W .any b0 23 v) (h : DataW.Trod enc Tryz.prog W base spare held 23 v d p) :
    ∃ (k : Int) (x y z : ByteArray), v = .agg #[.int .i64 k, .string x, .string y, .string z] ∧ d = termD k x y z ∧ p = [] ∧ (Lit.int .i64 k).wf = true ∧ x.size ≤ maxLen ∧ y.size ≤ maxLen ∧ z.size ≤ maxLen := by
  obtain ⟨c0, c1, c2, c3, y0, y1, y2, y3, m, rfl, rfl, rfl, h0, h1, h2, h3⟩ := open_agg4 Tryz.underlying23 (by kernel_rfl) Tryz.cellsTerm hv h
  obtain ⟨k, e0, rfl, wk⟩ := DataW.trod_int Tryz.underlying3 h0
  obtain ⟨x, e1, rfl, wx⟩ := DataW.trod_string Tryz.underlying9 h1
  obtain ⟨y, e2, rfl, wy⟩ := DataW.trod_string Tryz.underlying9 h2
  obtain ⟨z, e3, rfl, wz⟩ := DataW.trod_string Tryz.underlying9 h3
  simp at e0 e1 e2 e3
  subst e0 e1 e2 e3
  exact ⟨k, x, y, z, rfl, rfl, rfl, wk, wx, wy, wz⟩

set_option maxRecDepth 100000 in
theorem shut_term {k : Int} {x y z : ByteArray} (wk : (Lit.int .i64 k).wf = true) (wx : x.size ≤ maxLen) (wy : y.size ≤ maxLen) (wz : z.size ≤ maxLen) (W : World) (base : Nat) (spare : Nat → Bool) (held : Bool) :
    DataW.Trod enc Tryz.prog W base spare held 23 (.agg #[.int .i64 k, .string x, .string y, .string z]) (termD k x y z) [] :=
  shut_agg4 (y0 := (.lit (.int .i64 k), [])) (y1 := (.lit (.string x.data.toList), [])) (y2 := (.lit (.string y.data.toList), [])) (y3 := (.lit (.string z.data.toList), [])) Tryz.underlying23 (by kernel_rfl) Tryz.cellsTerm
    ⟨1, by simp [DataW.trod, Tryz.underlying3, wk]⟩ ⟨1, by simp [DataW.trod, Tryz.underlying9, wx]⟩ ⟨1, by simp [DataW.trod, Tryz.underlying9, wy]⟩ ⟨1, by simp [DataW.trod, Tryz.underlying9, wz]⟩
end

theorem bs_back (x : ByteArray) : bs x.data.toList = x := by
  cases x
  unfold bs
  simp

/- a call of values without memory that leaves all that was there as it was meets what its row asks behind it -/
theorem post_kept {H : Type} {enc : TypeId × Value → H} {P : Program} {f : Func} {s : ChangeSpec} {apart fresh handsOn : Bool} {W W' : World} {args : Array Value} {v : Value} {ds gs : List (DataW H)}
    (hW : DataW.Whole enc P f.params.toList s.vars apart W args.toList ds gs [])
    (hres : ∀ (b : Nat) (sp : Nat → Bool) (hd : Bool), DataW.TrodAll enc P W' b sp hd f.resultTypes.toList (v.resultList f.resultTypes.size) (s.fn H (ds ++ gs)).results [])
    (hargs : ∀ sp : Nat → Bool, DataW.TrodAll enc P W' 0 sp true f.params.toList args.toList (s.fn H (ds ++ gs)).args [])
    (hvars : ∀ sp : Nat → Bool, DataW.TrodVars enc P W' sp s.vars (s.fn H (ds ++ gs)).vars [])
    (hb : Below W.heap.size W W') : s.post enc P f apart fresh handsOn false W args v W' :=
  ⟨ds, gs, [], [], [], [], hW, hres _ _ _, hargs _, hvars _, hb.frame _, fun h => by cases h⟩

/- the tables, off the row's list -/
theorem gPowType : (Tryz.prog.globals[0]?).map (·.type) = some 137 := by kernel_rfl
theorem gDecType : (Tryz.prog.globals[2]?).map (·.type) = some 170 := by kernel_rfl
theorem cell_in {w : World} {a : Addr} {v : Value} (h : w.cell? a = some v) : a.block < w.heap.size := World.block_lt_of_cell? w a h
def theLaid : List (String × DataW Unit) := [("math/bits.deBruijn32tab", Rows.laid_math_bits_deBruijn32tab), ("math/bits.deBruijn64tab", Rows.laid_math_bits_deBruijn64tab), ("internal/strconv.uint64pow10", Rows.laid_internal_strconv_uint64pow10), ("legation/number.powers", Rows.laid_legation_number_powers)]
theorem good_of {W : World} (h0 : laidMetH Tryz.prog theLaid W) : Nm.Good W := by
  have h : laidMet Tryz.prog theLaid W := by
    rw [MakeChecks.laidMetH_plain _ _ _ (by kernel_rfl)] at h0
    exact h0
  have h1 : Lib.TabIs Tryz.prog W "internal/strconv.uint64pow10" .u64 Lib.pow10Tab := Lib.tabIs_of_head (rest := [("legation/number.powers", Rows.laid_legation_number_powers)]) Nm.gDec gDecType Tryz.underlying170 Tryz.underlying135 (by kernel_rfl) (by kernel_rfl) h.tail.tail
  have h2 : Lib.TabIs Tryz.prog W "legation/number.powers" .i64 Nm.powTab := Lib.tabIs_of_head (rest := []) Nm.gPow gPowType Tryz.underlying137 Tryz.underlying2 (by kernel_rfl) (by kernel_rfl) h.tail.tail.tail
  exact ⟨h2, h1, cell_in (h2.cell Nm.gPow 0 (by decide)), cell_in (h1.cell Nm.gDec 0 (by decide))⟩

/- a world that holds the tables: the settled one, each table as its initialiser lays it -/
def lay (h : Array Obj) (g : Nat) (l : List Value) : Array Obj := h.modify g fun
  | .cells _ t frozen => .cells l.toArray t frozen
  | o => o
def tab32 : List Int := [0, 1, 28, 2, 29, 14, 24, 3, 30, 22, 20, 15, 25, 17, 4, 8, 31, 27, 13, 23, 21, 19, 16, 7, 26, 12, 18, 6, 11, 5, 10, 9]
def tab64 : List Int := [0, 1, 56, 2, 57, 49, 28, 3, 61, 58, 42, 50, 38, 29, 17, 4, 62, 47, 59, 36, 45, 43, 51, 22, 53, 39, 33, 30, 24, 18, 12, 5, 63, 55, 48, 27, 60, 41, 37, 16, 46, 35, 44, 21, 52, 32, 23, 11, 54, 26, 40, 15, 34, 20, 31, 10, 25, 14, 19, 9, 13, 8, 7, 6]
noncomputable def laidWorld (os : Os) : World :=
  { World.holding Tryz.prog os ⟨#[], #[], []⟩ with heap := lay (lay (lay (lay (World.holding Tryz.prog os ⟨#[], #[], []⟩).heap 0 (Nm.powTab.map (.int .i64))) 2 (Lib.pow10Tab.map (.int .u64))) 3 (tab32.map (.int .u8))) 4 (tab64.map (.int .u8)) }

end Go.Proofs.YtkfemnjblbnclaaGreatDoor
