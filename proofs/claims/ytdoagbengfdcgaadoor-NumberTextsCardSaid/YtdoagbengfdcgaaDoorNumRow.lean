/- A number as an argument: how it is opened into its three fields, and how it reads again behind the call; the listed tables; a world that holds them. -/
import Derived.Test.YtdoagbengfdcgaaDoorRows
import Derived.Test.YtdoagbengfdcgaaDoorNumAwake
import Derived.ProofKit
import Derived.OpenShut
import Derived.SizedLaws
import Derived.Lib.SmallJoins
import Derived.Lib.LaidTab
import Derived.Stop.LaidErr
import Derived.MakeChecks
import Derived.Deep.DeepHandedRow
namespace Go.Proofs.YtdoagbengfdcgaaDoor
open Go.ChangeShapes Go.WideShapes Go.ChangeAt Go.RowKit Go.Joins

theorem Tryd.own : ownKnob Tryd.prog.godebug = none := by kernel_rfl
theorem Tryd.cellsNum : Tryd.prog.cellsOf 23 = 3 := by kernel_rfl

section
variable {H : Type} {enc : TypeId × Value → H}
/- a number's datum -/
def numD (v s : Int) (d : Bool) : DataW H := .agg [.lit (.int .i64 v), .lit (.int .i64 s), .lit (.bool d)]

set_option maxRecDepth 100000 in
theorem open_num {W : World} {base b0 : Nat} {spare : Nat → Bool} {held : Bool} {v : Value} {d : DataW H} {p : List MemPlace} (hv : Value.okWide Tryd.prog W .any b0 23 v) (h : DataW.Trod enc Tryd.prog W base spare held 23 v d p) :
    ∃ (x s : Int) (b : Bool), v = .agg #[.int .i64 x, .int .i64 s, .bool b] ∧ d = numD x s b ∧ p = [] ∧ (Lit.int .i64 x).wf = true ∧ (Lit.int .i64 s).wf = true := by
  obtain ⟨c0, c1, c2, y0, y1, y2, m, rfl, rfl, rfl, h0, h1, h2⟩ := open_agg3 Tryd.underlying23 (by kernel_rfl) Tryd.cellsNum hv h
  obtain ⟨x, e0, rfl, wx⟩ := DataW.trod_int Tryd.underlying2 h0
  obtain ⟨s, e1, rfl, ws⟩ := DataW.trod_int Tryd.underlying3 h1
  obtain ⟨b, e2, rfl⟩ := DataW.trod_bool Tryd.underlying4 h2
  simp at e0 e1 e2
  subst e0 e1 e2
  exact ⟨x, s, b, rfl, rfl, rfl, wx, ws⟩

theorem shut_num {x s : Int} {b : Bool} (wx : (Lit.int .i64 x).wf = true) (ws : (Lit.int .i64 s).wf = true) (W : World) (base : Nat) (spare : Nat → Bool) (held : Bool) :
    DataW.Trod enc Tryd.prog W base spare held 23 (.agg #[.int .i64 x, .int .i64 s, .bool b]) (numD x s b) [] :=
  shut_agg3 (y0 := (.lit (.int .i64 x), [])) (y1 := (.lit (.int .i64 s), [])) (y2 := (.lit (.bool b), [])) Tryd.underlying23 (by kernel_rfl) Tryd.cellsNum
    ⟨1, by simp [DataW.trod, Tryd.underlying2, wx]⟩ ⟨1, by simp [DataW.trod, Tryd.underlying3, ws]⟩ ⟨1, by simp [DataW.trod, Tryd.underlying4]⟩
end

/- a call of values without memory that leaves all that was there as it was meets what its row asks behind it -/
theorem post_kept {H : Type} {enc : TypeId × Value → H} {P : Program} {f : Func} {s : ChangeSpec} {apart fresh handsOn : Bool} {W W' : World} {args : Array Value} {v : Value} {ds gs : List (DataW H)}
    (hW : DataW.Whole enc P f.params.toList s.vars apart W args.toList ds gs [])
    (hres : ∀ (b : Nat) (sp : Nat → Bool) (hd : Bool), DataW.TrodAll enc P W' b sp hd f.resultTypes.toList (v.resultList f.resultTypes.size) (s.fn H (ds ++ gs)).results [])
    (hargs : ∀ sp : Nat → Bool, DataW.TrodAll enc P W' 0 sp true f.params.toList args.toList (s.fn H (ds ++ gs)).args [])
    (hvars : ∀ sp : Nat → Bool, DataW.TrodVars enc P W' sp s.vars (s.fn H (ds ++ gs)).vars [])
    (hb : Below W.heap.size W W') : s.post enc P f apart fresh handsOn false W args v W' :=
  ⟨ds, gs, [], [], [], [], hW, hres _ _ _, hargs _, hvars _, hb.frame _, fun h => by cases h⟩

/- the tables, off the row's list -/
theorem gPowType : (Tryd.prog.globals[0]?).map (·.type) = some 63 := by kernel_rfl
theorem gDecType : (Tryd.prog.globals[1]?).map (·.type) = some 93 := by kernel_rfl
theorem cell_in {w : World} {a : Addr} {v : Value} (h : w.cell? a = some v) : a.block < w.heap.size := World.block_lt_of_cell? w a h
def theLaid : List (String × DataW Unit) := [("math/bits.deBruijn32tab", Rows.laid_math_bits_deBruijn32tab), ("math/bits.deBruijn64tab", Rows.laid_math_bits_deBruijn64tab), ("internal/strconv.uint64pow10", Rows.laid_internal_strconv_uint64pow10), ("legation/number.powers", Rows.laid_legation_number_powers)]
theorem good_of {W : World} (h0 : laidMetH Tryd.prog theLaid W) : Good W := by
  have h : laidMet Tryd.prog theLaid W := by
    rw [MakeChecks.laidMetH_plain _ _ _ (by kernel_rfl)] at h0
    exact h0
  have h1 : Lib.TabIs Tryd.prog W "internal/strconv.uint64pow10" .u64 Lib.pow10Tab := Lib.tabIs_of_head (rest := [("legation/number.powers", Rows.laid_legation_number_powers)]) gDec gDecType Tryd.underlying93 Tryd.underlying72 (by kernel_rfl) (by kernel_rfl) h.tail.tail
  have h2 : Lib.TabIs Tryd.prog W "legation/number.powers" .i64 powTab := Lib.tabIs_of_head (rest := []) gPow gPowType Tryd.underlying63 Tryd.underlying2 (by kernel_rfl) (by kernel_rfl) h.tail.tail.tail
  exact ⟨h2, h1, cell_in (h2.cell gPow 0 (by decide)), cell_in (h1.cell gDec 0 (by decide))⟩

/- a world that holds the tables: the settled one, each table as its initialiser lays it -/
def lay (h : Array Obj) (g : Nat) (l : List Value) : Array Obj := h.modify g fun
  | .cells _ t frozen => .cells l.toArray t frozen
  | o => o
def tab32 : List Int := [0, 1, 28, 2, 29, 14, 24, 3, 30, 22, 20, 15, 25, 17, 4, 8, 31, 27, 13, 23, 21, 19, 16, 7, 26, 12, 18, 6, 11, 5, 10, 9]
def tab64 : List Int := [0, 1, 56, 2, 57, 49, 28, 3, 61, 58, 42, 50, 38, 29, 17, 4, 62, 47, 59, 36, 45, 43, 51, 22, 53, 39, 33, 30, 24, 18, 12, 5, 63, 55, 48, 27, 60, 41, 37, 16, 46, 35, 44, 21, 52, 32, 23, 11, 54, 26, 40, 15, 34, 20, 31, 10, 25, 14, 19, 9, 13, 8, 7, 6]
noncomputable def laidWorld (os : Os) : World :=
  { World.holding Tryd.prog os ⟨#[], #[], []⟩ with heap := lay (lay (lay (lay (World.holding Tryd.prog os ⟨#[], #[], []⟩).heap 0 (powTab.map (.int .i64))) 1 (Lib.pow10Tab.map (.int .u64))) 3 (tab32.map (.int .u8))) 4 (tab64.map (.int .u8)) }

end Go.Proofs.YtdoagbengfdcgaaDoor
