/- A request as an argument; what the listed tables and errors give; a world that holds them all. -/
import Derived.Test.YtnfmjkinahbilaaDoorRows
import Derived.Test.YtnfmjkinahbilaaDoorRqGood
import Derived.ProofKit
import Derived.OpenShut
import Derived.SizedLaws
import Derived.JoinedCond
import Derived.Lib.SmallJoins
import Derived.Lib.LaidTab
import Derived.Stop.LaidErr
import Derived.LaidLaws
import Derived.MakeChecks
import Derived.Deep.DeepHandedRow
namespace Go.Proofs.YtnfmjkinahbilaaDoor
open Go.ChangeShapes Go.WideShapes Go.ChangeAt Go.RowKit Go.Joins
open Go.ChangeMaps (open_string shut_string)

set_option maxRecDepth 100000 in
theorem Tryd.own : ownKnob Tryd.prog.godebug = none := by kernel_rfl
set_option maxRecDepth 100000 in
theorem Tryd.cellsRequest : Tryd.prog.cellsOf 23 = 2 := by kernel_rfl
section
variable {H : Type} {enc : TypeId × Value → H}
/- a request's datum -/
def reqD (k : Int) (x : ByteArray) : DataW H := .agg [.lit (.int .i64 k), .lit (.string x.data.toList)]

set_option maxRecDepth 100000 in
theorem open_req {W : World} {base b0 : Nat} {spare : Nat → Bool} {held : Bool} {v : Value} {d : DataW H} {p : List MemPlace} (hv : Value.okWide Tryd.prog W .any b0 23 v) (h : DataW.Trod enc Tryd.prog W base spare held 23 v d p) :
    ∃ (k : Int) (x : ByteArray), v = .agg #[.int .i64 k, .string x] ∧ d = reqD k x ∧ p = [] ∧ (Lit.int .i64 k).wf = true ∧ x.size ≤ maxLen := by
  obtain ⟨c0, c1, y0, y1, m, rfl, rfl, rfl, h0, h1⟩ := open_agg2 Tryd.underlying23 (by kernel_rfl) Tryd.cellsRequest hv h
  obtain ⟨k, e0, rfl, wk⟩ := DataW.trod_int Tryd.underlying3 h0
  obtain ⟨x, e1, rfl, wx⟩ := DataW.trod_string Tryd.underlying9 h1
  simp at e0 e1
  subst e0 e1
  exact ⟨k, x, rfl, rfl, rfl, wk, wx⟩
set_option maxRecDepth 100000 in
theorem shut_req {k : Int} {x : ByteArray} (wk : (Lit.int .i64 k).wf = true) (wx : x.size ≤ maxLen) (W : World) (base : Nat) (spare : Nat → Bool) (held : Bool) :
    DataW.Trod enc Tryd.prog W base spare held 23 (.agg #[.int .i64 k, .string x]) (reqD k x) [] :=
  shut_agg2 (y0 := (.lit (.int .i64 k), [])) (y1 := (.lit (.string x.data.toList), [])) Tryd.underlying23 (by kernel_rfl) Tryd.cellsRequest
    ⟨1, by simp [DataW.trod, Tryd.underlying3, wk]⟩ ⟨1, by simp [DataW.trod, Tryd.underlying9, wx]⟩
end

/- a call of values without memory that leaves all that was there as it was meets what its row asks behind it -/
theorem post_kept {H : Type} {enc : TypeId × Value → H} {P : Program} {f : Func} {s : ChangeSpec} {apart fresh handsOn : Bool} {W W' : World} {args : Array Value} {v : Value} {ds gs : List (DataW H)}
    (hW : DataW.Whole enc P f.params.toList s.vars apart W args.toList ds gs [])
    (hres : ∀ (b : Nat) (sp : Nat → Bool) (hd : Bool), DataW.TrodAll enc P W' b sp hd f.resultTypes.toList (v.resultList f.resultTypes.size) (s.fn H (ds ++ gs)).results [])
    (hargs : ∀ sp : Nat → Bool, DataW.TrodAll enc P W' 0 sp true f.params.toList args.toList (s.fn H (ds ++ gs)).args [])
    (hvars : ∀ sp : Nat → Bool, DataW.TrodVars enc P W' sp s.vars (s.fn H (ds ++ gs)).vars [])
    (hb : Below W.heap.size W W') : s.post enc P f apart fresh handsOn false W args v W' :=
  ⟨ds, gs, [], [], [], [], hW, hres _ _ _, hargs _, hvars _, hb.frame _, fun h => by cases h⟩
/- what the bound on the arguments' bulk gives: the text's length -/
theorem short_one {H : Type} {s : ByteArray} (hk : Rows.uptoSmall H [.lit (.string s.data.toList)] = true) : s.size ≤ 1048576 := by
  have h : Rows.uptoBulkAll [DataW.lit (H := H) (.string s.data.toList)] ≤ 1048576 := of_decide_eq_true hk
  simp only [Rows.uptoBulkAll, Rows.uptoBulk] at h
  have e : s.data.toList.length = s.size := (Lib.size_eq s).symm
  omega

/- the tables and the errors, off the row's list -/
theorem gDecType : (Tryd.prog.globals[3]?).map (·.type) = some 107 := by kernel_rfl
def theLaid : List (String × DataW Unit) := [("math/bits.deBruijn32tab", Rows.laid_math_bits_deBruijn32tab), ("math/bits.deBruijn64tab", Rows.laid_math_bits_deBruijn64tab), ("internal/strconv.uint64pow10", Rows.laid_internal_strconv_uint64pow10), ("strconv.ErrRange", Rows.laid_strconv_ErrRange), ("strconv.ErrSyntax", Rows.laid_strconv_ErrSyntax)]
theorem errStar : "*" ++ "errors.errorString" = "*errors.errorString" := by decide
theorem errRow (u : TypeId) (h : Tryd.prog.typeName? 3 u = some "*errors.errorString") : u = 115 :=
  typeName_ptr_named (nm := "errors.errorString") (by rw [errStar]; kernel_rfl) (by kernel_rfl) (by decide) u (by rw [errStar]; exact h)
theorem gErrS : Tryd.prog.globalNamed "strconv.ErrSyntax" = some 1 := by kernel_rfl
theorem gErrR : Tryd.prog.globalNamed "strconv.ErrRange" = some 2 := by kernel_rfl
theorem yErrS : (Tryd.prog.globals[1]?).map (·.type) = some 60 := by kernel_rfl
theorem yErrR : (Tryd.prog.globals[2]?).map (·.type) = some 60 := by kernel_rfl
theorem cErr : Tryd.prog.cellsOf 117 = 1 := by kernel_rfl
theorem cStr : Tryd.prog.cellsOf 9 = 1 := by kernel_rfl
theorem good_of {W : World} (h0 : laidMetH Tryd.prog theLaid W) : Good W := by
  have h : laidMet Tryd.prog theLaid W := by
    rw [MakeChecks.laidMetH_plain _ _ _ (by kernel_rfl)] at h0
    exact h0
  have h1 : Lib.TabIs Tryd.prog W "internal/strconv.uint64pow10" .u64 Lib.pow10Tab := Lib.tabIs_of_head (rest := [("strconv.ErrRange", Rows.laid_strconv_ErrRange), ("strconv.ErrSyntax", Rows.laid_strconv_ErrSyntax)]) gDec gDecType Tryd.underlying107 Tryd.underlying91 (by kernel_rfl) (by kernel_rfl) h.tail.tail
  have h4 := h.tail.tail.tail
  obtain ⟨a0, s0, hv0, _⟩ := laid_sentinel h4 gErrR yErrR Tryd.underlying60 errRow Tryd.underlying115 Tryd.underlying117 rfl rfl Tryd.underlying9 cErr cStr
  obtain ⟨a1, s1, hv1, _⟩ := laid_sentinel h4.tail gErrS yErrS Tryd.underlying60 errRow Tryd.underlying115 Tryd.underlying117 rfl rfl Tryd.underlying9 cErr cStr
  have e0 : W.cell? ⟨2, 0, none⟩ = some (.iface 115 (.pointer (some a0))) := by have h0 := World.var?_cell gErrR hv0 0; simpa using h0
  have e1 : W.cell? ⟨1, 0, none⟩ = some (.iface 115 (.pointer (some a1))) := by have h0 := World.var?_cell gErrS hv1 0; simpa using h0
  exact ⟨h1, cell_lt (h1.cell gDec 0 (by decide)), _, _, e1, .inr ⟨_, _, rfl⟩, e0, .inr ⟨_, _, rfl⟩⟩

/- a world that holds them: the settled one, each as its initialiser lays it -/
def lay (h : Array Obj) (g : Nat) (l : List Value) : Array Obj := h.modify g fun
  | .cells _ t frozen => .cells l.toArray t frozen
  | o => o
def tab32 : List Int := [0, 1, 28, 2, 29, 14, 24, 3, 30, 22, 20, 15, 25, 17, 4, 8, 31, 27, 13, 23, 21, 19, 16, 7, 26, 12, 18, 6, 11, 5, 10, 9]
def tab64 : List Int := [0, 1, 56, 2, 57, 49, 28, 3, 61, 58, 42, 50, 38, 29, 17, 4, 62, 47, 59, 36, 45, 43, 51, 22, 53, 39, 33, 30, 24, 18, 12, 5, 63, 55, 48, 27, 60, 41, 37, 16, 46, 35, 44, 21, 52, 32, 23, 11, 54, 26, 40, 15, 34, 20, 31, 10, 25, 14, 19, 9, 13, 8, 7, 6]
def synS : ByteArray := ⟨#[105, 110, 118, 97, 108, 105, 100, 32, 115, 121, 110, 116, 97, 120]⟩
def rngS : ByteArray := ⟨#[118, 97, 108, 117, 101, 32, 111, 117, 116, 32, 111, 102, 32, 114, 97, 110, 103, 101]⟩
noncomputable def laidWorld (os : Os) : World :=
  let w0 := World.holding Tryd.prog os ⟨#[.cells #[.string synS] 117, .cells #[.string rngS] 117], #[], []⟩
  let N := (World.settled Tryd.prog os).heap.size
  { w0 with heap := lay (lay (lay (lay (lay w0.heap 4 (tab32.map (.int .u8))) 5 (tab64.map (.int .u8))) 3 (Lib.pow10Tab.map (.int .u64))) 1 [.iface 115 (.pointer (some ⟨N, 0, none⟩))]) 2 [.iface 115 (.pointer (some ⟨N + 1, 0, none⟩))] }

end Go.Proofs.YtnfmjkinahbilaaDoor
