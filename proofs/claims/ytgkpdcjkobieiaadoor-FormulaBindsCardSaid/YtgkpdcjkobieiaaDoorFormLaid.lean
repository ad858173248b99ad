/- The listed tables: what they give; a world that holds them all (unicode.CaseRanges by the library's law, the others by the kernel). -/
import Derived.Test.YtgkpdcjkobieiaaDoorFormRow
namespace Go.Proofs.YtgkpdcjkobieiaaDoor
open Go.ChangeShapes Go.WideShapes Go.ChangeAt Go.RowKit Go.Joins

def caseRen : Go.Shelf.Ren := ⟨fun | 274 => 93 | n => n, fun | 21 => 21 | 162 => 110 | 160 => 118 | 3 => 3 | 4 => 4 | 46 => 113 | 0 => 0 | 208 => 125 | 51 => 117 | 206 => 123 | n => n, fun | 13 => 2 | n => n⟩
theorem caseLays : Go.Proofs.Lays.n274 Tryd.prog caseRen := {
  mixed := by kernel_rfl
  f274 := Tryd.func93.trans (congrArg some (by kernel_rfl))
  t0 := Tryd.underlying0
  a0 := Tryd.isAgg0
  z0 := Tryd.sizeOf0
  v0 := Tryd.zeroValue0
  t3 := Tryd.underlying3
  a3 := Tryd.isAgg3
  z3 := Tryd.sizeOf3
  v3 := Tryd.zeroValue3
  t4 := Tryd.underlying4
  a4 := Tryd.isAgg4
  z4 := Tryd.sizeOf4
  v4 := Tryd.zeroValue4
  t21 := Tryd.underlying21
  a21 := Tryd.isAgg21
  z21 := Tryd.sizeOf21
  v21 := Tryd.zeroValue21
  t46 := Tryd.underlying113
  a46 := Tryd.isAgg113
  z46 := Tryd.sizeOf113
  v46 := Tryd.zeroValue113
  t51 := Tryd.underlying117
  a51 := Tryd.isAgg117
  z51 := Tryd.sizeOf117
  v51 := Tryd.zeroValue117
  t160 := Tryd.underlying118
  a160 := Tryd.isAgg118
  z160 := Tryd.sizeOf118
  v160 := Tryd.zeroValue118
  t162 := Tryd.underlying110
  a162 := Tryd.isAgg110
  z162 := Tryd.sizeOf110
  v162 := Tryd.zeroValue110
  t208 := Tryd.underlying125
  a208 := Tryd.isAgg125
  z208 := Tryd.sizeOf125
  v208 := Tryd.zeroValue125 }

/- a world that holds the tables: the settled one and a block for the case ranges' rows, each table as its initialiser lays it -/
def lay (h : Array Obj) (g : Nat) (l : List Value) : Array Obj := h.modify g fun
  | .cells _ t frozen => .cells l.toArray t frozen
  | o => o
def rangeTab : List Int := [128, 191, 160, 191, 128, 159, 144, 191, 128, 143, 0, 0, 0, 0, 0, 0, 0, 0, 0, 0, 0, 0, 0, 0, 0, 0, 0, 0, 0, 0, 0, 0]
def levelCells : List Value := levelsL.flatMap fun x => [.int .i64 (x.1 : Int), .int .i64 (x.2.1 : Int), .bool x.2.2]
noncomputable def laidWorld (os : Os) : World :=
  let w0 := World.holding Tryd.prog os ⟨#[.cells Lib.caseCells5 125], #[], []⟩
  let N := (World.settled Tryd.prog os).heap.size
  { w0 with heap := lay (lay (lay (lay (lay w0.heap 5 (rangeTab.map (.int .u8))) 4 (Go.Pinned.utf8FirstZ.map fun (n : Nat) => .int .u8 (n : Int))) 1 (marksL.map fun l => .string (bs l))) 0 levelCells) 2 [.slice (some ⟨N, 0, none⟩) 336 336] }

theorem case_eq : (Rows.laid_unicode_CaseRanges : DataW Unit) = Lib.caseData := by kernel_rfl
def theLaid : List (String × DataW Unit) := [("unicode/utf8.acceptRanges", Rows.laid_unicode_utf8_acceptRanges), ("legation/formula.levels", Rows.laid_legation_formula_levels), ("legation/formula.marks", Rows.laid_legation_formula_marks), ("unicode.CaseRanges", Rows.laid_unicode_CaseRanges), ("unicode/utf8.first", Rows.laid_unicode_utf8_first)]
theorem case_last {w : World} (h : laidMet Tryd.prog ([("unicode/utf8.acceptRanges", Rows.laid_unicode_utf8_acceptRanges), ("legation/formula.levels", Rows.laid_legation_formula_levels), ("legation/formula.marks", Rows.laid_legation_formula_marks), ("unicode/utf8.first", Rows.laid_unicode_utf8_first)] ++ [("unicode.CaseRanges", Lib.caseData)]) w) : laidMet Tryd.prog theLaid w := by
  unfold theLaid
  rw [case_eq]
  exact laidMet_swap (l := [("unicode/utf8.acceptRanges", Rows.laid_unicode_utf8_acceptRanges), ("legation/formula.levels", Rows.laid_legation_formula_levels), ("legation/formula.marks", Rows.laid_legation_formula_marks)]) h

theorem cell_in {w : World} {a : Addr} {v : Value} (h : w.cell? a = some v) : a.block < w.heap.size := World.block_lt_of_cell? w a h
theorem good_of {W : World} (h0 : laidMetH Tryd.prog theLaid W) : Good W.heap.size W := by
  have h : laidMet Tryd.prog theLaid W := by
    rw [MakeChecks.laidMetH_plain _ _ _ (by kernel_rfl)] at h0
    exact h0
  have hm := Lib.laidMet.reads h (n := "legation/formula.marks") (d := Rows.laid_legation_formula_marks) (.tail _ (.tail _ (.head _)))
  have hl := Lib.laidMet.reads h (n := "legation/formula.levels") (d := Rows.laid_legation_formula_levels) (.tail _ (.head _))
  exact ⟨fun k hk => marks_cell hm k hk, fun k hk => (levels_cell hl k hk).1, fun k hk => (levels_cell hl k hk).2.1, fun k hk => (levels_cell hl k hk).2.2, cell_in (marks_cell hm 0 (by decide)), cell_in (levels_cell hl 0 (by decide)).1⟩

end Go.Proofs.YtgkpdcjkobieiaaDoor
