/- What the rows of this seat share: the two tables, off the row's list; a world that holds all listed tables; a call that leaves all that was there as it was. The listed tables: what they give; a world that holds them all (unicode.CaseRanges by the library's law, the others by the kernel). -/
import Derived.Test.YtgkpdcjkobieiaaDoorRows
import Derived.Test.YtgkpdcjkobieiaaDoorFormWorld
import Derived.Lib.LaidCaseMet
import Derived.ProofKit
import Derived.OpenShut
import Derived.SizedLaws
import Derived.Lib.SmallJoins
import Derived.Lib.LaidTab
import Derived.Stop.LaidErr
import Derived.MakeChecks
import Derived.Deep.DeepHandedRow
namespace Go.Proofs.YtgkpdcjkobieiaaDoor
open Go.ChangeShapes Go.WideShapes Go.ChangeAt Go.RowKit Go.Joins

theorem Tryd.own : ownKnob Tryd.prog.godebug = none := by kernel_rfl

/- a call of values without memory that leaves all that was there as it was meets what its row asks behind it -/
theorem post_kept {H : Type} {enc : TypeId × Value → H} {P : Program} {f : Func} {s : ChangeSpec} {apart fresh handsOn : Bool} {W W' : World} {args : Array Value} {v : Value} {ds gs : List (DataW H)}
    (hW : DataW.Whole enc P f.params.toList s.vars apart W args.toList ds gs [])
    (hres : ∀ (b : Nat) (sp : Nat → Bool) (hd : Bool), DataW.TrodAll enc P W' b sp hd f.resultTypes.toList (v.resultList f.resultTypes.size) (s.fn H (ds ++ gs)).results [])
    (hargs : ∀ sp : Nat → Bool, DataW.TrodAll enc P W' 0 sp true f.params.toList args.toList (s.fn H (ds ++ gs)).args [])
    (hvars : ∀ sp : Nat → Bool, DataW.TrodVars enc P W' sp s.vars (s.fn H (ds ++ gs)).vars [])
    (hb : Below W.heap.size W W') : s.post enc P f apart fresh handsOn false W args v W' :=
  ⟨ds, gs, [], [], [], [], hW, hres _ _ _, hargs _, hvars _, hb.frame _, fun h => by cases h⟩

/- the order of two tables at a list's end says nothing -/
theorem laid_swap {P : Program} {w : World} {x y : String × DataW Unit} : ∀ (l : List (String × DataW Unit)) (ps : List MemPlace), DataW.LaidVars P w (l ++ [y, x]) ps → ∃ qs, DataW.LaidVars P w (l ++ [x, y]) qs ∧ qs.Perm ps
  | [], ps, h => by
    obtain ⟨ny, dy⟩ := y
    obtain ⟨nx, dx⟩ := x
    obtain ⟨g, t, cs, fuel, p, q, a1, a2, a3, a4, h2, rfl⟩ := h
    obtain ⟨g', t', cs', fuel', p', q', b1, b2, b3, b4, h3, rfl⟩ := h2
    obtain rfl : q' = [] := h3
    refine ⟨MemPlace.row ⟨g', 0, none⟩ cs'.size ++ p' ++ (MemPlace.row ⟨g, 0, none⟩ cs.size ++ p ++ []), ⟨g', t', cs', fuel', p', _, b1, b2, b3, b4, ⟨g, t, cs, fuel, p, [], a1, a2, a3, a4, rfl, rfl⟩, rfl⟩, ?_⟩
    simp only [List.append_nil]
    exact List.perm_append_comm
  | (n, d) :: l, ps, h => by
    obtain ⟨g, t, cs, fuel, p, q, a1, a2, a3, a4, h2, rfl⟩ := h
    obtain ⟨qs, hq, hp⟩ := laid_swap l q h2
    exact ⟨_, ⟨g, t, cs, fuel, p, qs, a1, a2, a3, a4, hq, rfl⟩, hp.append_left _⟩
theorem laidMet_swap {P : Program} {w : World} {x y : String × DataW Unit} {l : List (String × DataW Unit)} (h : laidMet P (l ++ [y, x]) w) : laidMet P (l ++ [x, y]) w := by
  obtain ⟨ps, h1, h2, h3⟩ := h
  obtain ⟨qs, hq, hp⟩ := laid_swap l ps h1
  exact ⟨qs, hq, hp.nodup_iff.2 h2, fun b off hm => h3 b off (hp.mem_iff.1 hm)⟩

/- the two tables' cells -/
theorem gMarks : Tryd.prog.globalNamed "legation/formula.marks" = some 1 := by kernel_rfl
theorem gLevels : Tryd.prog.globalNamed "legation/formula.levels" = some 0 := by kernel_rfl
theorem yMarks : (Tryd.prog.globals[1]?).map (·.type) = some 81 := by kernel_rfl
theorem yLevels : (Tryd.prog.globals[0]?).map (·.type) = some 65 := by kernel_rfl
theorem Tryd.cellsString : Tryd.prog.cellsOf 9 = 1 := by kernel_rfl
theorem Tryd.cellsLevel : Tryd.prog.cellsOf 64 = 3 := by kernel_rfl
theorem marks_data : (Rows.laid_legation_formula_marks : DataW Unit) = .agg (marksL.map fun l => .lit (.string l)) := rfl
theorem levels_data : (Rows.laid_legation_formula_levels : DataW Unit) = .agg (levelsL.map fun x => .agg [.lit (.int .i64 (x.1 : Int)), .lit (.int .i64 (x.2.1 : Int)), .lit (.bool x.2.2)]) := rfl
theorem var_cell {P : Program} {w : World} {n : String} {g : Nat} {cs : Array Value} (hg : P.globalNamed n = some g) (hv : w.var? P n = some cs) (i : Nat) : w.cell? ⟨g, i, none⟩ = cs.toList[i]? := by
  rw [World.var?_cell hg hv i, ← Array.getElem?_toList]
theorem marks_cell {w : World} (h : Lib.VarReads Tryd.prog w "legation/formula.marks" Rows.laid_legation_formula_marks) (k : Nat) (hk : k < 27) : w.cell? ⟨1, k, none⟩ = some (.string (bs (markN k))) := by
  obtain ⟨g, t, cs, fuel, p, hg, hty, hvar, hd⟩ := h
  obtain rfl := Option.some.inj (gMarks.symm.trans hg)
  obtain rfl := Option.some.inj (yMarks.symm.trans hty)
  rw [marks_data] at hd
  obtain ⟨f', d, q, hdi, ht⟩ := Lib.array_elem Tryd.underlying81 hd k hk
  rw [Tryd.cellsString, Nat.mul_one] at ht
  obtain ⟨s, hs, hx, _⟩ := DataW.trod_string Tryd.underlying9 ht
  have hc := at_of_take hs
  rw [var_cell hg hvar k, hc]
  have hlen : k < marksL.length := hk
  rw [List.getElem?_map, List.getElem?_eq_getElem hlen] at hdi
  have hx1 := congrArg Prod.fst hx
  simp only [Option.map_some, Option.some.injEq] at hdi hx1
  rw [← hdi] at hx1
  have e : marksL[k] = s.data.toList := by simpa using hx1
  rw [show markN k = marksL[k] by unfold markN; simp [List.getD, List.getElem?_eq_getElem hlen], e]
  rfl
theorem levels_cell {w : World} (h : Lib.VarReads Tryd.prog w "legation/formula.levels" Rows.laid_legation_formula_levels) (k : Nat) (hk : k < 5) :
    w.cell? ⟨0, k * 3, none⟩ = some (.int .i64 (lev k).1) ∧ w.cell? ⟨0, k * 3 + 1, none⟩ = some (.int .i64 (lev k).2.1) ∧ w.cell? ⟨0, k * 3 + 2, none⟩ = some (.bool (lev k).2.2) := by
  obtain ⟨g, t, cs, fuel, p, hg, hty, hvar, hd⟩ := h
  obtain rfl := Option.some.inj (gLevels.symm.trans hg)
  obtain rfl := Option.some.inj (yLevels.symm.trans hty)
  rw [levels_data] at hd
  obtain ⟨f', d, q, hdi, ht⟩ := Lib.array_elem Tryd.underlying65 hd k hk
  rw [Tryd.cellsLevel] at ht
  obtain ⟨xs, n, _, hx, hl, hlen, hall⟩ := DataW.trod_struct Tryd.underlying64 ht
  have hkl : k < levelsL.length := hk
  rw [List.getElem?_map, List.getElem?_eq_getElem hkl] at hdi
  have hx1 := congrArg Prod.fst hx
  simp only [Option.map_some, Option.some.injEq] at hdi hx1
  rw [← hdi] at hx1
  have hlv : lev k = levelsL[k] := by unfold lev; simp [List.getD, List.getElem?_eq_getElem hkl]
  rw [hlv]
  generalize levelsL[k] = z at hx1
  obtain ⟨z0, z1, z2⟩ := z
  match xs, hlen with
  | [x0, x1, x2], _ =>
    have f0 := hall 0 _ rfl
    have f1 := hall 1 _ rfl
    have f2 := hall 2 _ rfl
    simp only [List.getElem?_cons_zero, List.getElem?_cons_succ] at f0 f1 f2
    obtain ⟨i0, c0, rfl, _⟩ := DataW.trod_int Tryd.underlying3 f0
    obtain ⟨i1, c1, rfl, _⟩ := DataW.trod_int Tryd.underlying3 f1
    obtain ⟨i2, c2, rfl⟩ := DataW.trod_bool Tryd.underlying4 f2
    simp at hx1
    obtain ⟨rfl, rfl, rfl⟩ := hx1
    have g0 := congrArg (·[0]?) c0
    have g1 := congrArg (·[0]?) c1
    have g2 := congrArg (·[0]?) c2
    simp [List.getElem?_take, List.getElem?_drop] at g0 g1 g2
    refine ⟨?_, ?_, ?_⟩
    · rw [var_cell hg hvar]; simpa using g0.2
    · rw [var_cell hg hvar]; simpa using g1.2
    · rw [var_cell hg hvar]; simpa using g2.2

end Go.Proofs.YtgkpdcjkobieiaaDoor

namespace Go.Proofs.YtgkpdcjkobieiaaDoor
open Go.ChangeShapes Go.WideShapes Go.ChangeAt Go.RowKit Go.Joins

def caseRen : Go.Shelf.Ren := ⟨fun | 274 => 93 | n => n, fun | 21 => 21 | 162 => 110 | 160 => 118 | 3 => 3 | 4 => 4 | 46 => 113 | 0 => 0 | 208 => 125 | 51 => 117 | 206 => 123 | n => n, fun | 13 => 2 | n => n⟩
theorem caseLays : Go.Proofs.Lays.n274 Tryd.prog caseRen := {
  mixed := by kernel_rfl
  f274 := Tryd.func93.trans (congrArg some (by kernel_rfl))
  t0 := Tryd.underlying0
  a0 := Tryd.isAgg0
  z0 := Tryd.sizeOf0
  v0 := Tryd.zeroValue0
  t3 := Tryd.underlying3
  a3 := Tryd.isAgg3
  z3 := Tryd.sizeOf3
  v3 := Tryd.zeroValue3
  t4 := Tryd.underlying4
  a4 := Tryd.isAgg4
  z4 := Tryd.sizeOf4
  v4 := Tryd.zeroValue4
  t21 := Tryd.underlying21
  a21 := Tryd.isAgg21
  z21 := Tryd.sizeOf21
  v21 := Tryd.zeroValue21
  t46 := Tryd.underlying113
  a46 := Tryd.isAgg113
  z46 := Tryd.sizeOf113
  v46 := Tryd.zeroValue113
  t51 := Tryd.underlying117
  a51 := Tryd.isAgg117
  z51 := Tryd.sizeOf117
  v51 := Tryd.zeroValue117
  t160 := Tryd.underlying118
  a160 := Tryd.isAgg118
  z160 := Tryd.sizeOf118
  v160 := Tryd.zeroValue118
  t162 := Tryd.underlying110
  a162 := Tryd.isAgg110
  z162 := Tryd.sizeOf110
  v162 := Tryd.zeroValue110
  t208 := Tryd.underlying125
  a208 := Tryd.isAgg125
  z208 := Tryd.sizeOf125
  v208 := Tryd.zeroValue125 }

/- a world that holds the tables: the settled one and a block for the case ranges' rows, each table as its initialiser lays it -/
def lay (h : Array Obj) (g : Nat) (l : List Value) : Array Obj := h.modify g fun
  | .cells _ t frozen => .cells l.toArray t frozen
  | o => o
def rangeTab : List Int := [128, 191, 160, 191, 128, 159, 144, 191, 128, 143, 0, 0, 0, 0, 0, 0, 0, 0, 0, 0, 0, 0, 0, 0, 0, 0, 0, 0, 0, 0, 0, 0]
def levelCells : List Value := levelsL.flatMap fun x => [.int .i64 (x.1 : Int), .int .i64 (x.2.1 : Int), .bool x.2.2]
noncomputable def laidWorld (os : Os) : World :=
  let w0 := World.holding Tryd.prog os ⟨#[.cells Lib.caseCells5 125], #[], []⟩
  let N := (World.settled Tryd.prog os).heap.size
  { w0 with heap := lay (lay (lay (lay (lay w0.heap 5 (rangeTab.map (.int .u8))) 4 (Go.Pinned.utf8FirstZ.map fun (n : Nat) => .int .u8 (n : Int))) 1 (marksL.map fun l => .string (bs l))) 0 levelCells) 2 [.slice (some ⟨N, 0, none⟩) 336 336] }

theorem case_eq : (Rows.laid_unicode_CaseRanges : DataW Unit) = Lib.caseData := by kernel_rfl
def theLaid : List (String × DataW Unit) := [("unicode/utf8.acceptRanges", Rows.laid_unicode_utf8_acceptRanges), ("legation/formula.levels", Rows.laid_legation_formula_levels), ("legation/formula.marks", Rows.laid_legation_formula_marks), ("unicode.CaseRanges", Rows.laid_unicode_CaseRanges), ("unicode/utf8.first", Rows.laid_unicode_utf8_first)]
theorem case_last {w : World} (h : laidMet Tryd.prog ([("unicode/utf8.acceptRanges", Rows.laid_unicode_utf8_acceptRanges), ("legation/formula.levels", Rows.laid_legation_formula_levels), ("legation/formula.marks", Rows.laid_legation_formula_marks), ("unicode/utf8.first", Rows.laid_unicode_utf8_first)] ++ [("unicode.CaseRanges", Lib.caseData)]) w) : laidMet Tryd.prog theLaid w := by
  unfold theLaid
  rw [case_eq]
  exact laidMet_swap (l := [("unicode/utf8.acceptRanges", Rows.laid_unicode_utf8_acceptRanges), ("legation/formula.levels", Rows.laid_legation_formula_levels), ("legation/formula.marks", Rows.laid_legation_formula_marks)]) h

theorem cell_in {w : World} {a : Addr} {v : Value} (h : w.cell? a = some v) : a.block < w.heap.size := World.block_lt_of_cell? w a h
theorem good_of {W : World} (h0 : laidMetH Tryd.prog theLaid W) : Good W.heap.size W := by
  have h : laidMet Tryd.prog theLaid W := by
    rw [MakeChecks.laidMetH_plain _ _ _ (by kernel_rfl)] at h0
    exact h0
  have hm := Lib.laidMet.reads h (n := "legation/formula.marks") (d := Rows.laid_legation_formula_marks) (.tail _ (.tail _ (.head _)))
  have hl := Lib.laidMet.reads h (n := "legation/formula.levels") (d := Rows.laid_legation_formula_levels) (.tail _ (.head _))
  exact ⟨fun k hk => marks_cell hm k hk, fun k hk => (levels_cell hl k hk).1, fun k hk => (levels_cell hl k hk).2.1, fun k hk => (levels_cell hl k hk).2.2, cell_in (marks_cell hm 0 (by decide)), cell_in (levels_cell hl 0 (by decide)).1⟩

end Go.Proofs.YtgkpdcjkobieiaaDoor
