/- What the rows of this seat share: the two tables, off the row's list; a world that holds all listed tables; a call that leaves all that was there as it was. -/
import Derived.Test.YtgkpdcjkobieiaaDoorRows
import Derived.Test.YtgkpdcjkobieiaaDoorFormWorld
import Derived.Lib.LaidCaseMet
import Derived.ProofKit
import Derived.OpenShut
import Derived.SizedLaws
import Derived.Lib.SmallJoins
import Derived.Lib.LaidTab
import Derived.Stop.LaidErr
import Derived.MakeChecks
import Derived.Deep.DeepHandedRow
namespace Go.Proofs.YtgkpdcjkobieiaaDoor
open Go.ChangeShapes Go.WideShapes Go.ChangeAt Go.RowKit Go.Joins

theorem Tryd.own : ownKnob Tryd.prog.godebug = none := by kernel_rfl

/- a call of values without memory that leaves all that was there as it was meets what its row asks behind it -/
theorem post_kept {H : Type} {enc : TypeId × Value → H} {P : Program} {f : Func} {s : ChangeSpec} {apart fresh handsOn : Bool} {W W' : World} {args : Array Value} {v : Value} {ds gs : List (DataW H)}
    (hW : DataW.Whole enc P f.params.toList s.vars apart W args.toList ds gs [])
    (hres : ∀ (b : Nat) (sp : Nat → Bool) (hd : Bool), DataW.TrodAll enc P W' b sp hd f.resultTypes.toList (v.resultList f.resultTypes.size) (s.fn H (ds ++ gs)).results [])
    (hargs : ∀ sp : Nat → Bool, DataW.TrodAll enc P W' 0 sp true f.params.toList args.toList (s.fn H (ds ++ gs)).args [])
    (hvars : ∀ sp : Nat → Bool, DataW.TrodVars enc P W' sp s.vars (s.fn H (ds ++ gs)).vars [])
    (hb : Below W.heap.size W W') : s.post enc P f apart fresh handsOn false W args v W' :=
  ⟨ds, gs, [], [], [], [], hW, hres _ _ _, hargs _, hvars _, hb.frame _, fun h => by cases h⟩

/- the order of two tables at a list's end says nothing -/
theorem laid_swap {P : Program} {w : World} {x y : String × DataW Unit} : ∀ (l : List (String × DataW Unit)) (ps : List MemPlace), DataW.LaidVars P w (l ++ [y, x]) ps → ∃ qs, DataW.LaidVars P w (l ++ [x, y]) qs ∧ qs.Perm ps
  | [], ps, h => by
    obtain ⟨ny, dy⟩ := y
    obtain ⟨nx, dx⟩ := x
    obtain ⟨g, t, cs, fuel, p, q, a1, a2, a3, a4, h2, rfl⟩ := h
    obtain ⟨g', t', cs', fuel', p', q', b1, b2, b3, b4, h3, rfl⟩ := h2
    obtain rfl : q' = [] := h3
    refine ⟨MemPlace.row ⟨g', 0, none⟩ cs'.size ++ p' ++ (MemPlace.row ⟨g, 0, none⟩ cs.size ++ p ++ []), ⟨g', t', cs', fuel', p', _, b1, b2, b3, b4, ⟨g, t, cs, fuel, p, [], a1, a2, a3, a4, rfl, rfl⟩, rfl⟩, ?_⟩
    simp only [List.append_nil]
    exact List.perm_append_comm
  | (n, d) :: l, ps, h => by
    obtain ⟨g, t, cs, fuel, p, q, a1, a2, a3, a4, h2, rfl⟩ := h
    obtain ⟨qs, hq, hp⟩ := laid_swap l q h2
    exact ⟨_, ⟨g, t, cs, fuel, p, qs, a1, a2, a3, a4, hq, rfl⟩, hp.append_left _⟩
theorem laidMet_swap {P : Program} {w : World} {x y : String × DataW Unit} {l : List (String × DataW Unit)} (h : laidMet P (l ++ [y, x]) w) : laidMet P (l ++ [x, y]) w := by
  obtain ⟨ps, h1, h2, h3⟩ := h
  obtain ⟨qs, hq, hp⟩ := laid_swap l ps h1
  exact ⟨qs, hq, hp.nodup_iff.2 h2, fun b off hm => h3 b off (hp.mem_iff.1 hm)⟩

/- the two tables' cells -/
theorem gMarks : Tryd.prog.globalNamed "legation/formula.marks" = some 1 := by kernel_rfl
theorem gLevels : Tryd.prog.globalNamed "legation/formula.levels" = some 0 := by kernel_rfl
theorem yMarks : (Tryd.prog.globals[1]?).map (·.type) = some 81 := by kernel_rfl
theorem yLevels : (Tryd.prog.globals[0]?).map (·.type) = some 65 := by kernel_rfl
theorem Tryd.cellsString : Tryd.prog.cellsOf 9 = 1 := by kernel_rfl
theorem Tryd.cellsLevel : Tryd.prog.cellsOf 64 = 3 := by kernel_rfl
theorem marks_data : (Rows.laid_legation_formula_marks : DataW Unit) = .agg (marksL.map fun l => .lit (.string l)) := rfl
theorem levels_data : (Rows.laid_legation_formula_levels : DataW Unit) = .agg (levelsL.map fun x => .agg [.lit (.int .i64 (x.1 : Int)), .lit (.int .i64 (x.2.1 : Int)), .lit (.bool x.2.2)]) := rfl
theorem var_cell {P : Program} {w : World} {n : String} {g : Nat} {cs : Array Value} (hg : P.globalNamed n = some g) (hv : w.var? P n = some cs) (i : Nat) : w.cell? ⟨g, i, none⟩ = cs.toList[i]? := by
  rw [World.var?_cell hg hv i, ← Array.getElem?_toList]
theorem marks_cell {w : World} (h : Lib.VarReads Tryd.prog w "legation/formula.marks" Rows.laid_legation_formula_marks) (k : Nat) (hk : k < 27) : w.cell? ⟨1, k, none⟩ = some (.string (bs (markN k))) := by
  obtain ⟨g, t, cs, fuel, p, hg, hty, hvar, hd⟩ := h
  obtain rfl := Option.some.inj (gMarks.symm.trans hg)
  obtain rfl := Option.some.inj (yMarks.symm.trans hty)
  rw [marks_data] at hd
  obtain ⟨f', d, q, hdi, ht⟩ := Lib.array_elem Tryd.underlying81 hd k hk
  rw [Tryd.cellsString, Nat.mul_one] at ht
  obtain ⟨s, hs, hx, _⟩ := DataW.trod_string Tryd.underlying9 ht
  have hc := at_of_take hs
  rw [var_cell hg hvar k, hc]
  have hlen : k < marksL.length := hk
  rw [List.getElem?_map, List.getElem?_eq_getElem hlen] at hdi
  have hx1 := congrArg Prod.fst hx
  simp only [Option.map_some, Option.some.injEq] at hdi hx1
  rw [← hdi] at hx1
  have e : marksL[k] = s.data.toList := by simpa using hx1
  rw [show markN k = marksL[k] by unfold markN; simp [List.getD, List.getElem?_eq_getElem hlen], e]
  rfl
theorem levels_cell {w : World} (h : Lib.VarReads Tryd.prog w "legation/formula.levels" Rows.laid_legation_formula_levels) (k : Nat) (hk : k < 5) :
    w.cell? ⟨0, k * 3, none⟩ = some (.int .i64 (lev k).1) ∧ w.cell? ⟨0, k * 3 + 1, none⟩ = some (.int .i64 (lev k).2.1) ∧ w.cell? ⟨0, k * 3 + 2, none⟩ = some (.bool (lev k).2.2) := by
  obtain ⟨g, t, cs, fuel, p, hg, hty, hvar, hd⟩ := h
  obtain rfl := Option.some.inj (gLevels.symm.trans hg)
  obtain rfl := Option.some.inj (yLevels.symm.trans hty)
  rw [levels_data] at hd
  obtain ⟨f', d, q, hdi, ht⟩ := Lib.array_elem Tryd.underlying65 hd k hk
  rw [Tryd.cellsLevel] at ht
  obtain ⟨xs, n, _, hx, hl, hlen, hall⟩ := DataW.trod_struct Tryd.underlying64 ht
  have hkl : k < levelsL.length := hk
  rw [List.getElem?_map, List.getElem?_eq_getElem hkl] at hdi
  have hx1 := congrArg Prod.fst hx
  simp only [Option.map_some, Option.some.injEq] at hdi hx1
  rw [← hdi] at hx1
  have hlv : lev k = levelsL[k] := by unfold lev; simp [List.getD, List.getElem?_eq_getElem hkl]
  rw [hlv]
  generalize levelsL[k] = z at hx1
  obtain ⟨z0, z1, z2⟩ := z
  match xs, hlen with
  | [x0, x1, x2], _ =>
    have f0 := hall 0 _ rfl
    have f1 := hall 1 _ rfl
    have f2 := hall 2 _ rfl
    simp only [List.getElem?_cons_zero, List.getElem?_cons_succ] at f0 f1 f2
    obtain ⟨i0, c0, rfl, _⟩ := DataW.trod_int Tryd.underlying3 f0
    obtain ⟨i1, c1, rfl, _⟩ := DataW.trod_int Tryd.underlying3 f1
    obtain ⟨i2, c2, rfl⟩ := DataW.trod_bool Tryd.underlying4 f2
    simp at hx1
    obtain ⟨rfl, rfl, rfl⟩ := hx1
    have g0 := congrArg (·[0]?) c0
    have g1 := congrArg (·[0]?) c1
    have g2 := congrArg (·[0]?) c2
    simp [List.getElem?_take, List.getElem?_drop] at g0 g1 g2
    refine ⟨?_, ?_, ?_⟩
    · rw [var_cell hg hvar]; simpa using g0.2
    · rw [var_cell hg hvar]; simpa using g1.2
    · rw [var_cell hg hvar]; simpa using g2.2

end Go.Proofs.YtgkpdcjkobieiaaDoor
