/- For any table the statement's function ShapeDistincts answers true, and its arguments read behind the call as they did. No condition. (Written by gen/mkproof12.py.) -/
import Derived.Test.YtkfemnjblbnclaaGreatDoorLawShpDistincts
import Derived.Test.YtkfemnjblbnclaaGreatDoorGOpens
import Derived.Test.YtkfemnjblbnclaaGreatDoorCards
import Derived.Test.YtkfemnjblbnclaaGreatDoorTie
namespace Go.Proofs.YtkfemnjblbnclaaGreatDoor
open Go.ChangeShapes Go.WideShapes Go.ChangeAt Go.RowKit Go.Joins

theorem shapeDistincts_laid (os : Os) : laidMet Tryz.prog Rows.shapeDistinctsRow.laid ((laidWorld os).forCall (fun _ _ => 0) ⟨#[], #[.agg #[.slice none 0 0, .slice none 0 0]], []⟩).memory :=
  laidMet_of_run' 8 (by kernel_rfl) (by kernel_rfl)
theorem shapeDistincts_reads (os : Os) {H : Type} (enc : TypeId × Value → H) : ∃ places, DataW.whole enc Tryz.prog ((laidWorld os).forCall (fun _ _ => 0) ⟨#[], #[.agg #[.slice none 0 0, .slice none 0 0]], []⟩).memory Tryz.f6.params.toList Rows.shapeDistinctsSpec.vars false (#[.agg #[.slice none 0 0, .slice none 0 0]] : Array Value).toList 8 = some ([.agg [.nil, .nil]], [], places) :=
  ⟨[], by kernel_rfl⟩

set_option maxRecDepth 100000 in
theorem shapeDistincts_lifted (os : Os) (started : os.Started) (H : Type) (enc : TypeId × Value → H) (F : Stop.Interp) :
    ReturnsInHanded {} Tryz.checked os 6 .any ((OpenSpec.ofChange Rows.shapeDistinctsSpec).preRow enc Tryz.prog Tryz.f6 Rows.shapeDistinctsRow.domain false Rows.shapeDistinctsRow.laid) (((OpenSpec.ofChange Rows.shapeDistinctsSpec).at F).post enc Tryz.prog Tryz.f6 false true false false) := by
  obtain ⟨places, hx⟩ := shapeDistincts_reads os enc
  refine returnsInHanded_of_row (C := Tryz.checked) (s := OpenSpec.ofChange Rows.shapeDistinctsSpec) Tryz.own started (by kernel_rfl) Tryz.func6
    (witness_row_at (enc := enc) (C := Tryz.checked) false (laidWorld os) #[.agg #[.slice none 0 0, .slice none 0 0]] rfl (by kernel_rfl) (by kernel_rfl) (by kernel_rfl)
      (OpenSpec.preRow_of_cond 8 hx (by kernel_rfl) (fun k hk => by cases hk) (by kernel_rfl) (shapeDistincts_laid os))) ?_
  intro W base args ds gs before hval0 hW _ _ hsz0 hL _ _
  have hG : Nm.Good W := good_of hL
  have hval : ∀ (j : Nat) t v, Tryz.f6.params[j]? = some t → args[j]? = some v → Value.okWide Tryz.prog W .any base t v := hval0
  have hreach : (DataW.weightsEach Tryz.prog (Tryz.f6.params.toList ++ Rows.shapeDistinctsSpec.plain.varTypes Tryz.prog) (ds ++ gs)).all (· ≤ reachBytes) = true := hsz0
  have hW' := hW
  obtain ⟨p, q, hA0, hV, hbq, _, _⟩ := hW
  have hA : DataW.TrodAll enc Tryz.prog W 0 (fun _ => true) true Tryz.f6.params.toList args.toList ds p := hA0
  rw [Tryz.params6] at hA hval hreach
  obtain ⟨v0, d0, rfl, rfl, h0⟩ := trodAll_one hA
  obtain ⟨rfl, rfl⟩ := trodVars_none hV
  have hlt0 : ∀ x ∈ p, x.block < W.heap.size := fun x hx => hW'.lt x (by rw [hbq]; simp [hx])
  obtain ⟨cs0, rfl, hsz01⟩ := okWide_struct Tryz.underlying31 (hval 0 31 v0 rfl rfl)
  rw [Tryz.cellsTable] at hsz01
  obtain ⟨l0⟩ := cs0
  obtain ⟨V0, R0, hTab0, hVo0, hRo0, hRe0⟩ : ∃ V R, TabA W (.agg l0.toArray) V R ∧ okV V ∧ (∀ r ∈ R, ∀ t ∈ r, okT t) ∧ ∀ r ∈ R, r.length * 56 ≤ 140737488355328 := by
    obtain ⟨fuel, hf⟩ := h0
    obtain ⟨V, R, g1, g2, g3⟩ : ∃ V R, TabA W (.agg l0.toArray) V R ∧ okV V ∧ ∀ r ∈ R, ∀ t ∈ r, okT t := open_tab (by simpa using hsz01) hf
    refine ⟨V, R, g1, g2, g3, fun r hr => Nat.le_trans (tab_reach (l := l0) hf (M := reachBytes) (fun x hx => ?_) g1 r hr) (by decide)⟩
    exact of_decide_eq_true (List.all_eq_true.1 hreach x (by unfold DataW.weightsEach; exact List.mem_append.2 (.inl hx)))
  refine (shapeDistincts_calls V0 R0 hVo0 hRo0 hRe0 _ W hG hTab0).mono fun e W' ⟨he, hw⟩ => ?_
  subst he
  exact ⟨_, rfl, ⟨_, _, _, [], _, [], hW', trodAll_mk1 (shut_bool Tryz.underlying4 true), trodAll_mk1 (Below.trod laid_out (by kernel_rfl) (of_decide_eq_true (by kernel_rfl)) h0 hw hlt0), rfl, hw.frame _, fun h => by cases h⟩⟩

theorem shapeDistincts_holds : Rows.ShapeDistinctsSaid :=
  OpenClaim.holds_of_cond 6 Tryz.f6 rfl rfl rfl rfl rfl rfl rfl ⟨rfl, rfl, rfl, rfl, rfl⟩ rfl rfl rfl rfl rfl (by kernel_rfl) Tryz.func6 (by kernel_rfl)
    (of_decide_eq_true (by kernel_rfl)) (by unfold Func.isWrapper; rw [if_neg (of_decide_eq_false (by kernel_rfl))]; exact ⟨rfl, rfl⟩)
    (fun os started H enc _ F => by rw [OpenClaim.pre_eq_preRow]; exact shapeDistincts_lifted os started H enc F)

/- no parameter wants a stand-in; the program's own looks are off -/
theorem shapeDistincts_plain (f : FuncId) (fn : Func) (hf : Tryz.pinned.checked.prog.funcNamed "legation/legationlaw12.ShapeDistincts" = some f) (hfn : Tryz.pinned.checked.prog.funcs[f]? = some fn) :
    false = Tryz.pinned.checked.prog.looks [] ∧ ∀ (j : Nat) t, fn.params[j]? = some t → Tryz.pinned.checked.prog.wantsStandIn t = false := by
  obtain rfl : f = 6 := Option.some.inj ((show Tryz.prog.funcNamed "legation/legationlaw12.ShapeDistincts" = some 6 by kernel_rfl).symm.trans hf) |>.symm
  obtain rfl : fn = Tryz.f6 := (Option.some.inj (Tryz.func6.symm.trans hfn)).symm
  refine ⟨by kernel_rfl, fun j t ht => ?_⟩
  rw [Tryz.params6] at ht
  have hm : t ∈ [31] := by simpa using Array.mem_of_getElem? ht
  have hall : ([31].all fun u => !Tryz.prog.wantsStandIn u) = true := by kernel_rfl
  exact (show Tryz.prog.wantsStandIn t = false by simpa using List.all_eq_true.1 hall t hm)

theorem shapeDistincts_card : Rows.ShapeDistinctsCardSaid :=
  Claim7.holds_tied_plain_at .later [] _ _ _ _ shapeDistincts_holds (fun _ h => by cases h) (by kernel_rfl) (fun _ h => by cases h) shapeDistincts_row_tie rfl ⟨rfl, rfl⟩ (by kernel_rfl) rfl shapeDistincts_plain (by kernel_rfl)

end Go.Proofs.YtkfemnjblbnclaaGreatDoor
