/- For any table and any aggregate the statement's function GroupOfs answers true, and its arguments read behind the call as they did. No condition. (Written by gen/mkproof13.py.) -/
import Derived.Test.YtdnfaoanaehjhaaGreatDoorLawGrpOfs
import Derived.Test.YtdnfaoanaehjhaaGreatDoorH30
import Derived.Test.YtdnfaoanaehjhaaGreatDoorCards
import Derived.Test.YtdnfaoanaehjhaaGreatDoorTie
namespace Go.Proofs.YtdnfaoanaehjhaaGreatDoor
open Go.ChangeShapes Go.WideShapes Go.ChangeAt Go.RowKit Go.Joins
open Go.ChangeMaps (open_string shut_string)

theorem groupOfs_laid (os : Os) : laidMet Tryz.prog Rows.groupOfsRow.laid ((laidWorld os).forCall (fun _ _ => 0) ⟨#[], #[.agg #[.slice none 0 0, .slice none 0 0], .agg #[.int .i64 0, .string ⟨#[]⟩, .string ⟨#[]⟩]], []⟩).memory :=
  laidMet_of_run' 8 (by kernel_rfl) (by kernel_rfl)
theorem groupOfs_reads (os : Os) {H : Type} (enc : TypeId × Value → H) : ∃ places, DataW.whole enc Tryz.prog ((laidWorld os).forCall (fun _ _ => 0) ⟨#[], #[.agg #[.slice none 0 0, .slice none 0 0], .agg #[.int .i64 0, .string ⟨#[]⟩, .string ⟨#[]⟩]], []⟩).memory Tryz.f5.params.toList Rows.groupOfsSpec.vars false (#[.agg #[.slice none 0 0, .slice none 0 0], .agg #[.int .i64 0, .string ⟨#[]⟩, .string ⟨#[]⟩]] : Array Value).toList 8 = some ([.agg [.nil, .nil], .agg [.lit (.int .i64 0), .lit (.string []), .lit (.string [])]], [], places) :=
  ⟨[], by kernel_rfl⟩

set_option maxRecDepth 100000 in
theorem groupOfs_lifted (os : Os) (started : os.Started) (H : Type) (enc : TypeId × Value → H) (F : Stop.Interp) :
    ReturnsInHanded {} Tryz.checked os 5 .any ((OpenSpec.ofChange Rows.groupOfsSpec).preRow enc Tryz.prog Tryz.f5 Rows.groupOfsRow.domain false Rows.groupOfsRow.laid) (((OpenSpec.ofChange Rows.groupOfsSpec).at F).post enc Tryz.prog Tryz.f5 false true false false) := by
  obtain ⟨places, hx⟩ := groupOfs_reads os enc
  refine returnsInHanded_of_row (C := Tryz.checked) (s := OpenSpec.ofChange Rows.groupOfsSpec) Tryz.own started (by kernel_rfl) Tryz.func5
    (witness_row_at (enc := enc) (C := Tryz.checked) false (laidWorld os) #[.agg #[.slice none 0 0, .slice none 0 0], .agg #[.int .i64 0, .string ⟨#[]⟩, .string ⟨#[]⟩]] rfl (by kernel_rfl) (by kernel_rfl) (by kernel_rfl)
      (OpenSpec.preRow_of_cond 8 hx (by kernel_rfl) (fun k hk => by cases hk) (by kernel_rfl) (groupOfs_laid os))) ?_
  intro W base args ds gs before hval0 hW _ _ _ hL _ _
  have hG : Nm.Good W := good_of hL
  have hval : ∀ (j : Nat) t v, Tryz.f5.params[j]? = some t → args[j]? = some v → Value.okWide Tryz.prog W .any base t v := hval0
  have hW' := hW
  obtain ⟨p, q, hA0, hV, hbq, _, _⟩ := hW
  have hA : DataW.TrodAll enc Tryz.prog W 0 (fun _ => true) true Tryz.f5.params.toList args.toList ds p := hA0
  rw [Tryz.params5] at hA hval
  obtain ⟨v0, v1, d0, d1, p0, p1, rfl, rfl, rfl, h0, h1⟩ := trodAll_two hA
  obtain ⟨rfl, rfl⟩ := trodVars_none hV
  have hlt0 : ∀ x ∈ p0, x.block < W.heap.size := fun x hx => hW'.lt x (by rw [hbq]; simp [hx])
  have hlt1 : ∀ x ∈ p1, x.block < W.heap.size := fun x hx => hW'.lt x (by rw [hbq]; simp [hx])
  obtain ⟨cs0, rfl, hsz01⟩ := okWide_struct Tryz.underlying25 (hval 0 25 v0 rfl rfl)
  rw [Tryz.cellsTable] at hsz01
  obtain ⟨l0⟩ := cs0
  obtain ⟨V0, R0, hTab0, hVo0, hRo0⟩ : ∃ V R, TabA W (.agg l0.toArray) V R ∧ okV V ∧ ∀ r ∈ R, ∀ t ∈ r, okT t := by
    obtain ⟨fuel, hf⟩ := h0
    exact open_tab (by simpa using hsz01) hf
  obtain ⟨cs1, rfl, hsz11⟩ := okWide_struct Tryz.underlying41 (hval 1 41 v1 rfl rfl)
  rw [Tryz.cellsAgg] at hsz11
  obtain ⟨l1⟩ := cs1
  obtain ⟨a1, hl1, hao1⟩ : ∃ t : AggL, l1 = cellsG t ∧ t.ok := by
    obtain ⟨fuel, hf⟩ := h1
    exact open_agg3 (by simpa using hsz11) hf
  subst hl1
  refine (groupOfs_calls V0 R0 a1 hVo0 (fun r hr t ht => (hRo0 r hr t ht).1) hao1 _ W hG hTab0).mono fun e W' ⟨he, hw⟩ => ?_
  subst he
  exact ⟨_, rfl, ⟨_, _, _, [], _, [], hW', trodAll_mk1 (shut_bool Tryz.underlying4 true), trodAll_cons_mk (Below.trod laid_out (by kernel_rfl) (of_decide_eq_true (by kernel_rfl)) h0 hw hlt0) (trodAll_mk1 (Below.trod laid_out (by kernel_rfl) (of_decide_eq_true (by kernel_rfl)) h1 hw hlt1)), rfl, hw.frame _, fun h => by cases h⟩⟩

theorem groupOfs_holds : Rows.GroupOfsSaid :=
  OpenClaim.holds_of_cond 5 Tryz.f5 rfl rfl rfl rfl rfl rfl rfl ⟨rfl, rfl, rfl, rfl, rfl⟩ rfl rfl rfl rfl rfl (by kernel_rfl) Tryz.func5 (by kernel_rfl)
    (of_decide_eq_true (by kernel_rfl)) (by unfold Func.isWrapper; rw [if_neg (of_decide_eq_false (by kernel_rfl))]; exact ⟨rfl, rfl⟩)
    (fun os started H enc _ F => by rw [OpenClaim.pre_eq_preRow]; exact groupOfs_lifted os started H enc F)

/- no parameter wants a stand-in; the program's own looks are off -/
theorem groupOfs_plain (f : FuncId) (fn : Func) (hf : Tryz.pinned.checked.prog.funcNamed "legation/legationlaw13.GroupOfs" = some f) (hfn : Tryz.pinned.checked.prog.funcs[f]? = some fn) :
    false = Tryz.pinned.checked.prog.looks [] ∧ ∀ (j : Nat) t, fn.params[j]? = some t → Tryz.pinned.checked.prog.wantsStandIn t = false := by
  obtain rfl : f = 5 := Option.some.inj ((show Tryz.prog.funcNamed "legation/legationlaw13.GroupOfs" = some 5 by kernel_rfl).symm.trans hf) |>.symm
  obtain rfl : fn = Tryz.f5 := (Option.some.inj (Tryz.func5.symm.trans hfn)).symm
  refine ⟨by kernel_rfl, fun j t ht => ?_⟩
  rw [Tryz.params5] at ht
  have hm : t ∈ [25, 41] := by simpa using Array.mem_of_getElem? ht
  have hall : ([25, 41].all fun u => !Tryz.prog.wantsStandIn u) = true := by kernel_rfl
  exact (show Tryz.prog.wantsStandIn t = false by simpa using List.all_eq_true.1 hall t hm)

theorem groupOfs_card : Rows.GroupOfsCardSaid :=
  Claim7.holds_tied_plain_at .later [] _ _ _ _ groupOfs_holds (fun _ h => by cases h) (by kernel_rfl) (fun _ h => by cases h) groupOfs_row_tie rfl ⟨rfl, rfl⟩ (by kernel_rfl) rfl groupOfs_plain (by kernel_rfl)

end Go.Proofs.YtdnfaoanaehjhaaGreatDoor
