/- For any table and any text the statement's function GroupEnds answers true, and its arguments read behind the call as they did. No condition. (Written by gen/mkproof13.py.) -/
import Derived.Test.YtdnfaoanaehjhaaGreatDoorLawGrpEnds
import Derived.Test.YtdnfaoanaehjhaaGreatDoorH30
import Derived.Test.YtdnfaoanaehjhaaGreatDoorCards
import Derived.Test.YtdnfaoanaehjhaaGreatDoorTie
namespace Go.Proofs.YtdnfaoanaehjhaaGreatDoor
open Go.ChangeShapes Go.WideShapes Go.ChangeAt Go.RowKit Go.Joins
open Go.ChangeMaps (open_string shut_string)

theorem groupEnds_laid (os : Os) : laidMet Tryz.prog Rows.groupEndsRow.laid ((laidWorld os).forCall (fun _ _ => 0) ⟨#[], #[.agg #[.slice none 0 0, .slice none 0 0], .string ⟨#[]⟩], []⟩).memory :=
  laidMet_of_run' 8 (by kernel_rfl) (by kernel_rfl)
theorem groupEnds_reads (os : Os) {H : Type} (enc : TypeId × Value → H) : ∃ places, DataW.whole enc Tryz.prog ((laidWorld os).forCall (fun _ _ => 0) ⟨#[], #[.agg #[.slice none 0 0, .slice none 0 0], .string ⟨#[]⟩], []⟩).memory Tryz.f8.params.toList Rows.groupEndsSpec.vars false (#[.agg #[.slice none 0 0, .slice none 0 0], .string ⟨#[]⟩] : Array Value).toList 8 = some ([.agg [.nil, .nil], .lit (.string [])], [], places) :=
  ⟨[], by kernel_rfl⟩

set_option maxRecDepth 100000 in
theorem groupEnds_lifted (os : Os) (started : os.Started) (H : Type) (enc : TypeId × Value → H) (F : Stop.Interp) :
    ReturnsInHanded {} Tryz.checked os 8 .any ((OpenSpec.ofChange Rows.groupEndsSpec).preRow enc Tryz.prog Tryz.f8 Rows.groupEndsRow.domain false Rows.groupEndsRow.laid) (((OpenSpec.ofChange Rows.groupEndsSpec).at F).post enc Tryz.prog Tryz.f8 false true false false) := by
  obtain ⟨places, hx⟩ := groupEnds_reads os enc
  refine returnsInHanded_of_row (C := Tryz.checked) (s := OpenSpec.ofChange Rows.groupEndsSpec) Tryz.own started (by kernel_rfl) Tryz.func8
    (witness_row_at (enc := enc) (C := Tryz.checked) false (laidWorld os) #[.agg #[.slice none 0 0, .slice none 0 0], .string ⟨#[]⟩] rfl (by kernel_rfl) (by kernel_rfl) (by kernel_rfl)
      (OpenSpec.preRow_of_cond 8 hx (by kernel_rfl) (fun k hk => by cases hk) (by kernel_rfl) (groupEnds_laid os))) ?_
  intro W base args ds gs before hval0 hW _ _ _ hL _ _
  have hG : Nm.Good W := good_of hL
  have hval : ∀ (j : Nat) t v, Tryz.f8.params[j]? = some t → args[j]? = some v → Value.okWide Tryz.prog W .any base t v := hval0
  have hW' := hW
  obtain ⟨p, q, hA0, hV, hbq, _, _⟩ := hW
  have hA : DataW.TrodAll enc Tryz.prog W 0 (fun _ => true) true Tryz.f8.params.toList args.toList ds p := hA0
  rw [Tryz.params8] at hA hval
  obtain ⟨v0, v1, d0, d1, p0, p1, rfl, rfl, rfl, h0, h1⟩ := trodAll_two hA
  obtain ⟨rfl, rfl⟩ := trodVars_none hV
  have hlt0 : ∀ x ∈ p0, x.block < W.heap.size := fun x hx => hW'.lt x (by rw [hbq]; simp [hx])
  obtain ⟨cs0, rfl, hsz01⟩ := okWide_struct Tryz.underlying25 (hval 0 25 v0 rfl rfl)
  rw [Tryz.cellsTable] at hsz01
  obtain ⟨l0⟩ := cs0
  obtain ⟨V0, R0, hTab0, hVo0, hRo0⟩ : ∃ V R, TabA W (.agg l0.toArray) V R ∧ okV V ∧ ∀ r ∈ R, ∀ t ∈ r, okT t := by
    obtain ⟨fuel, hf⟩ := h0
    exact open_tab (by simpa using hsz01) hf
  obtain ⟨s1, rfl, rfl, rfl, ws1⟩ := open_string Tryz.underlying9 (hval 1 9 v1 rfl rfl) h1
  obtain ⟨x1, hx1⟩ : ∃ x : List UInt8, s1 = bs x := ⟨s1.data.toList, rfl⟩
  subst hx1
  have hxo1 : okS x1 := ws1
  refine (groupEnds_calls V0 R0 x1 hVo0 (fun r hr t ht => (hRo0 r hr t ht).1) hxo1 _ W hG hTab0).mono fun e W' ⟨he, hw⟩ => ?_
  subst he
  exact ⟨_, rfl, ⟨_, _, _, [], _, [], hW', trodAll_mk1 (shut_bool Tryz.underlying4 true), trodAll_cons_mk (Below.trod laid_out (by kernel_rfl) (of_decide_eq_true (by kernel_rfl)) h0 hw hlt0) (trodAll_mk1 (shut_string Tryz.underlying9 ws1)), rfl, hw.frame _, fun h => by cases h⟩⟩

theorem groupEnds_holds : Rows.GroupEndsSaid :=
  OpenClaim.holds_of_cond 8 Tryz.f8 rfl rfl rfl rfl rfl rfl rfl ⟨rfl, rfl, rfl, rfl, rfl⟩ rfl rfl rfl rfl rfl (by kernel_rfl) Tryz.func8 (by kernel_rfl)
    (of_decide_eq_true (by kernel_rfl)) (by unfold Func.isWrapper; rw [if_neg (of_decide_eq_false (by kernel_rfl))]; exact ⟨rfl, rfl⟩)
    (fun os started H enc _ F => by rw [OpenClaim.pre_eq_preRow]; exact groupEnds_lifted os started H enc F)

/- no parameter wants a stand-in; the program's own looks are off -/
theorem groupEnds_plain (f : FuncId) (fn : Func) (hf : Tryz.pinned.checked.prog.funcNamed "legation/legationlaw13.GroupEnds" = some f) (hfn : Tryz.pinned.checked.prog.funcs[f]? = some fn) :
    false = Tryz.pinned.checked.prog.looks [] ∧ ∀ (j : Nat) t, fn.params[j]? = some t → Tryz.pinned.checked.prog.wantsStandIn t = false := by
  obtain rfl : f = 8 := Option.some.inj ((show Tryz.prog.funcNamed "legation/legationlaw13.GroupEnds" = some 8 by kernel_rfl).symm.trans hf) |>.symm
  obtain rfl : fn = Tryz.f8 := (Option.some.inj (Tryz.func8.symm.trans hfn)).symm
  refine ⟨by kernel_rfl, fun j t ht => ?_⟩
  rw [Tryz.params8] at ht
  have hm : t ∈ [25, 9] := by simpa using Array.mem_of_getElem? ht
  have hall : ([25, 9].all fun u => !Tryz.prog.wantsStandIn u) = true := by kernel_rfl
  exact (show Tryz.prog.wantsStandIn t = false by simpa using List.all_eq_true.1 hall t hm)

theorem groupEnds_card : Rows.GroupEndsCardSaid :=
  Claim7.holds_tied_plain_at .later [] _ _ _ _ groupEnds_holds (fun _ h => by cases h) (by kernel_rfl) (fun _ h => by cases h) groupEnds_row_tie rfl ⟨rfl, rfl⟩ (by kernel_rfl) rfl groupEnds_plain (by kernel_rfl)

end Go.Proofs.YtdnfaoanaehjhaaGreatDoor
