/- For any table, any texts and a number, any aggregates the statement's function GroupOrder answers true, and its arguments read behind the call as they did. No condition. (Written by gen/mkproof13.py.) -/
import Derived.Test.YtdnfaoanaehjhaaGreatDoorLawGrpOrder
import Derived.Test.YtdnfaoanaehjhaaGreatDoorGrpOpenBy
import Derived.Test.YtdnfaoanaehjhaaGreatDoorH30
import Derived.Test.YtdnfaoanaehjhaaGreatDoorCards
import Derived.Test.YtdnfaoanaehjhaaGreatDoorTie
namespace Go.Proofs.YtdnfaoanaehjhaaGreatDoor
open Go.ChangeShapes Go.WideShapes Go.ChangeAt Go.RowKit Go.Joins
open Go.ChangeMaps (open_string shut_string)

theorem groupOrder_laid (os : Os) : laidMet Tryz.prog Rows.groupOrderRow.laid ((laidWorld os).forCall (fun _ _ => 0) ⟨#[], #[.agg #[.slice none 0 0, .slice none 0 0], .agg #[.slice none 0 0, .int .i64 0], .slice none 0 0], []⟩).memory :=
  laidMet_of_run' 8 (by kernel_rfl) (by kernel_rfl)
theorem groupOrder_reads (os : Os) {H : Type} (enc : TypeId × Value → H) : ∃ places, DataW.whole enc Tryz.prog ((laidWorld os).forCall (fun _ _ => 0) ⟨#[], #[.agg #[.slice none 0 0, .slice none 0 0], .agg #[.slice none 0 0, .int .i64 0], .slice none 0 0], []⟩).memory Tryz.f7.params.toList Rows.groupOrderSpec.vars false (#[.agg #[.slice none 0 0, .slice none 0 0], .agg #[.slice none 0 0, .int .i64 0], .slice none 0 0] : Array Value).toList 8 = some ([.agg [.nil, .nil], .agg [.nil, .lit (.int .i64 0)], .nil], [], places) :=
  ⟨[], by kernel_rfl⟩

set_option maxRecDepth 100000 in
theorem groupOrder_lifted (os : Os) (started : os.Started) (H : Type) (enc : TypeId × Value → H) (F : Stop.Interp) :
    ReturnsInHanded {} Tryz.checked os 7 .any ((OpenSpec.ofChange Rows.groupOrderSpec).preRow enc Tryz.prog Tryz.f7 Rows.groupOrderRow.domain false Rows.groupOrderRow.laid) (((OpenSpec.ofChange Rows.groupOrderSpec).at F).post enc Tryz.prog Tryz.f7 false true false false) := by
  obtain ⟨places, hx⟩ := groupOrder_reads os enc
  refine returnsInHanded_of_row (C := Tryz.checked) (s := OpenSpec.ofChange Rows.groupOrderSpec) Tryz.own started (by kernel_rfl) Tryz.func7
    (witness_row_at (enc := enc) (C := Tryz.checked) false (laidWorld os) #[.agg #[.slice none 0 0, .slice none 0 0], .agg #[.slice none 0 0, .int .i64 0], .slice none 0 0] rfl (by kernel_rfl) (by kernel_rfl) (by kernel_rfl)
      (OpenSpec.preRow_of_cond 8 hx (by kernel_rfl) (fun k hk => by cases hk) (by kernel_rfl) (groupOrder_laid os))) ?_
  intro W base args ds gs before hval0 hW _ _ hsz0 hL _ _
  have hG : Nm.Good W := good_of hL
  have hval : ∀ (j : Nat) t v, Tryz.f7.params[j]? = some t → args[j]? = some v → Value.okWide Tryz.prog W .any base t v := hval0
  have hreach : (DataW.weightsEach Tryz.prog (Tryz.f7.params.toList ++ Rows.groupOrderSpec.plain.varTypes Tryz.prog) (ds ++ gs)).all (· ≤ reachBytes) = true := hsz0
  have hW' := hW
  obtain ⟨p, q, hA0, hV, hbq, _, _⟩ := hW
  have hA : DataW.TrodAll enc Tryz.prog W 0 (fun _ => true) true Tryz.f7.params.toList args.toList ds p := hA0
  rw [Tryz.params7] at hA hval hreach
  obtain ⟨v0, v1, v2, d0, d1, d2, p0, p1, p2, rfl, rfl, rfl, h0, h1, h2⟩ := trodAll_three hA
  obtain ⟨rfl, rfl⟩ := trodVars_none hV
  have hlt0 : ∀ x ∈ p0, x.block < W.heap.size := fun x hx => hW'.lt x (by rw [hbq]; simp [hx])
  have hlt1 : ∀ x ∈ p1, x.block < W.heap.size := fun x hx => hW'.lt x (by rw [hbq]; simp [hx])
  have hlt2 : ∀ x ∈ p2, x.block < W.heap.size := fun x hx => hW'.lt x (by rw [hbq]; simp [hx])
  obtain ⟨cs0, rfl, hsz01⟩ := okWide_struct Tryz.underlying25 (hval 0 25 v0 rfl rfl)
  rw [Tryz.cellsTable] at hsz01
  obtain ⟨l0⟩ := cs0
  obtain ⟨V0, R0, hTab0, hVo0, hRo0⟩ : ∃ V R, TabA W (.agg l0.toArray) V R ∧ okV V ∧ ∀ r ∈ R, ∀ t ∈ r, okT t := by
    obtain ⟨fuel, hf⟩ := h0
    exact open_tab (by simpa using hsz01) hf
  obtain ⟨cs1, rfl, hsz11⟩ := okWide_struct Tryz.underlying53 (hval 1 53 v1 rfl rfl)
  rw [Tryz.cellsBy] at hsz11
  obtain ⟨l1⟩ := cs1
  obtain ⟨ta1, tn1, tc1, L1, u1, hl1, hL1, hLo1⟩ : ∃ a n cap L u, l1 = [.slice a n cap, .int .i64 u] ∧ TxtA W a n cap L ∧ ∀ x ∈ L, okS x := by
    obtain ⟨fuel, hf⟩ := h1
    exact open_by (by simpa using hsz11) hf
  subst hl1
  obtain ⟨b2, m2, e2, rfl⟩ := okWide_slice Tryz.underlying26 (hval 2 26 v2 rfl rfl)
  obtain ⟨ga2, gn2, gc2, G2, hc2, hGs2, hGo2, hGe2⟩ : ∃ a n cap K, Value.slice b2 m2 e2 = .slice a n cap ∧ AgA W a n cap K ∧ (∀ x ∈ K, x.ok) ∧ n * 16 ≤ 140737488355328 := by
    obtain ⟨fuel, hf⟩ := h2
    obtain ⟨a, n, cap, K, g1, g2, g3⟩ := open_aggs hf
    rw [g1] at hf
    refine ⟨a, n, cap, K, g1, g2, g3, Nat.le_trans (Nat.mul_le_mul_left n (by decide : 16 ≤ 40)) (Nat.le_trans (agg_reach hf (M := reachBytes) (fun x hx => ?_)) (by decide))⟩
    exact of_decide_eq_true (List.all_eq_true.1 hreach x (by unfold DataW.weightsEach; refine List.mem_append.2 (.inr ?_); unfold DataW.weightsEach; refine List.mem_append.2 (.inr ?_); unfold DataW.weightsEach; exact List.mem_append.2 (.inl hx)))
  rw [hc2] at h2 hW' ⊢
  refine (groupOrder_calls V0 R0 L1 G2 u1 hVo0 hRo0 hLo1 hGo2 _ ta1 tn1 tc1 ga2 gn2 gc2 hGe2 W hG hTab0 hL1 hGs2).mono fun e W' ⟨he, hw⟩ => ?_
  subst he
  exact ⟨_, rfl, ⟨_, _, _, [], _, [], hW', trodAll_mk1 (shut_bool Tryz.underlying4 true), trodAll_cons_mk (Below.trod laid_out (by kernel_rfl) (of_decide_eq_true (by kernel_rfl)) h0 hw hlt0) (trodAll_cons_mk (Below.trod laid_out (by kernel_rfl) (of_decide_eq_true (by kernel_rfl)) h1 hw hlt1) (trodAll_mk1 (Below.trod laid_out (by kernel_rfl) (of_decide_eq_true (by kernel_rfl)) h2 hw hlt2))), rfl, hw.frame _, fun h => by cases h⟩⟩

theorem groupOrder_holds : Rows.GroupOrderSaid :=
  OpenClaim.holds_of_cond 7 Tryz.f7 rfl rfl rfl rfl rfl rfl rfl ⟨rfl, rfl, rfl, rfl, rfl⟩ rfl rfl rfl rfl rfl (by kernel_rfl) Tryz.func7 (by kernel_rfl)
    (of_decide_eq_true (by kernel_rfl)) (by unfold Func.isWrapper; rw [if_neg (of_decide_eq_false (by kernel_rfl))]; exact ⟨rfl, rfl⟩)
    (fun os started H enc _ F => by rw [OpenClaim.pre_eq_preRow]; exact groupOrder_lifted os started H enc F)

/- no parameter wants a stand-in; the program's own looks are off -/
theorem groupOrder_plain (f : FuncId) (fn : Func) (hf : Tryz.pinned.checked.prog.funcNamed "legation/legationlaw13.GroupOrder" = some f) (hfn : Tryz.pinned.checked.prog.funcs[f]? = some fn) :
    false = Tryz.pinned.checked.prog.looks [] ∧ ∀ (j : Nat) t, fn.params[j]? = some t → Tryz.pinned.checked.prog.wantsStandIn t = false := by
  obtain rfl : f = 7 := Option.some.inj ((show Tryz.prog.funcNamed "legation/legationlaw13.GroupOrder" = some 7 by kernel_rfl).symm.trans hf) |>.symm
  obtain rfl : fn = Tryz.f7 := (Option.some.inj (Tryz.func7.symm.trans hfn)).symm
  refine ⟨by kernel_rfl, fun j t ht => ?_⟩
  rw [Tryz.params7] at ht
  have hm : t ∈ [25, 53, 26] := by simpa using Array.mem_of_getElem? ht
  have hall : ([25, 53, 26].all fun u => !Tryz.prog.wantsStandIn u) = true := by kernel_rfl
  exact (show Tryz.prog.wantsStandIn t = false by simpa using List.all_eq_true.1 hall t hm)

theorem groupOrder_card : Rows.GroupOrderCardSaid :=
  Claim7.holds_tied_plain_at .later [] _ _ _ _ groupOrder_holds (fun _ h => by cases h) (by kernel_rfl) (fun _ h => by cases h) groupOrder_row_tie rfl ⟨rfl, rfl⟩ (by kernel_rfl) rfl groupOrder_plain (by kernel_rfl)

end Go.Proofs.YtdnfaoanaehjhaaGreatDoor
