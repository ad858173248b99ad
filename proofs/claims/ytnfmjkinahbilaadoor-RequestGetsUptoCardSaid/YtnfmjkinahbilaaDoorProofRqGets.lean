/- For any bytes where the bytes are of bulk at most 1048576 the statement's function RequestGets answers true, and its arguments read behind the call as they did. The condition: that bulk (the document's own reader gathers the pairs of every part of a text before it tells that they are too many, and no slice may pass 2^48 bytes). (Written by gen/mkproof16.py.) -/
import Derived.Test.YtnfmjkinahbilaaDoorLawRqGets
import Derived.Test.YtnfmjkinahbilaaDoorRqRow
import Derived.Deep.DeepWitnessRowRef
import Derived.Test.YtnfmjkinahbilaaDoorCards
import Derived.Test.YtnfmjkinahbilaaDoorTie
namespace Go.Proofs.YtnfmjkinahbilaaDoor
open Go.ChangeShapes Go.WideShapes Go.ChangeAt Go.RowKit Go.Joins
open Go.ChangeMaps (open_string shut_string)

theorem requestGets_laid (os : Os) : laidMet Tryd.prog Rows.requestGetsUptoRow.laid ((laidWorld os).forCall (fun _ _ => 0) ⟨#[], #[.string .empty], []⟩).memory :=
  laidMet_of_run' 8 (by kernel_rfl) (by kernel_rfl)
theorem requestGets_reads (os : Os) {H : Type} (enc : TypeId × Value → H) : ∃ places, DataW.whole enc Tryd.prog ((laidWorld os).forCall (fun _ _ => 0) ⟨#[], #[.string .empty], []⟩).memory Tryd.f4.params.toList Rows.requestGetsSpec.vars false (#[.string .empty] : Array Value).toList 8 = some ([.lit (.string [])], [], places) :=
  ⟨[], by kernel_rfl⟩

set_option maxRecDepth 100000 in
theorem requestGets_raised (os : Os) (started : os.Started) (H : Type) (enc : TypeId × Value → H) (F : Stop.Interp) :
    ReturnsInHanded {} Tryd.checked os 4 .any ((Rows.OpenSpec.upto Rows.requestGetsSpec).preRow enc Tryd.prog Tryd.f4 Rows.requestGetsUptoRow.domain false Rows.requestGetsUptoRow.laid) (((Rows.OpenSpec.upto Rows.requestGetsSpec).at F).post enc Tryd.prog Tryd.f4 false true false false) := by
  obtain ⟨places, hx⟩ := requestGets_reads os enc
  refine returnsInHanded_of_row (C := Tryd.checked) (s := (Rows.OpenSpec.upto Rows.requestGetsSpec)) Tryd.own started (by kernel_rfl) Tryd.func4
    (witness_row_atRef (enc := enc) (C := Tryd.checked) false (laidWorld os) #[.string .empty] rfl (by kernel_rfl) (by kernel_rfl) (by kernel_rfl)
      (OpenSpec.preRow_of_cond 8 hx (by kernel_rfl) (fun k hk => by cases hk; kernel_rfl) (by kernel_rfl) (requestGets_laid os))) ?_
  intro W base args ds gs before hval0 hW _ hk hsz0 hL _ _
  have hG : Good W := good_of hL
  have hval : ∀ (j : Nat) t v, Tryd.f4.params[j]? = some t → args[j]? = some v → Value.okWide Tryd.prog W .any base t v := hval0
  have hW' := hW
  obtain ⟨p, q, hA0, hV, rfl, _, _⟩ := hW
  have hA : DataW.TrodAll enc Tryd.prog W 0 (fun _ => true) true Tryd.f4.params.toList args.toList ds p := hA0
  rw [Tryd.params4] at hA hval
  obtain ⟨v0, d0, rfl, rfl, h0⟩ := trodAll_one hA
  obtain ⟨rfl, rfl⟩ := trodVars_none hV
  obtain ⟨s0, rfl, rfl, rfl, ws0⟩ := open_string Tryd.underlying9 (hval 0 9 v0 rfl rfl) h0
  clear hA0 hval0
  have hk' := hk Rows.uptoSmall rfl
  simp only [List.append_nil] at hW' hk'
  have hs0 := short_one hk'
  refine (requestGets_calls s0 W hG (by omega)).mono fun e W' ⟨he, hw⟩ => ?_
  subst he
  exact ⟨_, rfl, post_kept hW' (fun _ _ _ => trodAll_mk1 (shut_bool Tryd.underlying4 true)) (fun _ => trodAll_mk1 (shut_string Tryd.underlying9 ws0)) (fun _ => rfl) hw⟩

theorem requestGets_upto : Rows.RequestGetsUptoSaid :=
  OpenClaim.holds_of_cond 4 Tryd.f4 rfl rfl rfl rfl rfl rfl rfl ⟨rfl, rfl, rfl, rfl, rfl⟩ rfl rfl rfl rfl rfl (by kernel_rfl) Tryd.func4 (by kernel_rfl)
    (of_decide_eq_true (by kernel_rfl)) (by unfold Func.isWrapper; rw [if_neg (of_decide_eq_false (by kernel_rfl))]; exact ⟨rfl, rfl⟩)
    (fun os started H enc _ F => by rw [OpenClaim.pre_eq_preRow]; exact requestGets_raised os started H enc F)

/- no parameter wants a stand-in; the program's own looks are what the card says -/
theorem requestGets_plain (f : FuncId) (fn : Func) (hf : Tryd.pinned.checked.prog.funcNamed "legation/legationlaw16.RequestGets" = some f) (hfn : Tryd.pinned.checked.prog.funcs[f]? = some fn) :
    true = Tryd.pinned.checked.prog.looks [] ∧ ∀ (j : Nat) t, fn.params[j]? = some t → Tryd.pinned.checked.prog.wantsStandIn t = false := by
  obtain rfl : f = 4 := Option.some.inj ((show Tryd.prog.funcNamed "legation/legationlaw16.RequestGets" = some 4 by kernel_rfl).symm.trans hf) |>.symm
  obtain rfl : fn = Tryd.f4 := (Option.some.inj (Tryd.func4.symm.trans hfn)).symm
  refine ⟨by kernel_rfl, fun j t ht => ?_⟩
  rw [Tryd.params4] at ht
  have hm : t ∈ [9] := by simpa using Array.mem_of_getElem? ht
  have hall : ([9].all fun u => !Tryd.prog.wantsStandIn u) = true := by kernel_rfl
  exact (show Tryd.prog.wantsStandIn t = false by simpa using List.all_eq_true.1 hall t hm)

theorem requestGets_uptocard : Rows.RequestGetsUptoCardSaid :=
  Claim7.holds_tied_plain_at .later [] _ _ _ _ requestGets_upto (fun _ h => by cases h) (by kernel_rfl) (fun _ h => by cases h) requestGetsUpto_row_tie rfl ⟨rfl, rfl⟩ (by kernel_rfl) rfl requestGets_plain (by kernel_rfl)

end Go.Proofs.YtnfmjkinahbilaaDoor
