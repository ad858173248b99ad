/- For every text the statement's function QueryRight answers true, and its argument reads behind the call as it did. No condition. -/
import Derived.Test.YtjpfoophipcglaaGreatDoorKRS2
import Derived.Deep.DeepWitnessRowRef
import Derived.Test.YtjpfoophipcglaaGreatDoorKQueryFactsRight
import Derived.Test.YtjpfoophipcglaaGreatDoorCards
import Derived.Test.YtjpfoophipcglaaGreatDoorTie
namespace Go.Proofs.YtjpfoophipcglaaGreatDoor
set_option maxRecDepth 100000
set_option maxHeartbeats 8000000
section
open Go.ChangeShapes Go.WideShapes Go.ChangeAt Go.RowKit Go.Joins
open Go.ChangeMaps (open_string shut_string)
theorem queryRight_reads (os:Os) {H:Type} (enc:TypeId×Value→H):∃places,DataW.whole enc Tryz.prog ((laidWorld8 os).forCall (fun _ _=>0) ⟨#[],#[.string ⟨#[]⟩],[]⟩).memory Tryz.f3.params.toList Rows.queryRightSpec.vars false (#[.string ⟨#[]⟩]:Array Value).toList 8=some ([.lit (.string [])],[],places) :=
  ⟨[],by kernel_rfl⟩
theorem queryRight_raised (os:Os) (started:os.Started) (H:Type) (enc:TypeId×Value→H) (F:Stop.Interp):ReturnsInHanded {} Tryz.checked os 3 .any ((OpenSpec.ofChange Rows.queryRightSpec).preRow enc Tryz.prog Tryz.f3 Rows.queryRightRow.domain false Rows.queryRightRow.laid) (((OpenSpec.ofChange Rows.queryRightSpec).at F).post enc Tryz.prog Tryz.f3 false true false false):=by
 obtain⟨places,hx⟩:=queryRight_reads os enc;refine returnsInHanded_of_row (C:=Tryz.checked) (s:=OpenSpec.ofChange Rows.queryRightSpec) Tryz.own started (by kernel_rfl) Tryz.func3
  (witness_row_atRef (enc:=enc) (C:=Tryz.checked) false (laidWorld8 os) #[.string ⟨#[]⟩] rfl (by kernel_rfl) (by kernel_rfl) (by kernel_rfl)
   (OpenSpec.preRow_of_cond 8 hx (by kernel_rfl) (fun k hk=>by cases hk) (by kernel_rfl) (met8 os _))) ?_
 intro W base args ds gs before hval0 hW _ _ _ hL _ _;obtain⟨hG,hM⟩:=good8_of hL;have hE:=errG_of hM;have hval:∀(j:Nat) t v,Tryz.f3.params[j]?=some t→args[j]?=some v→Value.okWide Tryz.prog W .any base t v:=hval0;have hW':=hW;obtain⟨p,q,hA0,hV,rfl,_,_⟩:=hW;(have hA:DataW.TrodAll enc Tryz.prog W 0 (fun _=>true) true Tryz.f3.params.toList args.toList ds p:=hA0);rw [Tryz.params3] at hA hval;obtain⟨v0,d0,rfl,rfl,h0⟩:=trodAll_one hA;obtain⟨rfl,rfl⟩:=trodVars_none hV;obtain⟨s0,rfl,rfl,rfl,ws0⟩:=open_string Tryz.underlying9 (hval 0 9 v0 rfl rfl) h0;clear hA0 hval0;(simp only [List.append_nil] at hW');(refine (queryRight_calls s0 W hG hE).mono fun e W' ⟨he,hw⟩=>?_);subst he;exact⟨_,rfl,post_kept hW' (fun _ _ _=>trodAll_mk1 (shut_bool Tryz.underlying4 true)) (fun _=>trodAll_mk1 (shut_string Tryz.underlying9 ws0)) (fun _=>rfl) hw⟩
theorem queryRight_holds:Rows.QueryRightSaid :=
  OpenClaim.holds_of_cond 3 Tryz.f3 rfl rfl rfl rfl rfl rfl rfl ⟨rfl,rfl,rfl,rfl,rfl⟩ rfl rfl rfl rfl rfl queryRight_found Tryz.func3 queryRight_facts queryRight_instance queryRight_wrapper
    (fun os started H enc _ F=>by rw [OpenClaim.pre_eq_preRow];exact queryRight_raised os started H enc F)
theorem queryRight_plain (f:FuncId) (fn:Func) (hf:Tryz.pinned.checked.prog.funcNamed "legation/legationlaw08.QueryRight"=some f) (hfn:Tryz.pinned.checked.prog.funcs[f]?=some fn):true=Tryz.pinned.checked.prog.looks []∧∀(j:Nat) t,fn.params[j]?=some t→Tryz.pinned.checked.prog.wantsStandIn t=false:=by
 (obtain rfl:f=3:=Option.some.inj ((show Tryz.prog.funcNamed "legation/legationlaw08.QueryRight"=some 3 by kernel_rfl).symm.trans hf) |>.symm);obtain rfl:fn=Tryz.f3:=(Option.some.inj (Tryz.func3.symm.trans hfn)).symm;(refine⟨by kernel_rfl,fun j t ht=>?_⟩);rw [Tryz.params3] at ht;(have hm:t∈[9]:=by simpa using Array.mem_of_getElem? ht);(have hall:([9].all fun u=>!Tryz.prog.wantsStandIn u)=true:=by kernel_rfl);exact (show Tryz.prog.wantsStandIn t=false by simpa using List.all_eq_true.1 hall t hm)
theorem queryRight_card:Rows.QueryRightCardSaid :=
  Claim7.holds_tied_plain_at .later [] _ _ _ _ queryRight_holds (fun _ h=>by cases h) (by kernel_rfl) (fun _ h=>by cases h) queryRight_row_tie rfl ⟨rfl,rfl⟩ (by kernel_rfl) rfl queryRight_plain (by kernel_rfl)
end
end Go.Proofs.YtjpfoophipcglaaGreatDoor
