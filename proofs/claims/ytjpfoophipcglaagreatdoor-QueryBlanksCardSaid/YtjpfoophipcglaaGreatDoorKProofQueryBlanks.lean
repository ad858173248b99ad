/- For every text and bytes the statement's function QueryBlanks answers true, and its arguments read behind the call as they did. No condition. -/
import Derived.Test.YtjpfoophipcglaaGreatDoorKLawBlanks
import Derived.Test.YtjpfoophipcglaaGreatDoorKQLaids
import Derived.Deep.DeepWitnessRowRef
import Derived.ChangeSlices
import Derived.Test.YtjpfoophipcglaaGreatDoorKQueryFactsBlanks
import Derived.Test.YtjpfoophipcglaaGreatDoorCards
import Derived.Test.YtjpfoophipcglaaGreatDoorTie
namespace Go.Proofs.YtjpfoophipcglaaGreatDoor
set_option maxRecDepth 100000
set_option maxHeartbeats 8000000
section
open Go.ChangeShapes Go.WideShapes Go.ChangeAt Go.RowKit Go.Joins
open Go.ChangeMaps (open_string shut_string)
theorem open_bytes8 {H:Type} {enc:TypeId×Value→H} {W:World} {base b0:Nat} {spare:Nat→Bool} {held:Bool} {v:Value} {d:DataW H} {p:List MemPlace} (hv:Value.okWide Tryz.prog W .any b0 35 v) (h:DataW.Trod enc Tryz.prog W base spare held 35 v d p):∃a n c L,v=.slice a n c∧BytA W a n c L:=by
 obtain⟨a0,len,cap,rfl⟩:=okWide_slice Tryz.underlying35 hv;obtain⟨fuel,hf⟩:=h;rcases open_ints Tryz.underlying35 Tryz.underlying5 (by kernel_rfl) hf with ⟨hcs,_⟩|⟨a,len',cap',zs,hcs,_,hl,hm,hz,_,hcell,hwz⟩
 ·(simp [Value.cells] at hcs);obtain⟨rfl,rfl,rfl⟩:=hcs;exact⟨none,0,0,[],rfl,rfl,Nat.le_refl _,Nat.zero_le _,fun h=>absurd h (Nat.lt_irrefl _)⟩
 ·(simp [Value.cells] at hcs);obtain⟨rfl,rfl,rfl⟩:=hcs;(have hzl:len≤zs.length:=by rw [hz];split<;>omega);(refine⟨some a,len,cap,(zs.take len).map fun n=>UInt8.ofNat n.toNat,rfl,by simp;omega,hl,hm,fun h0=>?_⟩);obtain⟨ab,ao,spot⟩:=a;(have hspot:spot=none:=by simpa [Addr.add] using World.cell?_spot (hcell 0 (by omega)));subst hspot;(have hlt:=World.block_lt_of_cell? _ _ (hcell 0 (by omega)));rw [block_add] at hlt;(refine⟨ab,ao,rfl,hlt,fun j hj=>?_⟩);(have hj':j<len:=by rw [List.length_map,List.length_take] at hj;omega);(have hcj:=hcell j (by omega));rw [Addr.add_lit] at hcj;rw [hcj];have hb:=range_u8 hwz j;(simp only [List.getElem_map,List.getElem_take]);(have e:zs.getD j 0=zs[j]'(by omega):=by simp [List.getD,List.getElem?_eq_getElem (show j<zs.length by omega)]);rw [List.getD_eq_getElem?_getD] at e;rw [e] at hb;rw [List.getD_eq_getElem?_getD,e];congr 2;(simp only [UInt8.toNat_ofNat']);omega
theorem queryBlanks_reads (os:Os) {H:Type} (enc:TypeId×Value→H):∃places,DataW.whole enc Tryz.prog ((laidWorld8 os).forCall (fun _ _=>0) ⟨#[],#[.string ⟨#[]⟩,.slice none 0 0],[]⟩).memory Tryz.f4.params.toList Rows.queryBlanksSpec.vars false (#[.string ⟨#[]⟩,.slice none 0 0]:Array Value).toList 8=some ([.lit (.string []),.nil],[],places) :=
  ⟨[],by kernel_rfl⟩
theorem queryBlanks_raised (os:Os) (started:os.Started) (H:Type) (enc:TypeId×Value→H) (F:Stop.Interp):ReturnsInHanded {} Tryz.checked os 4 .any ((OpenSpec.ofChange Rows.queryBlanksSpec).preRow enc Tryz.prog Tryz.f4 Rows.queryBlanksRow.domain false Rows.queryBlanksRow.laid) (((OpenSpec.ofChange Rows.queryBlanksSpec).at F).post enc Tryz.prog Tryz.f4 false true false false):=by
 obtain⟨places,hx⟩:=queryBlanks_reads os enc;refine returnsInHanded_of_row (C:=Tryz.checked) (s:=OpenSpec.ofChange Rows.queryBlanksSpec) Tryz.own started (by kernel_rfl) Tryz.func4
  (witness_row_atRef (enc:=enc) (C:=Tryz.checked) false (laidWorld8 os) #[.string ⟨#[]⟩,.slice none 0 0] rfl (by kernel_rfl) (by kernel_rfl) (by kernel_rfl)
   (OpenSpec.preRow_of_cond 8 hx (by kernel_rfl) (fun k hk=>by cases hk) (by kernel_rfl) (met8 os _))) ?_
 intro W base args ds gs before hval0 hW _ _ _ hL _ _;obtain⟨hG,hM⟩:=good8_of hL;have hE:=errG_of hM;have hval:∀(j:Nat) t v,Tryz.f4.params[j]?=some t→args[j]?=some v→Value.okWide Tryz.prog W .any base t v:=hval0;have hW':=hW;obtain⟨p,q,hA0,hV,hbq,_,_⟩:=hW;(have hA:DataW.TrodAll enc Tryz.prog W 0 (fun _=>true) true Tryz.f4.params.toList args.toList ds p:=hA0);rw [Tryz.params4] at hA hval;obtain⟨v0,v1,d0,d1,p0,p1,rfl,rfl,rfl,h0,h1⟩:=trodAll_two hA;obtain⟨rfl,rfl⟩:=trodVars_none hV;obtain⟨s0,rfl,rfl,rfl,ws0⟩:=open_string Tryz.underlying9 (hval 0 9 v0 rfl rfl) h0;(have hlt:∀x∈p1,x.block<W.heap.size:=fun x hx=>hW'.lt x (by rw [hbq];simp [hx]));obtain⟨ba,bn,bc,BL,rfl,hB⟩:=open_bytes8 (hval 1 35 v1 rfl rfl) h1;clear hA0 hval0;(refine (queryBlanks_calls s0 ba bn bc BL W hG hE hB).mono fun e W' ⟨he,hw⟩=>?_);subst he;exact⟨_,rfl,⟨_,_,_,[],_,[],hW',trodAll_mk1 (shut_bool Tryz.underlying4 true),trodAll_mk2 (shut_string Tryz.underlying9 ws0) (Below.trod queryBlanks_laidOut (by kernel_rfl) (of_decide_eq_true (by kernel_rfl)) h1 hw hlt),rfl,hw.frame _,fun h=>by cases h⟩⟩
theorem queryBlanks_holds:Rows.QueryBlanksSaid :=
  OpenClaim.holds_of_cond 4 Tryz.f4 rfl rfl rfl rfl rfl rfl rfl ⟨rfl,rfl,rfl,rfl,rfl⟩ rfl rfl rfl rfl rfl queryBlanks_found Tryz.func4 queryBlanks_facts queryBlanks_instance queryBlanks_wrapper
    (fun os started H enc _ F=>by rw [OpenClaim.pre_eq_preRow];exact queryBlanks_raised os started H enc F)
theorem queryBlanks_plain (f:FuncId) (fn:Func) (hf:Tryz.pinned.checked.prog.funcNamed "legation/legationlaw08.QueryBlanks"=some f) (hfn:Tryz.pinned.checked.prog.funcs[f]?=some fn):true=Tryz.pinned.checked.prog.looks []∧∀(j:Nat) t,fn.params[j]?=some t→Tryz.pinned.checked.prog.wantsStandIn t=false:=by
 (obtain rfl:f=4:=Option.some.inj ((show Tryz.prog.funcNamed "legation/legationlaw08.QueryBlanks"=some 4 by kernel_rfl).symm.trans hf) |>.symm);obtain rfl:fn=Tryz.f4:=(Option.some.inj (Tryz.func4.symm.trans hfn)).symm;(refine⟨by kernel_rfl,fun j t ht=>?_⟩);rw [Tryz.params4] at ht;(have hm:t∈[9,35]:=by simpa using Array.mem_of_getElem? ht);(have hall:([9,35].all fun u=>!Tryz.prog.wantsStandIn u)=true:=by kernel_rfl);exact (show Tryz.prog.wantsStandIn t=false by simpa using List.all_eq_true.1 hall t hm)
theorem queryBlanks_card:Rows.QueryBlanksCardSaid :=
  Claim7.holds_tied_plain_at .later [] _ _ _ _ queryBlanks_holds (fun _ h=>by cases h) (by kernel_rfl) (fun _ h=>by cases h) queryBlanks_row_tie rfl ⟨rfl,rfl⟩ (by kernel_rfl) rfl queryBlanks_plain (by kernel_rfl)
end
end Go.Proofs.YtjpfoophipcglaaGreatDoor
