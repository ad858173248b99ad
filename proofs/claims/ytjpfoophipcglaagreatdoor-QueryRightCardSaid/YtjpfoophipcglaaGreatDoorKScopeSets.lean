/- Sets of names that are maps: what is in one; copied, gathered, met, asked. -/
import Derived.Test.YtjpfoophipcglaaGreatDoorKRefMores
import Derived.Maps.OwnSet
import Derived.Maps.RangeWalk
import Derived.Maps.Ext
import Derived.Maps.AppendAt
import Derived.Sort.KeysCollected
import Derived.Sort.OwnSorted
import Derived.Laws.Tables
import Derived.Laws.OwnMore
namespace Go.Proofs.YtjpfoophipcglaaGreatDoor
set_option maxRecDepth 100000
set_option maxHeartbeats 8000000
section
open Go.RowKit Go.Maps Go.WideMaps
theorem lawS:Keyed Tryz.prog 9:=string_keyed Tryz.underlying9
theorem zeroU (w:World):(zeroValue 162).run Tryz.prog w=.ok (.agg #[]) w:=by kernel_rfl
theorem keyS {x:List UInt8} (h:(bs x).size≤maxLen):keyOf Tryz.prog 9 (.string (bs x))=some (.string x):=keyOf_string_mk Tryz.underlying9 h
theorem run_makeMapH (n:Int) (w:World):(Instr.makeMap 85 (some (.int .i64 n))).run Tryz.prog w=.ok (.map (some w.heap.size)) (w.alloc (.map #[] 0)):=by kernel_rfl
def OwnF (w:World) (b n:Nat) (f:List UInt8→Bool):Prop:=∃D,w.ownsMap Tryz.prog 9 (unitElem (H:=Unit)) b n D∧∀x,Maps.has D (.string x)=f x
def inL (L:List (List UInt8)) (x:List UInt8):Bool:=decide (x∈L)
def SetA (w:World) (p:Option Nat) (L:List (List UInt8)):Prop:=Rise L∧((p=none∧L=[])∨∃b n,p=some b∧OwnF w b n (inL L))
def MapsOn (w w':World):Prop:=∀(b:Nat) (es:Array MapEntry) (c:Nat),w.heap[b]?=some (.map es c)→w'.heap[b]?=some (.map es c)
theorem MapsOn.trans {a b c:World} (h:MapsOn a b) (k:MapsOn b c):MapsOn a c:=fun i es t e=>k i es t (h i es t e)
theorem mapsOn_below {w w':World} (h:Below w.heap.size w w'):MapsOn w w':=fun b es c e=>by rw [h.block b (Array.getElem?_eq_some_iff.1 e).1];exact e
theorem OwnF.on {w w':World} {b n:Nat} {f:List UInt8→Bool} (h:OwnF w b n f) (hm:MapsOn w w'):OwnF w' b n f:=by
  obtain⟨D,⟨es,c,hb,r⟩,hf⟩:=h
  exact⟨D,⟨es,c,hm b es c hb,r⟩,hf⟩
theorem SetA.on {w w':World} {p:Option Nat} {L:List (List UInt8)} (h:SetA w p L) (hm:MapsOn w w'):SetA w' p L:=by
  obtain⟨h1,h2⟩:=h
  refine⟨h1,?_⟩
  rcases h2 with h2|⟨b,n,hp,ho⟩
  · exact .inl h2
  · exact .inr ⟨b,n,hp,ho.on hm⟩
theorem setA_none (w:World):SetA w none []:=⟨rise_nil,.inl ⟨rfl,rfl⟩⟩
theorem OwnF.lt {w:World} {b n:Nat} {f:List UInt8→Bool} (h:OwnF w b n f):b<w.heap.size:=by obtain⟨D,h,_⟩:=h;exact h.lt
theorem SetA.lt {w:World} {p:Option Nat} {L:List (List UInt8)} (h:SetA w p L):∀b,p=some b→b<w.heap.size:=by
  rcases h.2 with ⟨rfl,_⟩|⟨b,n,rfl,ho⟩
  · intro b hb;cases hb
  · intro b' hb;cases hb;exact ho.lt
theorem size_names {w:World} {b n:Nat} {D:DataW Unit} {L:List (List UInt8)} (h:w.ownsMap Tryz.prog 9 unitElem b n D) (hf:∀x,Maps.has D (.string x)=inL L x) (hL:Rise L):Maps.size D=L.length:=by
  obtain⟨es,hD,hpw,_⟩:=h.entries lawS
  obtain⟨es',hD',hko⟩:=h.keysOf
  obtain rfl:es=es':=by rw [hD] at hD';simpa using hD'
  subst hD
  have hp:=perm_strKeys hpw (fun p hp=>by obtain⟨v,hv⟩:=hko p hp;obtain⟨x,_,hx,_⟩:=Maps.keyOf_str Tryz.underlying9 hv;exact⟨x,hx⟩) hL.nodup (fun x=>by rw [hf x];unfold inL;rw [decide_eq_true_eq])
  rw [hp.length_eq]
  simp [strKeys,Maps.size]
theorem grown_maps {w w':World} {row:Option Nat} (h:w.grownBy w' row) (hr:∀b es c,row=some b→w.heap[b]?≠some (.map es c)):MapsOn w w':=fun b es c e=>by
  rw [h.block b (Array.getElem?_eq_some_iff.1 e).1 (fun hb=>hr b es c hb.symm e)];exact e
theorem setHas_calls (L:List (List UInt8)) (x:List UInt8) (p:Option Nat) (w:World) (h:SetA w p L) (hx:(bs x).size≤maxLen):Calls Tryz.prog 91 #[.map p,.string (bs x)] w fun e w'=>e=.returned (.bool (inL L x))∧Below w.heap.size w w':=by
 have hkey:=keyS hx;rcases h.2 with ⟨rfl,rfl⟩|⟨b,n,rfl,D,ho,hf⟩
 ·(have hln:∀W,(Instr.lookup 85 (.map none) (.string (bs x)) true).run Tryz.prog W=.ok (.tuple #[.agg #[],.bool false]) W:=fun W=>Maps.look_nil (w:=W) true lawS Tryz.underlying85 (zeroU W) hkey);clear h;(go_enter Tryz.func91,Tryz.ntmps91);go_wp2;go_ret;exact⟨rfl,box_below _ _⟩
 ·have HF:=Hd (hf x);clear h;(go_enter Tryz.func91,Tryz.ntmps91);(go_wp2_with (at_lookup;refine wpList_lookup_own_unit _ rfl _ _ 85 rfl 9 162 lawS Tryz.underlying85 (zeroU _) b n _ rfl ho _ _ rfl hkey ?_));go_ret;exact⟨rfl,box_below _ _⟩
theorem put_has {D:DataW Unit} {f:List UInt8→Bool} (hf:∀y,Maps.has D (.string y)=f y) (hm:IsMap D) {x:List UInt8} (hk:WideAt.IsKeyLit (.string x)) (d:DataW Unit):∀y,Maps.has (D.put (.string x) d) (.string y)=(f y||decide (y=x)):=fun y=>by
  by_cases e:y=x
  · subst e
    rw [has_put_same hm hk];simp
  · rw [has_put_other (by intro c;cases c;exact e rfl),hf y,decide_eq_false e,Bool.or_false]
theorem same_str (y x:List UInt8):(Lit.string y).sameKey (.string x)=decide (y=x):=by
  by_cases e:y=x
  · subst e;simp [Lit.sameKey]
  · rw [decide_eq_false e];simp [Lit.sameKey,e]
theorem copy_some (f:List UInt8→Bool) (L:List (List UInt8)) (bd b nd n:Nat) (w:World) (hd:OwnF w bd nd f) (hs:OwnF w b n (inL L)) (hL:Rise L) (hne:bd≠b) (hroom:nd+L.length≤maxLen):Calls Tryz.prog 233 #[.map (some bd),.map (some b)] w fun e w'=>e=.returned (.tuple #[])∧OwnF w' bd (nd+L.length) (fun y=>f y||inL L y)∧w.grownBy w' (some bd):=by
 obtain⟨Dd,hd,hdf⟩:=hd;obtain⟨Ds,hs,hsf⟩:=hs;have hbd:=hd.lt;have hbs:=hs.lt;have HSZ:=Hd (size_names hs hsf hL);have HDF:=Hd hdf;have HSF:=Hd hsf;clear hdf hsf hL;(go_enter Tryz.func233,Tryz.ntmps233);go_wp2_with (first
  | (at_range;refine wpList_range_own _ rfl _ 85 rfl 9 162 lawS Tryz.underlying85 unitElem b n _ rfl hs ?_;intro w0 hrg0 hg0 hs0)
  | go_in)
 go_frame;go_loopw [8] (fun _ wr=>∃(left:Lit→Bool) (cnt:Nat) (Dout:DataW Unit),wr.ranges Tryz.prog 9 unitElem b w.heap.size n Ds left cnt∧cnt≤Maps.size Ds ∧
  wr.ownsMap Tryz.prog 9 unitElem bd (nd+(Maps.size Ds-cnt)) Dout∧(∀y,Maps.has Dout (.string y)=(Maps.has Dd (.string y)||(Maps.has Ds (.string y)&&!left (.string y))))∧w.grownBy wr (some bd))
  (fun _ wr=>wr.rangeLeft b w.heap.size)
 case atStart =>
  exact⟨_,_,Dd,hrg0,Nat.le_refl _,(hd.kept hg0 (by simp)).mono (by omega),fun y=>by cases Maps.has Ds (.string y)<;>simp,hg0.but _⟩
 case round =>
  (obtain⟨left,cnt,Dout,hrg,hcs,hout,hM,hgw⟩:=hrel);go_wp2_with (first
   | (at_next;refine wpList_next_ranges _ rfl _ rfl 9 lawS (unitElem (H:=Unit)) encStr (fun _:Unit=>Value.agg #[]) (fun key kl hk=>by obtain⟨x,hx,_⟩:=Maps.keyOf_str Tryz.underlying9 hk;exact⟨x,hx⟩) (fun v y hv=>⟨(),(unitElem_inv hv).1⟩) b w.heap.size n _ _ _ rfl hrg ?_ ?_)
   | go_in)
  ·intro hc0 hl0;go_wp2;go_end0;subst hc0;exact⟨rfl,⟨Dout,by simpa [HSZ.out] using hout,fun y=>by rw [hM y,hl0,HDF.out y,HSF.out y];simp⟩,hgw⟩
  ·intro x kl yd yp w1 cnt1 hkey hlk hv hat hrg1 hlt hg1 hs1 hen;obtain⟨x',ex,rfl,_⟩:=Maps.keyOf_str Tryz.underlying9 hkey;obtain rfl:x=x':=encStr_inj ex;(have hout1:=hout.kept hg1 (fun e=>by have:=Option.some.inj e;omega));(have hroom1:nd+(Maps.size Ds-cnt)<maxLen:=by rw [HSZ.out] at hcs ⊢;omega);clear hs1;go_wp2_with (first
    | (at_mapUpdate;refine wpList_mapUpdate_own _ rfl _ _ _ 85 rfl 9 162 lawS Tryz.underlying85 (unitElem (H:=Unit)) bd _ _ rfl (hout1.alloc _) hroom1 _ _ _ rfl rfl hkey yd yp hv ?_;intro w2 hout2 hg2;go_frame)
    | go_in)
   (have hrg2:=(hrg1.alloc _).kept hg2 (fun e=>hne (Option.some.inj e).symm) (fun e=>by have:=Option.some.inj e;omega));go_roundw
   case rel =>
    (refine⟨_,cnt1,_,hrg2,by omega,hout2.mono (by omega),fun y=>?_,((hgw.andThen hg1 (fun j hj=>.inl (by cases hj;exact Nat.le_refl _))).andThen (World.grownBy_alloc _ _ none) (fun j hj=>by cases hj)).andThen hg2 (fun j hj=>.inr hj)⟩);have hh:Maps.has Ds (.string x)=true:=has_true_of_atKey hat;rw [put_has hM hout.isMap (lawS.key hkey) yd y,same_str];by_cases e:y=x
    ·subst e;simp [hh]
    ·simp [e]
   case measure=>rw [hrg2.left_eq,hrg.left_eq];exact hlt
theorem copy_none (pd:Option Nat) (w:World):Calls Tryz.prog 233 #[.map pd,.map none] w fun e w'=>e=.returned (.tuple #[])∧w'=w.alloc (.mapIter none 0 #[] 0):=by
 have hrg:=run_range_nilMap (P:=Tryz.prog) w 85 _ _ Tryz.underlying85;(have hnx:∀ty,(Instr.next (.pointer (some ⟨w.heap.size,0,none⟩)) false ty).run Tryz.prog (w.alloc (.mapIter none 0 #[] 0))=_:=fun ty=>run_next_nilMap _ ty 0 0 #[]);(go_enter Tryz.func233,Tryz.ntmps233);go_wp2;refine wp_loop_rounds 1 ?_;rw [rounds_succ];go_wp2;go_end0;exact⟨rfl,rfl⟩
theorem copy_calls (f:List UInt8→Bool) (L:List (List UInt8)) (bd nd:Nat) (p:Option Nat) (w:World) (hd:OwnF w bd nd f) (hs:SetA w p L) (hne:p≠some bd) (hroom:nd+L.length≤maxLen):Calls Tryz.prog 233 #[.map (some bd),.map p] w fun e w'=>e=.returned (.tuple #[])∧OwnF w' bd (nd+L.length) (fun y=>f y||inL L y)∧w.grownBy w' (some bd):=by
 rcases hs.2 with ⟨rfl,rfl⟩|⟨b,n,rfl,ho⟩
 ·refine (copy_none (some bd) w).mono ?_;rintro e w' ⟨he,rfl⟩;refine⟨he,?_,World.grownBy_alloc w _ _⟩;obtain⟨D,h1,h2⟩:=hd;exact⟨D,h1.alloc _,fun x=>by rw [h2 x];simp [inL]⟩
 ·exact copy_some f L bd b nd n w hd ho hs.1 (fun e=>hne (by rw [e])) hroom
end
section
open Go.RowKit Go.Maps Go.WideMaps Go.Sort
def SetT (w:World) (L:List (List UInt8)) (e:Ending) (w':World):Prop:=∃p,e=.returned (.map p)∧SetA w' p L∧Below w.heap.size w w'
theorem ownF_made (w:World):OwnF (w.alloc (.map #[] 0)) w.heap.size 0 (fun _=>false):=⟨.map [],World.ownsMap_made _ _ _ _,fun _=>rfl⟩
theorem ownF_set {w:World} {b n:Nat} {f:List UInt8→Bool} {L:List (List UInt8)} (h:OwnF w b n f) (hL:Rise L) (hf:∀x,f x=inL L x):SetA w (some b) L:=by
  obtain⟨D,h1,h2⟩:=h
  exact⟨hL,.inr ⟨b,n,rfl,D,h1,fun x=>(h2 x).trans (hf x)⟩⟩
def allOf (L:List (List UInt8)):List (List UInt8):=unionO [] L
theorem rise_allOf (L:List (List UInt8)):Rise (allOf L):=rise_unionO rise_nil
theorem mem_allOf {L:List (List UInt8)} {x:List UInt8}:x∈allOf L↔x∈L:=by unfold allOf;rw [mem_unionO];simp
theorem in_next {L:List (List UInt8)} {k:Nat} (h:k<L.length) (x:List UInt8):(inL (L.take k) x||decide (x=L[k]))=inL (L.take (k+1)) x:=by
  unfold inL
  rw [List.take_succ_eq_append_getElem h,Bool.eq_iff_iff,Bool.or_eq_true,decide_eq_true_eq,decide_eq_true_eq,decide_eq_true_eq,List.mem_append,List.mem_singleton]
theorem setOf_calls (L:List (List UInt8)) (hx:∀x∈L,(bs x).size≤maxLen) (a:Option Addr) (n c:Nat) (w:World) (hv:TxtA w a n c L):Calls Tryz.prog 181 #[.slice a n c] w (SetT w (allOf L)):=by
 have hmm:=run_makeMapH;have HV:=Hd hv;have HX:=Hd hx;have HL:=Hd hv.len;have hcp:=hv.cap;have hms:=hv.most;have hmx:n≤maxLen:=Nat.le_trans hcp hms;(unfold maxLen at hms);clear hv hx;(go_enter Tryz.func181,Tryz.ntmps181);go_wp2;go_loopg [11] n (fun g i wr=>∃k:Nat,i=.int .i64 k∧k+g=n∧Hid (OwnF wr w.heap.size k (fun x=>inL (L.take k) x))∧Hid (Below w.heap.size w wr))
 case atStart=>exact⟨0,rfl,by omega,Hd (by simpa [inL] using ownF_made w),Hd (box_below _ _)⟩
 case round =>
  obtain⟨W1,rfl⟩:∃W1,W1=wr:=⟨_,rfl⟩;obtain⟨k,rfl,hkg,HO,HB⟩:=hrel;by_cases hk:k<n
  ·(obtain⟨gg,rfl⟩:∃gg,gk=gg+1:=⟨gk-1,by omega⟩);(have hkL:k<L.length:=by rw [HL.out];exact hk);(obtain⟨g,o,ha,hgw,hcells⟩:=HV.out.cells (by omega));subst ha;have hgW:g<W1.heap.size:=Nat.lt_of_lt_of_le hgw HB.out.size;have c0:=kpB HB.out hgw (hcells k hkL);have hkey:=keyS (HX.out _ (List.getElem_mem hkL));(have HNX:=Hd (show ∀x,(inL (L.take k) x||decide (x=L[k]))=inL (L.take (k+1)) x from in_next hkL));clear hcells;generalize L[k]=y at c0 hkey HNX;obtain⟨D,hown,hD⟩:=HO.out;have HD:=Hd hD;clear hD;(have hk0:(0:Int)≤(k:Int):=by omega);(have hkn:(k:Int)<(n:Int):=by omega);(have hkm:k<maxLen:=by omega);have hbl:=hown.lt;(go_wp2_with (at_mapUpdate;refine wpList_mapUpdate_own _ rfl _ _ _ 85 rfl 9 162 lawS Tryz.underlying85 (unitElem (H:=Unit)) w.heap.size k _ rfl hown hkm _ _ _ rfl rfl hkey _ [] unitElem_mk ?_;intro w2 hown2 hg2;have HO2:=Hd hown2;have HG2:=Hd hg2;clear hown2 hg2));go_roundg gg
   case measure=>omega
   case rel=>exact⟨k+1,by go_num,by omega,Hd ⟨_,HO2.out,fun x=>by rw [put_has HD.out hown.isMap (lawS.key hkey) _ x];exact HNX.out x⟩,Hd (HB.out.grown HG2.out HB.out.size (fun j hj=>by cases hj;exact Nat.le_refl _))⟩
  ·(have k1:¬(k:Int)<(n:Int):=by omega);(have hkn:L.take k=L:=List.take_of_length_le (by rw [HL.out];omega));have HN:=Hd hkn;clear hkn;go_wp2;go_ret;exact⟨_,rfl,ownF_set HO.out (rise_allOf L) (fun x=>by unfold inL;rw [HN.out];exact decide_eq_decide.2 mem_allOf.symm),HB.out⟩
theorem OwnF.kept {w w':World} {b n:Nat} {f:List UInt8→Bool} {row:Option Nat} (h:OwnF w b n f) (hg:w.grownBy w' row) (hne:some b≠row):OwnF w' b n f:=by obtain⟨D,h1,h2⟩:=h;exact⟨D,h1.kept hg hne,h2⟩
theorem SetA.kept {w w':World} {p:Option Nat} {L:List (List UInt8)} {row:Option Nat} (h:SetA w p L) (hg:w.grownBy w' row) (hne:∀b,p=some b→some b≠row):SetA w' p L:=by
  obtain⟨h1,h2⟩:=h
  refine⟨h1,?_⟩
  rcases h2 with h2|⟨b,n,hp,ho⟩
  · exact .inl h2
  · exact .inr ⟨b,n,hp,ho.kept hg (hne b hp)⟩
theorem setA_len {w:World} {p:Option Nat} {L:List (List UInt8)} (h:SetA w p L):∀ty,(Builtin.len_ #[85] ty #[.map p]).run Tryz.prog w=.ok (.int .i64 L.length) w:=by
  intro ty
  rcases h.2 with ⟨rfl,rfl⟩|⟨b,n,rfl,D,ho,hf⟩
  · exact Maps.len_nil Tryz.underlying85 ty
  · rw [←size_names ho hf h.1];exact ho.len Tryz.underlying85 ty
theorem either_calls (L M:List (List UInt8)) (p q:Option Nat) (w:World) (hp:SetA w p L) (hq:SetA w q M) (hl:L.length+M.length≤4294967296):Calls Tryz.prog 179 #[.map p,.map q] w (SetT w (unionO L M)):=by
 have hmm:=run_makeMapH;have hlp:=setA_len hp;have hlq:=setA_len hq;have HP:=Hd (hp.on (mapsOn_below (box_below w (.map #[] 0))));have HQ:=Hd (hq.on (mapsOn_below (box_below w (.map #[] 0))));have HPL:=Hd hp.lt;have HQL:=Hd hq.lt;have HRL:=Hd hp.1;have HN:=Hd hl;clear hp hq hl;(have HA:=Hd (show L.length≤maxLen by have:=HN.out;unfold maxLen;omega));(have HB:=Hd (show L.length+M.length≤maxLen by have:=HN.out;unfold maxLen;omega));clear HN;(go_enter Tryz.func179,Tryz.ntmps179);(go_wp2_with fail);(refine (copy_calls (fun _=>false) L w.heap.size 0 p _ (ownF_made w) HP.out (fun e=>Nat.lt_irrefl _ (HPL.out _ e)) (by have:=HA.out;omega)).mono ?_);rintro e w2 ⟨rfl,hO2,hg2⟩;have HO2:=Hd hO2;have HG2:=Hd hg2;(have HQ2:=Hd (HQ.out.kept hg2 (fun b hb=>fun e=>Nat.lt_irrefl _ (Option.some.inj e ▸ HQL.out b hb))));clear hO2 hg2;(go_wp2_with fail);(refine (copy_calls _ M w.heap.size _ q _ HO2.out HQ2.out (fun e=>Nat.lt_irrefl _ (HQL.out _ e)) (by have:=HB.out;omega)).mono ?_);rintro e w3 ⟨rfl,hO3,hg3⟩;have HO3:=Hd hO3;have HG3:=Hd hg3;clear hO3 hg3;go_wp2;go_ret;refine⟨_,rfl,ownF_set HO3.out (rise_unionO HRL.out) (fun x=>?_),?_⟩
 ·(unfold inL);by_cases h1:x∈L<;>by_cases h2:x∈M<;>simp [h1,h2,mem_unionO]
 ·exact ((box_below w _).grown HG2.out (by simp) (fun j hj=>by cases hj;exact Nat.le_refl _)).grown HG3.out (by have:=HG2.out.size;simp at this;omega) (fun j hj=>by cases hj;exact Nat.le_refl _)
end
section
open Go.RowKit Go.Maps Go.WideMaps Go.Sort
theorem grown_below {w w':World} (h:Below w.heap.size w w'):w.grownBy w' none:=⟨h.os,h.tape,h.output,h.size,fun i hi _=>h.block i hi⟩
theorem both_some (L M:List (List UInt8)) (b n:Nat) (q:Option Nat) (w:World) (hs:OwnF w b n (inL L)) (hL:Rise L) (hq:SetA w q M) (hl:L.length≤4294967296):Calls Tryz.prog 180 #[.map (some b),.map q] w (SetT w (meetO L M)):=by
 have hmm:=@run_makeMap Tryz.prog;obtain⟨Ds,hs,hsf⟩:=hs;have hbs:=hs.lt;have HSZ:=Hd (size_names hs hsf hL);have HSF:=Hd hsf;have HL:=Hd hL;have HLL:=Hd hl;have HQ:=Hd hq;have HKO:=Hd hs.keysOf;clear hsf hL hl hq;(go_enter Tryz.func180,Tryz.ntmps180);go_wp2_with (first
  | (at_range;refine wpList_range_own _ rfl _ 85 rfl 9 162 lawS Tryz.underlying85 unitElem b n _ rfl (hs.alloc _) ?_;intro w0 hrg0 hg0 hs0)
  | go_in)
 (have hsz1:(w.alloc (.map #[] 0)).heap.size=w.heap.size+1:=by simp);rw [hsz1] at hrg0;rw [hsz1];go_frame;go_loopw [10] (fun _ wr=>∃(left:Lit→Bool) (cnt:Nat),Hid (wr.ranges Tryz.prog 9 unitElem b (w.heap.size+1) n Ds left cnt)∧cnt≤Maps.size Ds ∧
  Hid (OwnF wr w.heap.size (Maps.size Ds-cnt) (fun y=>Maps.has Ds (.string y)&&!left (.string y)&&inL M y))∧Hid (Below w.heap.size w wr)∧w.heap.size+1<wr.heap.size)
  (fun _ wr=>wr.rangeLeft b (w.heap.size+1))
 case atStart =>
  (refine⟨_,_,Hd hrg0,Nat.le_refl _,Hd ?_,Hd ((box_below w _).grown hg0 (by simp) (fun j hj=>by cases hj)),by rw [hs0];simp⟩);obtain⟨D,h1,h2⟩:=(ownF_made w);exact⟨D,(h1.kept hg0 (by simp)).mono (by omega),fun y=>by rw [h2 y];cases Maps.has Ds (.string y)<;>simp⟩
 case round =>
  (obtain⟨left,cnt,HR,hcs,HO,HB,hws⟩:=hrel);have hrg:=HR.out;go_wp2_with (first
   | (at_next;refine wpList_next_ranges _ rfl _ rfl 9 lawS (unitElem (H:=Unit)) encStr (fun _:Unit=>Value.agg #[]) (fun key kl hk=>by obtain⟨x,hx,_⟩:=Maps.keyOf_str Tryz.underlying9 hk;exact⟨x,hx⟩) (fun v y hv=>⟨(),(unitElem_inv hv).1⟩) b (w.heap.size+1) n _ _ _ rfl hrg ?_ ?_)
   | go_in)
  ·intro hc0 hl0;have HE:=Hd hl0;clear hl0;go_wp2;go_ret;(refine⟨_,rfl,ownF_set HO.out (rise_meetO HL.out) (fun y=>?_),HB.out⟩);rw [HE.out,HSF.out y];(unfold inL);by_cases h1:y∈L<;>by_cases h2:y∈M<;>simp [h1,h2,mem_meetO]
  ·intro x kl yd yp w1 cnt1 hkey hlk hv hat hrg1 hlt hg1 hs1 hen;obtain⟨x',ex,rfl,hxl⟩:=Maps.keyOf_str Tryz.underlying9 hkey;obtain rfl:x=x':=encStr_inj ex;have hh:Maps.has Ds (.string x)=true:=has_true_of_atKey hat;(have hB1:=HB.out.grown hg1 HB.out.size (fun j hj=>by cases hj;exact Nat.le_succ _));have HR1:=Hd hrg1;have HB1:=Hd hB1;(have HO1:=Hd (HO.out.kept hg1 (by intro e;have:=Option.some.inj e;omega)));(have HQ1:=Hd (show SetA w1 q M from (HQ.out.on (mapsOn_below hB1))));(have hz1:w.heap.size+1<w1.heap.size:=by rw [hs1];exact hws);(have HML:=Hd (show w1.rangeLeft b (w.heap.size+1)=cnt1 from hrg1.left_eq));(have HML0:=Hd (show wr.rangeLeft b (w.heap.size+1)=cnt from hrg.left_eq));(have hroom:Maps.size Ds-cnt<maxLen:=by have:=HSZ.out;have:=HLL.out;unfold maxLen;omega);(have hxs:(bs x).size≤maxLen:=by simpa [bs,ByteArray.size] using hxl);have HC:=Hd (setHas_calls M x q w1 HQ1.out hxs);clear hs1 hrg1 hg1 hB1 hat hlk hrg;by_cases hin:x∈M
   ·(have HI:=Hd (show inL M x=true from decide_eq_true hin));rw [HI.out] at HC;go_wp2_with (first
     | (go_at_call 91;refine HC.out.mono ?_;rintro e w2 ⟨rfl,hb2⟩;have HB2:=Hd hb2;obtain⟨D2,hout2,hD2⟩:=(HO1.out.kept (grown_below HB2.out) (by simp));clear hb2)
     | (at_mapUpdate;refine wpList_mapUpdate_own _ rfl _ _ _ 85 rfl 9 162 lawS Tryz.underlying85 (unitElem (H:=Unit)) w.heap.size _ _ rfl hout2 hroom _ _ _ rfl rfl hkey _ [] unitElem_mk ?_;intro w3 hout3 hg3;go_frame)
     | go_in)
    (have hrg3:=(HR1.out.kept (grown_below HB2.out) (by simp) (by simp)).kept hg3 (fun e=>by have:=Option.some.inj e;omega) (fun e=>by have:=Option.some.inj e;omega));go_roundw
    case rel =>
     (refine⟨_,cnt1,Hd hrg3,by omega,Hd ⟨_,hout3.mono (by omega),fun y=>?_⟩,Hd ((HB1.out.trans (HB2.out.mono HB1.out.size)).grown hg3 (by have:=HB2.out.size;omega) (fun j hj=>by cases hj;exact Nat.le_refl _)),by have:=HB2.out.size;have:=hg3.size;omega⟩);rw [put_has hD2 hout2.isMap (lawS.key hkey) _ y];dsimp only;rw [same_str];by_cases e:y=x
     ·subst e;simp [hh,HI.out]
     ·simp [e]
    case measure=>rw [hrg3.left_eq,HML0.out];exact hlt
   ·(have HI:=Hd (show inL M x=false from decide_eq_false hin));rw [HI.out] at HC;(go_wp2_with (go_at_call 91;refine HC.out.mono ?_;rintro e w2 ⟨rfl,hb2⟩;have HB2:=Hd hb2;clear hb2));(have hrg3:=(HR1.out.kept (grown_below HB2.out) (by simp) (by simp)));go_roundw
    case rel =>
     (refine⟨_,cnt1,Hd hrg3,by omega,Hd ?_,Hd (HB1.out.trans (HB2.out.mono HB1.out.size)),by have:=HB2.out.size;omega⟩);(obtain⟨D2,hout2,hD2⟩:=(HO1.out.kept (grown_below HB2.out) (by simp)));(refine⟨D2,hout2.mono (by omega),fun y=>?_⟩);rw [hD2 y];dsimp only;rw [same_str];by_cases e:y=x
     ·subst e;simp [HI.out]
     ·simp [e]
    case measure=>rw [hrg3.left_eq,HML0.out];exact hlt
theorem both_none (q:Option Nat) (w:World):Calls Tryz.prog 180 #[.map none,.map q] w (SetT w []):=by
 have hmm:=@run_makeMap Tryz.prog;have hrg:=run_range_nilMap (P:=Tryz.prog) (w.alloc (.map #[] 0)) 85 _ _ Tryz.underlying85;(have hnx:∀ty,(Instr.next (.pointer (some ⟨(w.alloc (.map #[] 0)).heap.size,0,none⟩)) false ty).run Tryz.prog ((w.alloc (.map #[] 0)).alloc (.mapIter none 0 #[] 0))=_:=fun ty=>run_next_nilMap _ ty 0 0 #[]);(have e1:(w.alloc (.map #[] 0)).heap.size=w.heap.size+1:=by simp);rw [e1] at hrg hnx;(go_enter Tryz.func180,Tryz.ntmps180);go_wp2;refine wp_loop_rounds 1 ?_;rw [rounds_succ];go_wp2;go_ret;exact⟨_,rfl,ownF_set ((ownF_made w).kept (World.grownBy_alloc _ _ none) (by simp)) rise_nil (fun _=>rfl),(box_below _ _).alloc (by simp) _⟩
theorem both_calls (L M:List (List UInt8)) (p q:Option Nat) (w:World) (hp:SetA w p L) (hq:SetA w q M) (hl:L.length≤4294967296):Calls Tryz.prog 180 #[.map p,.map q] w (SetT w (meetO L M)):=by
  rcases hp.2 with ⟨rfl,rfl⟩|⟨b,n,rfl,ho⟩
  · exact both_none q w
  · exact both_some L M b n q w ho hp.1 hq hl
theorem ordered_some (L:List (List UInt8)) (b n:Nat) (w:World) (hs:OwnF w b n (inL L)) (hL:Rise L) (hl:L.length≤4294967296):Calls Tryz.prog 44 #[.map (some b)] w (NamesT w L):=by
 obtain⟨i0,hi,hz0,hz1,hz2⟩:=info_parts info_string;obtain⟨Ds,hs,hsf⟩:=hs;have hbs:=hs.lt;have HSZ:=Hd (size_names hs hsf hL);have HSF:=Hd hsf;have HL:=Hd hL;have HLL:=Hd hl;clear hsf hL hl;(go_enter Tryz.func44,Tryz.ntmps44);go_wp2_with (first
  | (at_range;refine wpList_range_own _ rfl _ 85 rfl 9 162 lawS Tryz.underlying85 unitElem b n _ rfl hs ?_;intro w0 hrg0 hg0 hs0)
  | go_in)
 go_frame;go_loopw [3,7] (fun v _ wr=>∃(left:Lit→Bool) (cnt:Nat) (ss:List (List UInt8)),wr.ranges Tryz.prog 9 unitElem b w.heap.size n Ds left cnt∧ss.length+cnt≤Maps.size Ds ∧
  wr.ownsRow w.heap.size 9 1 v ss.length (ss.map encStr)∧Collected Ds left ss∧Below w.heap.size w wr)
  (fun _ _ wr=>wr.rangeLeft b w.heap.size)
 case atStart =>
  exact⟨_,_,[],hrg0,by simp,World.ownsRow_nil _ _ _ _,Collected.start Ds,(Below.refl _ _).grown hg0 (Nat.le_refl _) (fun j hj=>by cases hj)⟩
 case round =>
  (obtain⟨left,cnt,ss,hrg,hcs,hrow,hC,hnx⟩:=hrel);have hsz:=HSZ.out;have hll:=HLL.out;go_wp2_with (first
   | (at_next;refine wpList_next_ranges _ rfl _ rfl 9 lawS (unitElem (H:=Unit)) encStr (fun _:Unit=>Value.agg #[]) (fun key kl hk=>by obtain⟨x,hx,_⟩:=Maps.keyOf_str Tryz.underlying9 hk;exact⟨x,hx⟩) (fun v y hv=>⟨(),(unitElem_inv hv).1⟩) b w.heap.size n _ _ _ rfl hrg ?_ ?_)
   | go_in)
  ·intro hc0 hl0;have HM:=Hd (show ∀x,x∈ss↔x∈L from fun x=>by
    rw [hC.2 x,hl0,HSF.out x];unfold inL;rw [decide_eq_true_eq];simp)
   have HND:=Hd hC.1;rcases hrow.2 with ⟨hnil,hn0⟩|⟨g,cap,cur,rfl,hbase,hb,h1,h2,h3,h4⟩
   ·subst hnil;have hse:ss=[]:=List.eq_nil_of_length_eq_zero hn0;subst hse;(have HE:=Hd (rise_one HL.out rise_nil (fun x=>(HM.out x).symm)));have HB:=Hd hnx;clear hrow hC hl0 hcs hrg;(go_wp2_with (go_at_call 96;refine (Tryz.slices_Sort_string_none none 0 wr).mono ?_;rintro e w' ⟨rfl,hw'⟩;obtain rfl:=hw'.symm));refine bodyPost_ret (v:=.slice none 0 0) (by simp [results,Tryz.results44,go_sem]) rfl ⟨none,0,by rw [HE.out];rfl,by rw [HE.out];exact⟨rfl,Nat.le_refl _,Nat.zero_le _,fun h=>absurd h (Nat.lt_irrefl _)⟩,HB.out⟩
   ·(have hH:Holds encStr wr g 0 ss.toArray:=holds_of_block hb (by simpa using h4));have hgl:g<wr.heap.size:=(Array.getElem?_eq_some_iff.1 hb).1;(have HC:=Hd (Tryz.slices_Sort_string g 0 cap ss wr hH hgl (by omega)));have HSO:=Hd (sorted_is HND.out HL.out HM.out);have HLN:=Hd ((perm_rise HND.out HL.out HM.out).length_eq);(have HOW:=Hd (fun nn os=>ownsRow_sorted (w:=wr) (n:=nn) (os:=os) (ss:=ss) (ts:=ss.mergeSort fun x y=>decide (x≤y)) (by simp) hbase hb h1 h2 h3));(have HBB:=Hd (fun nn os=>hnx.grown (grownBy_sorted (w:=wr) (g:=g) (n:=nn) (os:=os) (ss.mergeSort fun x y=>decide (x≤y)).toArray) hnx.size (fun j hj=>by cases hj;exact hbase)));clear hrow hC hl0 hcs hrg hH h4 h3 hb;(go_wp2_with (go_at_call 96;refine HC.out.mono ?_;rintro e w' ⟨rfl,nn,os,hw'⟩;have HW:=Hd hw';clear hw'));have hoo:=HOW.out nn os;rw [←HW.out,HSO.out,HLN.out] at hoo;obtain⟨a,c,hac,htx⟩:=txtA_own (M:=L) hoo;(cases hac);refine bodyPost_ret (v:=.slice (some ⟨g,0,none⟩) ss.length cap) (by simp [results,Tryz.results44,go_sem]) rfl ⟨_,_,by rw [HLN.out],htx,by rw [HW.out];exact HBB.out nn os⟩
  ·intro x kl yd yp w2 cnt2 hkey hlk hv hat hrg2 hlt hg2 hs2 hen;obtain⟨x',ex,rfl,hxl⟩:=Maps.keyOf_str Tryz.underlying9 hkey;obtain rfl:x=x':=encStr_inj ex;have hrow2:=hrow.kept hg2 (Or.inr (row_ne_iter hrow hrg).symm);clear hs2;go_wp2_with (first
    | (at_builtin;refine wpList_append_own _ rfl _ _ 22 rfl w.heap.size 9 i0 (.string ⟨#[]⟩) 1 16 Tryz.underlying22 hi hz0 hz1 hz2 rfl (by decide) _ _ _ rfl (hrow2.alloc _) ⟨w2.heap.size,0,none⟩ 1 1 [encStr x] rfl rfl (cell_one_new _ _ _) (by simp [Value.oneCell',encStr]) (by unfold maxLen;omega) (by omega) (by have:=hnx.size;have:=hg2.size;simp;omega) ?_;intro v' w3 hown' hg3 hnil3;go_frame)
    | go_in)
   have hrg3:=(hrg2.alloc _).kept hg3 (row_ne_low hrow2 hbs) (row_ne_iter hrow2 hrg2);go_roundw
   case rel =>
    (refine⟨_,cnt2,ss++[x],hrg3,by simp;omega,by simpa using hown',hC.step hlk hat,?_⟩);exact ((hnx.grown hg2 hnx.size (fun j hj=>by cases hj;exact Nat.le_refl _)).alloc (by have:=hnx.size;have:=hg2.size;omega) _).grown hg3 (by have:=hnx.size;have:=hg2.size;simp;omega) (fun j hj=>(hrow2.lt j hj).1)
   case measure=>rw [hrg3.left_eq,hrg.left_eq];exact hlt
theorem ordered_none (w:World):Calls Tryz.prog 44 #[.map none] w (NamesT w []):=by
 have hrg:=run_range_nilMap (P:=Tryz.prog) w 85 _ _ Tryz.underlying85;(have hnx:∀ty,(Instr.next (.pointer (some ⟨w.heap.size,0,none⟩)) false ty).run Tryz.prog (w.alloc (.mapIter none 0 #[] 0))=_:=fun ty=>run_next_nilMap _ ty 0 0 #[]);(go_enter Tryz.func44,Tryz.ntmps44);go_wp2;refine wp_loop_rounds 1 ?_;rw [rounds_succ];(go_wp2_with (go_at_call 96;refine (Tryz.slices_Sort_string_none none 0 _).mono ?_;rintro e w' ⟨rfl,hw'⟩;obtain rfl:=hw'.symm));refine bodyPost_ret (v:=.slice none 0 0) (by simp [results,Tryz.results44,go_sem]) rfl ⟨none,0,rfl,⟨rfl,Nat.le_refl _,Nat.zero_le _,fun h=>absurd h (Nat.lt_irrefl _)⟩,box_below _ _⟩
theorem ordered_calls (L:List (List UInt8)) (p:Option Nat) (w:World) (h:SetA w p L) (hl:L.length≤4294967296):Calls Tryz.prog 44 #[.map p] w (NamesT w L):=by
  rcases h.2 with ⟨rfl,rfl⟩|⟨b,n,rfl,ho⟩
  · exact ordered_none w
  · exact ordered_some L b n w ho h.1 hl
end
section
open Go.RowKit Go.Maps
theorem kRow {W:World} {X:Nat} {T:TypeId} {a:Array Value} (h:Blk W X T a) (n:Array Value):Blk (W.setRow X n) X T n:=setRow_heap W X a n T _ h
theorem kSet (w:World) (g:Nat) (cs:Array Value):w.grownBy (w.setRow g cs) (some g):=⟨rfl,rfl,rfl,by simp [World.setRow],fun k _ hk=>by
  show (w.heap.modify g _)[k]?=_
  rw [Array.getElem?_modify,if_neg (fun e=>hk (by rw [e]))]⟩
theorem kWhole {ops:Array Oper} {rest:List Oper} {o:Oper} {a:Act} {w:World} {Q:Exit→Act→World→Prop} (ty:TypeId) (x y:Operand) (ho:o.op=.store ty x y∧o.guard=none) (g:Nat) (cells:Array Value) (hx:a.eval x=.pointer (some ⟨g,0,none⟩)) (hy:a.eval y=.agg cells) (T:TypeId) (old:Array Value) (hg:Blk w g T old) (hi:(Tryz.prog.info? ty).map (·.size)=some cells.size) (hold:old.size=cells.size) (h1:cells.all (·.oneCell')=true) (h:∀w',Hid (Blk w' g T cells)→Hid (w.grownBy w' (some g))→wpList Tryz.prog ops Q rest (a.put o.dst undef) w'):wpList Tryz.prog ops Q (o::rest) a w :=
  wpList_store_row ho.2 ty x y ho.1 g cells hx hy T old hg hi hold h1 (h _ (kRow hg cells) (kSet _ _ _))
theorem kName {P:Program} {c:Code} {Q:Exit→Act→World→Prop} {a:Act} {w:World} (h:∀W1,W1=w→c.wp P Q a W1):c.wp P Q a w:=h w rfl
theorem kMaps {w w':World} {g:Nat} {T:TypeId} {a:Array Value} (h:w.grownBy w' (some g)) (hb:Blk w g T a):MapsOn w w':=grown_maps h (fun b es c e k=>by
  cases e
  unfold Blk at hb
  rw [hb] at k
  cases k)
theorem kBlk {w w':World} {g X:Nat} {T:TypeId} {a:Array Value} (h:w.grownBy w' (some g)) (hb:Blk w X T a) (hne:X≠g):Blk w' X T a:=by
  unfold Blk at *
  rw [h.block X (Array.getElem?_eq_some_iff.1 hb).1 (fun e=>hne (Option.some.inj e))];exact hb
def TwoT (w:World) (L M:List (List UInt8)) (e:Ending) (w':World):Prop:=∃p q,e=.returned (.agg #[.map p,.map q])∧SetA w' p L∧SetA w' q M∧Below w.heap.size w w'
theorem mem_allL {T:List TripL}:∀{acc:List (List UInt8)} {x:List UInt8},x∈T.foldl (fun acc t=>unionO acc (varsL t)) acc↔x∈acc∨∃t∈T,x∈varsL t:=by
  induction T with
  | nil=>intro acc x;simp
  | cons t r ih =>
    intro acc x
    rw [List.foldl_cons,ih,mem_unionO]
    constructor
    · rintro ((h|h)|⟨u,hu,h⟩)
      · exact .inl h
      · exact .inr ⟨t,List.mem_cons_self,h⟩
      · exact .inr ⟨u,List.mem_cons_of_mem _ hu,h⟩
    · rintro (h|⟨u,hu,h⟩)
      · exact .inl (.inl h)
      · rcases List.mem_cons.1 hu with rfl|hu
        · exact .inl (.inr h)
        · exact .inr ⟨u,hu,h⟩
theorem rise_fold {T:List TripL}:∀{acc:List (List UInt8)},Rise acc→Rise (T.foldl (fun acc t=>unionO acc (varsL t)) acc):=by
  induction T with
  | nil=>intro acc h;exact h
  | cons t r ih=>intro acc h;rw [List.foldl_cons];exact ih (rise_unionO h)
end
end Go.Proofs.YtjpfoophipcglaaGreatDoor
