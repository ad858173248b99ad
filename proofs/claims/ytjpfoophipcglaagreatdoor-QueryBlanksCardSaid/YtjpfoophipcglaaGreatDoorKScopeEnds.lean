/- Are two slices of texts the same, wherever they begin?. -/
import Derived.Test.YtjpfoophipcglaaGreatDoorKScopeResults
namespace Go.Proofs.YtjpfoophipcglaaGreatDoor
set_option maxRecDepth 100000
set_option maxHeartbeats 8000000
section
open Go.RowKit
def SameR (L M:List (List UInt8)) (k:Nat):Prop:=L.take k=M.take k
theorem sameR_next {L M:List (List UInt8)} {k:Nat} (h:SameR L M k) (hl:k<L.length) (hm:k<M.length) (he:L[k]=M[k]):SameR L M (k+1):=by
  unfold SameR at *
  rw [List.take_succ_eq_append_getElem hl,List.take_succ_eq_append_getElem hm,h,he]
theorem sameR_end {L M:List (List UInt8)} {k:Nat} (h:SameR L M k) (hl:L.length≤k) (hm:M.length≤k):L=M:=by
  unfold SameR at h
  rwa [List.take_of_length_le hl,List.take_of_length_le hm] at h
theorem sameA_calls (L M:List (List UInt8)) (a b:Option Addr) (n m c d:Nat) (w:World) (h:TxtA w a n c L) (k:TxtA w b m d M):Calls Tryz.prog 15 #[.slice a n c,.slice b m d] w fun e w'=>e=.returned (.bool (decide (L=M)))∧Below w.heap.size w w':=by
 have HL:=Hd h.len;have HM:=Hd k.len;have HX:=Hd h.cells;have HY:=Hd k.cells;have c1:=h.cap;have c2:=h.most;have c3:=k.cap;have c4:=k.most;(unfold maxLen at c2 c4);clear h k;by_cases hnm:n=m
 ·subst hnm;(go_enter Tryz.func15,Tryz.ntmps15);go_wp2;go_loopg [5] n (fun g i wr=>∃k:Nat,i=.int .i64 k∧k+g=n∧Hid (SameR L M k)∧Hid (Below w.heap.size w wr))
  case atStart=>exact⟨0,rfl,by omega,Hd rfl,Hd (Below.refl _ _)⟩
  case round =>
   obtain⟨W1,rfl⟩:∃W1,W1=wr:=⟨_,rfl⟩;obtain⟨k,rfl,hkg,HR,HB⟩:=hrel;by_cases hk:k<n
   ·(obtain⟨gg,rfl⟩:∃gg,gk=gg+1:=⟨gk-1,by omega⟩);(have hkL:k<L.length:=by rw [HL.out];exact hk);(have hkM:k<M.length:=by rw [HM.out];exact hk);(obtain⟨g,o,ha,hgw,hcells⟩:=HX.out (by omega));(obtain⟨g',o',ha',hgw',hcells'⟩:=HY.out (by omega));subst ha ha';have e0:=kpB HB.out hgw (hcells k hkL);have e1:=kpB HB.out hgw' (hcells' k hkM);(have HNX:=Hd (fun h=>sameR_next HR.out hkL hkM h));(have HNE:=Hd (show L[k]≠M[k]→decide (L=M)=false from fun h=>decide_eq_false (fun e=>h (by subst e;rfl))));(have k0:(0:Int)≤(k:Int):=by omega);(have k1:(k:Int)<(n:Int):=by omega);clear hcells hcells';generalize L[k]=x at e0 HNX HNE;generalize M[k]=y at e1 HNX HNE;by_cases he:x=y
    ·have HN2:=Hd (HNX.out he);(have hne:((bs x).toList !=(bs y).toList)=false:=by rw [he];exact bne_self_eq_false _);(have heq:((bs x).toList==(bs y).toList)=true:=by rw [he];exact beq_self_eq_true _);subst he;clear HNX HNE;go_wp2;(all_goals (try go_quiet (fail)));(all_goals (try go_wp2));go_roundg gg
     case measure=>omega
     case rel=>exact⟨k+1,by go_num,by omega,HN2,by first|exact HB|exact Hd (drew_below HB.out _)⟩
    ·have HE:=Hd (HNE.out he);(have hne:((bs x).toList !=(bs y).toList)=true:=by rw [bs_toList,bs_toList];exact bne_iff_ne.2 he);(have heq:((bs x).toList==(bs y).toList)=false:=by rw [bs_toList,bs_toList];exact beq_eq_false_iff_ne.2 he);clear HNX HNE he;go_wp2;(all_goals (try go_quiet (fail)));(all_goals (try go_wp2));go_ret;exact⟨by rw [HE.out];rfl,by first|exact HB.out|exact drew_below HB.out _⟩
   ·(have HE:=Hd (show decide (L=M)=true from decide_eq_true (sameR_end HR.out (by rw [HL.out];omega) (by rw [HM.out];omega))));(have k1:¬(k:Int)<(n:Int):=by omega);go_wp2;go_ret;exact⟨by rw [HE.out];rfl,HB.out⟩
 ·(have HE:=Hd (show decide (L=M)=false from decide_eq_false (fun e=>hnm (by rw [←HL.out,←HM.out,e]))));(have hne:((n:Int) !=(m:Int))=true:=bne_iff_ne.2 (by omega));(have hne2:((n:Int)==(m:Int))=false:=beq_eq_false_iff_ne.2 (by omega));(go_enter Tryz.func15,Tryz.ntmps15);go_wp2;go_ret;exact⟨by rw [HE.out];rfl,Below.refl _ _⟩
end
section
open Go.RowKit Go.Maps
theorem runP_few {B:Nat}:∀(C:List OpL) (i:Nat) (op:List ResL) (e:Bool) (all:List ResL) {all' op':List ResL} {e':Bool},(∀r∈all,r.sc.length+r.ct.length≤B)→tot op+256*C.length≤B→runP C i op e all=some (all',op',e')→∀r∈all',r.sc.length+r.ct.length≤B
  | [],i,op,e,all,all',op',e',h1,_,h=>by
    rw [runP] at h
    have:all=all':=by injection h with h;injection h
    rw [←this];exact h1
  | o::C,i,op,e,all,all',op',e',h1,h2,h=>by
    rw [runP] at h
    split at h
    · rename_i hc
      have hl:=topN_length hc.2.1
      have h4:=ndO_le o
      have h5:=madeR_tot hc.1 i (N:=topN o op) (by omega)
      have h6:tot op=tot (op.take (op.length-ndO o))+tot (topN o op):=by
        unfold topN
        rw [←tot_append,List.take_append_drop]
      have h8:tot [madeR o i (topN o op)]=(madeR o i (topN o op)).sc.length+(madeR o i (topN o op)).ct.length:=by simp [tot]
      rw [List.length_cons] at h2
      refine runP_few C (i+1) _ _ _ (fun r hr=>?_) ?_ h
      · rcases List.mem_append.1 hr with hr|hr
        · exact h1 r hr
        · rw [List.mem_singleton] at hr;subst hr;omega
      · rw [tot_append];omega
    · cases h
theorem resA_few {C:List OpL} (h:C.length≤128):∀r∈resA C,r.sc.length≤1000000∧r.ct.length≤1000000:=fun r hr=>by
  unfold resA at hr
  split at hr
  · cases hr
  · rename_i all op e hrun
    have:=runP_few (B:=256*128) C 0 [] false [] (fun r hr=>absurd hr List.not_mem_nil) (by show 0+_≤_;omega) hrun r hr
    omega
def atE (C:List OpL) (i:Int):Int:=if resE C≠0 then resE C else if i<0∨(C.length:Int)≤i then 1 else 0
theorem atE_err {C:List OpL} {i:Int} (h:resE C≠0):atE C i=resE C:=if_pos h
theorem atE_range {C:List OpL} {i:Int} (h:resE C=0) (hi:i<0∨(C.length:Int)≤i):atE C i=1:=by unfold atE;rw [if_neg (fun c=>c h),if_pos hi]
theorem atE_ok {C:List OpL} {i:Int} (h:resE C=0) (hi:¬(i<0∨(C.length:Int)≤i)):atE C i=0:=by unfold atE;rw [if_neg (fun c=>c h),if_neg hi]
theorem resE_few {C:List OpL} (h:resE C=0):C.length≤128:=by
  by_cases c:128<C.length
  · rw [resE_long c] at h;cases h
  · omega
def AtT (w:World) (C:List OpL) (i:Int) (e:Ending) (w':World):Prop :=
  Below w.heap.size w w'∧∃(r:ResL) (p q:Option Nat),e=.returned (.tuple #[.agg #[.int .i64 r.f,.bool r.v,.map p,.map q],.int .i64 (atE C i)])∧SetA w' p r.sc∧SetA w' q r.ct∧(atE C i≠0→r=noR)∧(atE C i=0→(resA C)[i.toNat]?=some r)∧r.sc.length≤1000000∧r.ct.length≤1000000
theorem at_ret (tm:Array Value) (W:World) (A:Nat) (f:Int) (v:Bool) (p q:Option Nat) (E:Int) (Q:Ending→World→Prop) (h:tm.getD 4 undef=.pointer (some ⟨A,0,none⟩)) (h5:tm.getD 5 undef=.int .i64 E) (hA:Blk W A 89 #[.int .i64 f,.bool v,.map p,.map q]) (hQ:Q (.returned (.tuple #[.agg #[.int .i64 f,.bool v,.map p,.map q],.int .i64 E])) W):bodyPost Tryz.prog Tryz.f43 Q Exit.ret { tmps:=tm,defers:=[] } W:=by
 have q0:=bq hA 0;have q1:=bq hA 1;have q2:=bq hA 2;have q3:=bq hA 3;(have e2:tm[4]?.getD undef=.pointer (some ⟨A,0,none⟩):=by rw [←Array.getD_eq_getD_getElem?];exact h);(have e5:tm[5]?.getD undef=.int .i64 E:=by rw [←Array.getD_eq_getD_getElem?];exact h5);refine bodyPost_ret (v:=.tuple #[.agg #[.int .i64 f,.bool v,.map p,.map q],.int .i64 E]) (by simp [results,Tryz.results43,e2,e5,q0,q1,q2,q3,go_sem]) rfl hQ
theorem at_none {w w':World} {C:List OpL} {i:Int} (hb:Below w.heap.size w w') (h:atE C i≠0) {E:Int} (hE:atE C i=E):AtT w C i (.returned (.tuple #[.agg #[.int .i64 0,.bool false,.map none,.map none],.int .i64 E])) w' :=
  ⟨hb,noR,none,none,by rw [hE];rfl,setA_none _,setA_none _,fun _=>rfl,fun c=>absurd c h,Nat.zero_le _,Nat.zero_le _⟩
theorem resultAt_calls (C:List OpL) (hok:∀o∈C,OpOk o) (a:Option Addr) (n c:Nat) (i:Int) (w:World) (hv:OpsA w a n c C):Calls Tryz.prog 43 #[.slice a n c,.int .i64 i] w (AtT w C i):=by
 (have HC:=Hd (fun W h=>results_calls C hok a n c W h));have HV:=Hd hv;(have HNEW:=Hd (fun W=>blk_new W 89 #[.int .i64 0,.bool false,.map none,.map none]));(have HBX:=Hd (fun (W:World) (o:Obj)=>box_below W o));clear hv hok;(go_enter Tryz.func43,Tryz.ntmps43);(go_wp2_with fail);refine (HC.out _ (HV.out.on (HBX.out _ _))).mono ?_;intro e w2 hT;obtain⟨hb2,hT⟩:=hT;have HB2:=Hd (one_box hb2);(have HX2:=Hd (blk_on (HNEW.out w) hb2 (by simp)));clear hb2;have hX0:=HX2.out;have hlt:w.heap.size<w2.heap.size:=blk_lt hX0;(have x0:w2.cell? ⟨w.heap.size,0,none⟩=some (.int .i64 0):=(blk_cell hX0 0).trans rfl);(have x1:w2.cell? ⟨w.heap.size,1,none⟩=some (.bool false):=(blk_cell hX0 1).trans rfl);(have x2:w2.cell? ⟨w.heap.size,2,none⟩=some (.map none):=(blk_cell hX0 2).trans rfl);(have x3:w2.cell? ⟨w.heap.size,3,none⟩=some (.map none):=(blk_cell hX0 3).trans rfl);(have f0:∀i,w2.frozen? ⟨w.heap.size,i,none⟩=false:=fun i=>blk_free hX0 i);rcases hT with ⟨he,rfl⟩|⟨he,ra,rc,rfl,hres⟩
 ·have HE:=Hd (atE_err (i:=i) he);(have HNZ:=Hd (show atE C i≠0 by rw [HE.out];exact he));obtain⟨E,hEE⟩:∃E,resE C=E:=⟨_,rfl⟩;rw [hEE] at he HE ⊢;have hne:(E !=0)=true:=bne_iff_ne.2 he;clear hEE he;(go_wp2_with (refine kWhole 89 (.tmp 4) (.tmp 15) ⟨rfl,rfl⟩ w.heap.size #[.int .i64 0,.bool false,.map none,.map none] (by kernel_rfl) (by kernel_rfl) 89 #[.int .i64 0,.bool false,.map none,.map none] hX0 (by kernel_rfl) rfl (by kernel_rfl) ?_;intro w4 hA4 hG4));refine at_ret _ _ w.heap.size 0 false none none E _ (by first|rfl|simp) (by first|rfl|simp) hA4.out (at_none (HB2.out.grown hG4.out HB2.out.size (fun j hj=>by cases hj;exact Nat.le_refl _)) HNZ.out HE.out)
 ·have HE:=Hd he;have hln:=hres.len;(have HL:=Hd (show C.length=n from HV.out.len));have HRS:=Hd hres;have HFW:=Hd (resA_few (resE_few he));have HLN:=Hd hln;have hcp:=hres.cap;have hms:=hres.most;(unfold maxLen at hms);rw [HL.out] at hcp ⊢;clear he hres hln;by_cases h0:i<0
  ·have HNZ:=Hd (atE_range HE.out (.inl h0));(go_wp2_with (refine kWhole 89 (.tmp 4) (.tmp 25) ⟨rfl,rfl⟩ w.heap.size #[.int .i64 0,.bool false,.map none,.map none] (by kernel_rfl) (by kernel_rfl) 89 #[.int .i64 0,.bool false,.map none,.map none] hX0 (by kernel_rfl) rfl (by kernel_rfl) ?_;intro w4 hA4 hG4));refine at_ret _ _ w.heap.size 0 false none none 1 _ (by first|rfl|simp) (by first|rfl|simp) hA4.out (at_none (HB2.out.grown hG4.out HB2.out.size (fun j hj=>by cases hj;exact Nat.le_refl _)) (by rw [HNZ.out];decide) HNZ.out)
  by_cases h1:(n:Int)≤i
  ·(have HNZ:=Hd (atE_range HE.out (.inr (by rw [HL.out];exact h1))));(go_wp2_with (refine kWhole 89 (.tmp 4) (.tmp 25) ⟨rfl,rfl⟩ w.heap.size #[.int .i64 0,.bool false,.map none,.map none] (by kernel_rfl) (by kernel_rfl) 89 #[.int .i64 0,.bool false,.map none,.map none] hX0 (by kernel_rfl) rfl (by kernel_rfl) ?_;intro w4 hA4 hG4));refine at_ret _ _ w.heap.size 0 false none none 1 _ (by first|rfl|simp) (by first|rfl|simp) hA4.out (at_none (HB2.out.grown hG4.out HB2.out.size (fun j hj=>by cases hj;exact Nat.le_refl _)) (by rw [HNZ.out];decide) HNZ.out)
  (have HOK:=Hd (atE_ok HE.out (i:=i) (fun c=>c.elim h0 (fun d=>h1 (by rw [HL.out] at d;exact d)))));(obtain⟨k,rfl⟩:∃k:Nat,i=(k:Int):=⟨i.toNat,by omega⟩);(have hk:k<n:=by omega);(have hkL:k<(resA C).length:=by rw [HLN.out,HL.out];exact hk);(obtain⟨g,o,ha,hgw,hcells⟩:=HRS.out.cells (by rw [HL.out];omega));subst ha;obtain⟨p,q,d0,d1,d2,d3,hp,hq⟩:=hcells k hkL;(have HGE:=Hd (show (resA C)[(k:Int).toNat]?=some (resA C)[k] by rw [Int.toNat_natCast,List.getElem?_eq_getElem hkL]));have HF2:=Hd (HFW.out _ (List.getElem_mem hkL));have HP:=Hd hp;have HQ:=Hd hq;(have k0:(0:Int)≤(k:Int):=by omega);(have k1:(k:Int)<(n:Int):=by omega);clear hcells hp hq h0 h1;generalize (resA C)[k]=r at d0 d1 d2 d3 HP HQ HGE HF2;(go_wp2_with (refine kWhole 89 (.tmp 4) (.tmp 29) ⟨rfl,rfl⟩ w.heap.size #[.int .i64 r.f,.bool r.v,.map p,.map q] (by kernel_rfl) (by kernel_rfl) 89 #[.int .i64 0,.bool false,.map none,.map none] hX0 (by kernel_rfl) rfl (by kernel_rfl) ?_;intro w4 hA4 hG4));have hm:=kMaps hG4.out hX0;refine at_ret _ _ w.heap.size r.f r.v p q 0 _ (by first|rfl|simp) (by first|rfl|simp) hA4.out ⟨HB2.out.grown hG4.out HB2.out.size (fun j hj=>by cases hj;exact Nat.le_refl _),r,p,q,by rw [HOK.out],HP.out.on hm,HQ.out.on hm,fun c=>absurd HOK.out c,fun _=>HGE.out,HF2.out⟩
def InT (w:World) (C:List OpL) (i:Int) (cert:Bool) (e:Ending) (w':World):Prop :=
  Below w.heap.size w w'∧∃(L:List (List UInt8)) (a:Option Addr) (c:Nat),e=.returned (.tuple #[.slice a L.length c,.int .i64 (atE C i)])∧TxtA w' a L.length c L∧Rise L∧(atE C i≠0→L=[])∧(atE C i=0→∃r,(resA C)[i.toNat]?=some r∧L=bif cert then r.ct else r.sc)∧L.length≤1000000
theorem inScope_calls (C:List OpL) (hok:∀o∈C,OpOk o) (a:Option Addr) (n c:Nat) (i:Int) (w:World) (hv:OpsA w a n c C):Calls Tryz.prog 21 #[.slice a n c,.int .i64 i] w (InT w C i false):=by
 have HC:=Hd (resultAt_calls C hok a n c i w hv);clear hv hok;(go_enter Tryz.func21,Tryz.ntmps21);(go_wp2_with fail);refine HC.out.mono ?_;rintro e w2 ⟨hb2,r,p,q,rfl,hp,hq,h1,h2,h3,h4⟩;have HB2:=Hd hb2;(have HO:=Hd (fun (o:Obj)=>ordered_calls r.sc p (w2.alloc o) ((hp).on (mapsOn_below (box_below w2 o))) (by omega)));have HR:=Hd (hp).1;have H1:=Hd h1;have H2:=Hd h2;have H3:=Hd (h3);clear hb2 hp hq h1 h2 h3 h4;(go_wp2_with fail);refine (HO.out _).mono ?_;rintro e w3 ⟨a3,c3,rfl,htx,hb3⟩;have HT:=Hd htx;have HB3:=Hd (one_box hb3);clear htx hb3;go_wp2;refine bodyPost_ret (v:=.tuple #[.slice a3 r.sc.length c3,.int .i64 (atE C i)]) (by simp [results,Tryz.results21,go_sem]) rfl ⟨HB2.out.trans (HB3.out.mono HB2.out.size),r.sc,a3,c3,rfl,HT.out,HR.out,fun c=>by rw [H1.out c];rfl,fun c=>⟨r,H2.out c,rfl⟩,H3.out⟩
theorem oCheck_calls (C:List OpL) (hok:∀o∈C,OpOk o) (a:Option Addr) (n c:Nat) (w:World) (hv:OpsA w a n c C):Calls Tryz.prog 17 #[.slice a n c] w fun e w'=>e=.returned (.int .i64 (resE C))∧Below w.heap.size w w':=by
  have HC:=Hd (results_calls C hok a n c w hv)
  clear hv hok
  go_enter Tryz.func17,Tryz.ntmps17
  go_wp2_with fail
  refine HC.out.mono ?_
  rintro e w2 ⟨hb2,hT⟩
  have HB2:=Hd hb2
  clear hb2
  rcases hT with ⟨he,rfl⟩|⟨he,ra,rc,rfl,hres⟩
  · go_wp2
    go_ret
    exact⟨rfl,HB2.out⟩
  · have HE:=Hd he
    clear he hres
    go_wp2
    go_ret
    exact⟨by rw [HE.out];rfl,HB2.out⟩
end
end Go.Proofs.YtjpfoophipcglaaGreatDoor
