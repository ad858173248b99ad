/- Which rows of parts are formulas, in plain words: what a part needs, whether it is right, how many results there are; where the parts begin whose result a part makes. -/
import Derived.Test.YtjpfoophipcglaaGreatDoorKRefMores
import Derived.Test.YtjpfoophipcglaaGreatDoorKRefScopes
namespace Go.Proofs.YtjpfoophipcglaaGreatDoor
set_option maxRecDepth 100000
set_option maxHeartbeats 8000000
def refNeed (p:PartL):Int:=if p.k=26 then coalN p.c else needK p.k
theorem need_good {p:PartL} (h:goodM p=true):needM p=(nd p:Int)∧refNeed p=(nd p:Int)∧(p.k=26∨p.c=0)∧rightM p=true:=by
  unfold goodM at h
  simp only [Bool.and_eq_true,decide_eq_true_eq] at h
  obtain⟨h0,hr⟩:=h
  have e:needM p=(nd p:Int):=by unfold nd;omega
  refine⟨e,?_,?_,hr⟩
  · rw [←e]
    unfold refNeed needM at *
    split
    · rfl
    · rename_i hk
      rw [if_neg hk] at h0
      split at h0
      · rename_i hc;rw [if_pos hc]
      · omega
  · unfold needM at h0
    split at h0
    · rename_i hk;exact .inl hk
    · split at h0
      · rename_i hc;exact .inr hc
      · omega
theorem all_drop {α:Type} {p:α→Bool} {l:List α} {k:Nat} (hk:k<l.length):(l.drop k).all p=(p l[k]&&(l.drop (k+1)).all p):=by rw [List.drop_eq_getElem_cons hk];rfl
def AllR {α:Type} (p:α→Bool) (l:List α) (k:Nat):Prop:=l.all p=(l.drop k).all p
theorem all_start {α:Type} (p:α→Bool) (l:List α):AllR p l 0:=rfl
theorem all_next {α:Type} {p:α→Bool} {l:List α} {k:Nat} (h:AllR p l k) (hk:k<l.length) (h1:p l[k]=true):AllR p l (k+1):=by
  unfold AllR at *;rw [h,all_drop hk,h1];rfl
theorem all_stop {α:Type} {p:α→Bool} {l:List α} {k:Nat} (h:AllR p l k) (hk:k<l.length) (h1:p l[k]=false):l.all p=false:=by
  unfold AllR at h;rw [h,all_drop hk,h1];rfl
theorem all_end {α:Type} {p:α→Bool} {l:List α} {k:Nat} (h:AllR p l k) (hk:l.length≤k):l.all p=true:=by
  unfold AllR at h;rw [h,List.drop_eq_nil_of_le hk];rfl
def ShR (C:List OpL) (k h:Nat):Prop:=shGo C 0=shGo (C.drop k) h∧h≤k
theorem shR_start (C:List OpL):ShR C 0 0:=⟨rfl,Nat.le_refl _⟩
theorem shR_next {C:List OpL} {k h:Nat} (H:ShR C k h) (hk:k<C.length) (hg:rightO C[k]=true) (hn:ndO C[k]≤h):ShR C (k+1) (h-ndO C[k]+1):=by
  refine⟨?_,by have:=H.2;omega⟩
  rw [H.1,List.drop_eq_getElem_cons hk,shGo,if_pos ⟨hg,hn⟩]
theorem shR_stop {C:List OpL} {k h:Nat} (H:ShR C k h) (hk:k<C.length) (hg:¬(rightO C[k]=true∧ndO C[k]≤h)):shB C=false:=by
  unfold shB
  rw [H.1,List.drop_eq_getElem_cons hk,shGo,if_neg hg]
  rfl
theorem shR_end {C:List OpL} {k h:Nat} (H:ShR C k h) (hk:C.length≤k):shB C=decide (h=1):=by
  unfold shB
  rw [H.1,List.drop_eq_nil_of_le hk]
  simp [shGo]
theorem htO_le {C:List OpL} {hh:Nat→Nat} (H:HtO C hh):∀k,k≤C.length→hh k≤k
  | 0,_=>by rw [H.zero];exact Nat.le_refl _
  | k+1,h=>by have:=htO_le H k (by omega);obtain⟨_,_,hs⟩:=H.step k (by omega);omega
def InsR (L:List (List UInt8)) (x:List UInt8) (k:Nat) (D:Bool) (O:List (List UInt8)):Prop:=(O++bif D then L.drop k else insL x (L.drop k))=insL x L∧O.length=k+bif D then 1 else 0
theorem ins_start (L:List (List UInt8)) (x:List UInt8):InsR L x 0 false []:=⟨rfl,rfl⟩
theorem ins_put {L:List (List UInt8)} {x:List UInt8} {k:Nat} {O:List (List UInt8)} (h:InsR L x k false O) (hk:k<L.length) (hl:Op.bytesLess x L[k]=true):InsR L x (k+1) true (O++[x]++[L[k]]):=by
  obtain⟨h1,h2⟩:=h
  refine⟨?_,by simp at h2 ⊢;omega⟩
  rw [←h1]
  simp only [cond_true,cond_false]
  rw [List.drop_eq_getElem_cons hk,insL,if_pos hl]
  simp
theorem ins_keep {L:List (List UInt8)} {x:List UInt8} {k:Nat} {O:List (List UInt8)} (h:InsR L x k false O) (hk:k<L.length) (hl:Op.bytesLess x L[k]=false):InsR L x (k+1) false (O++[L[k]]):=by
  obtain⟨h1,h2⟩:=h
  refine⟨?_,by simp at h2 ⊢;omega⟩
  rw [←h1]
  simp only [cond_false]
  rw [List.drop_eq_getElem_cons hk,insL,if_neg (by rw [hl];decide)]
  simp
theorem ins_next {L:List (List UInt8)} {x:List UInt8} {k:Nat} {O:List (List UInt8)} (h:InsR L x k true O) (hk:k<L.length):InsR L x (k+1) true (O++[L[k]]):=by
  obtain⟨h1,h2⟩:=h
  refine⟨?_,by simp at h2 ⊢;omega⟩
  rw [←h1]
  simp only [cond_true]
  rw [List.drop_eq_getElem_cons hk]
  simp
theorem ins_end_no {L:List (List UInt8)} {x:List UInt8} {k:Nat} {O:List (List UInt8)} (h:InsR L x k false O) (hk:L.length≤k):O++[x]=insL x L:=by
  have h1:=h.1
  rw [List.drop_eq_nil_of_le hk] at h1
  simpa [insL] using h1
theorem ins_end_yes {L:List (List UInt8)} {x:List UInt8} {k:Nat} {O:List (List UInt8)} (h:InsR L x k true O) (hk:L.length≤k):O=insL x L:=by
  have h1:=h.1
  rw [List.drop_eq_nil_of_le hk] at h1
  simpa using h1
section
open Go.RowKit
theorem bnext {W w1 w2:World} (h1:Below W.heap.size W w1) (h2:Below w1.heap.size w1 w2):Below W.heap.size W w2:=h1.trans (h2.mono h1.size)
end
section
open Go.RowKit
theorem neql_termz (a:TermL) (w:World):(binOp .neq 67 (.agg #[.int .i64 a.k,.string (bs a.x),.string (bs a.y),.string (bs a.z)]) (.agg #[.int .i64 0,.string ⟨#[]⟩,.string ⟨#[]⟩,.string ⟨#[]⟩])).run Tryz.prog w=.ok (.bool (!zeroT a)) w:=by
  rw [run_neq_struct]
  have:=eq_termz 9998 a w
  rw [this];rfl
end
section
open Go.RowKit
def kindspatB (a b c:Int):Bool:=(a==1||a==4)&&((b==1||b==4)&&(c==1||(c==2||c==4)))
theorem kinds_patB {k k' k'':Int} {x y z x' y' z' x'' y'' z'':List UInt8} (h0:rightL k x y z=true) (h1:rightL k' x' y' z'=true) (h2:rightL k'' x'' y'' z''=true):patB ⟨⟨k,x,y,z⟩,⟨k',x',y',z'⟩,⟨k'',x'',y'',z''⟩⟩=kindspatB k k' k'':=by
  unfold patB checkB placeB TermL.right kindspatB
  rw [h0,h1,h2];simp only [List.contains,List.elem_cons,List.elem_nil,Bool.and_true]
  cases k==1<;>cases k==4<;>cases k'==1<;>cases k'==4<;>cases k''==1<;>cases k''==2<;>cases k''==4<;>rfl
theorem rPat_calls (t:TripL) (ht:t.ok) (w:World):Calls Tryz.prog 196 #[t.v] w fun e w'=>e=.returned (.bool (patB t))∧Below w.heap.size w w':=by
 have HT:=Hd ht;clear ht;obtain⟨⟨k,x,y,z⟩,⟨k',x',y',z'⟩,⟨k'',x'',y'',z''⟩⟩:=t;(simp only [TripL.v]);cases h0:rightL k x y z with
 | false =>
   (have BAD:=Hd (show patB ⟨⟨k,x,y,z⟩,⟨k',x',y',z'⟩,⟨k'',x'',y'',z''⟩⟩=false from no_zero (no_right h0)));have H0:=Hd h0;clear h0;(go_enter Tryz.func196,Tryz.ntmps196);(go_wp2_with fail);refine (rRight_calls k (bs x) (bs y) (bs z) _ HT.out.1.1 HT.out.1.2.1 HT.out.1.2.2).mono ?_;rintro e w1 ⟨rfl,hb1⟩;(simp only [bs_data]);rw [H0.out];obtain⟨hc,hf⟩:=bcell hb1;(have hz:w.heap.size<w1.heap.size:=by have:=hb1.size;simp at this;omega);go_wp2;go_ret;exact⟨by rw [BAD.out];rfl,one_box hb1⟩
 | true =>
   have H0:=Hd h0;clear h0;cases h1:rightL k' x' y' z' with
   | false =>
     (have BAD:=Hd (show patB ⟨⟨k,x,y,z⟩,⟨k',x',y',z'⟩,⟨k'',x'',y'',z''⟩⟩=false from no_one (no_right h1)));have H1:=Hd h1;clear h1;(go_enter Tryz.func196,Tryz.ntmps196);(go_wp2_with fail);refine (rRight_calls k (bs x) (bs y) (bs z) _ HT.out.1.1 HT.out.1.2.1 HT.out.1.2.2).mono ?_;rintro e w1 ⟨rfl,hb1⟩;(simp only [bs_data]);rw [H0.out];obtain⟨hc,hf⟩:=bcell hb1;(have hz:w.heap.size<w1.heap.size:=by have:=hb1.size;simp at this;omega);(go_wp2_with fail);refine (rRight_calls k' (bs x') (bs y') (bs z') _ HT.out.2.1.1 HT.out.2.1.2.1 HT.out.2.1.2.2).mono ?_;rintro e w2 ⟨rfl,hb2⟩;(simp only [bs_data]);rw [H1.out];replace hb2:=bnext hb1 hb2;clear hc hf hz hb1;obtain⟨hc,hf⟩:=bcell hb2;(have hz:w.heap.size<w2.heap.size:=by have:=hb2.size;simp at this;omega);go_wp2;go_ret;exact⟨by rw [BAD.out];rfl,one_box hb2⟩
   | true =>
     have H1:=Hd h1;clear h1;cases h2:rightL k'' x'' y'' z'' with
     | false =>
       (have BAD:=Hd (show patB ⟨⟨k,x,y,z⟩,⟨k',x',y',z'⟩,⟨k'',x'',y'',z''⟩⟩=false from no_two (no_right h2)));have H2:=Hd h2;clear h2;(go_enter Tryz.func196,Tryz.ntmps196);(go_wp2_with fail);refine (rRight_calls k (bs x) (bs y) (bs z) _ HT.out.1.1 HT.out.1.2.1 HT.out.1.2.2).mono ?_;rintro e w1 ⟨rfl,hb1⟩;(simp only [bs_data]);rw [H0.out];obtain⟨hc,hf⟩:=bcell hb1;(have hz:w.heap.size<w1.heap.size:=by have:=hb1.size;simp at this;omega);(go_wp2_with fail);refine (rRight_calls k' (bs x') (bs y') (bs z') _ HT.out.2.1.1 HT.out.2.1.2.1 HT.out.2.1.2.2).mono ?_;rintro e w2 ⟨rfl,hb2⟩;(simp only [bs_data]);rw [H1.out];replace hb2:=bnext hb1 hb2;clear hc hf hz hb1;obtain⟨hc,hf⟩:=bcell hb2;(have hz:w.heap.size<w2.heap.size:=by have:=hb2.size;simp at this;omega);(go_wp2_with fail);refine (rRight_calls k'' (bs x'') (bs y'') (bs z'') _ HT.out.2.2.1 HT.out.2.2.2.1 HT.out.2.2.2.2).mono ?_;rintro e w3 ⟨rfl,hb3⟩;(simp only [bs_data]);rw [H2.out];replace hb3:=bnext hb2 hb3;clear hc hf hz hb2;obtain⟨hc,hf⟩:=bcell hb3;(have hz:w.heap.size<w3.heap.size:=by have:=hb3.size;simp at this;omega);go_wp2;go_ret;exact⟨by rw [BAD.out];rfl,one_box hb3⟩
     | true =>
       have H2:=Hd h2;clear h2;(have GOOD:=Hd (show patB ⟨⟨k,x,y,z⟩,⟨k',x',y',z'⟩,⟨k'',x'',y'',z''⟩⟩=kindspatB k k' k'' from kinds_patB H0.out H1.out H2.out));(go_enter Tryz.func196,Tryz.ntmps196);(go_wp2_with fail);refine (rRight_calls k (bs x) (bs y) (bs z) _ HT.out.1.1 HT.out.1.2.1 HT.out.1.2.2).mono ?_;rintro e w1 ⟨rfl,hb1⟩;(simp only [bs_data]);rw [H0.out];obtain⟨hc,hf⟩:=bcell hb1;(have hz:w.heap.size<w1.heap.size:=by have:=hb1.size;simp at this;omega);(go_wp2_with fail);refine (rRight_calls k' (bs x') (bs y') (bs z') _ HT.out.2.1.1 HT.out.2.1.2.1 HT.out.2.1.2.2).mono ?_;rintro e w2 ⟨rfl,hb2⟩;(simp only [bs_data]);rw [H1.out];replace hb2:=bnext hb1 hb2;clear hc hf hz hb1;obtain⟨hc,hf⟩:=bcell hb2;(have hz:w.heap.size<w2.heap.size:=by have:=hb2.size;simp at this;omega);(go_wp2_with fail);refine (rRight_calls k'' (bs x'') (bs y'') (bs z'') _ HT.out.2.2.1 HT.out.2.2.2.1 HT.out.2.2.2.2).mono ?_;rintro e w3 ⟨rfl,hb3⟩;(simp only [bs_data]);rw [H2.out];replace hb3:=bnext hb2 hb3;clear hc hf hz hb2;obtain⟨hc,hf⟩:=bcell hb3;(have hz:w.heap.size<w3.heap.size:=by have:=hb3.size;simp at this;omega);go_wp2;all_goals
        go_ret;exact⟨by rw [GOOD.out];exact ret_bool (by simp [kindspatB,Bool.or_assoc, *]),one_box hb3⟩
end
section
open Go.RowKit
theorem InA_calls (L:List (List UInt8)) (x:List UInt8) (a:Option Addr) (n c:Nat) (w:World) (h:TxtA w a n c L):Calls Tryz.prog 55 #[.slice a n c,.string (bs x)] w fun e w'=>e=.returned (.bool (decide (x∈L)))∧w'=w:=by
 have hn:=h.len;have hc:=h.cap;have hm:=h.most;have HX:=Hd h.cells;have HN:=Hd hn;clear h hn;(unfold maxLen at hm);(go_enter Tryz.func55,Tryz.ntmps55);go_wp2;go_loop [5] (fun i=>∃k:Nat,k≤n∧i=.int .i64 k∧Hid (¬x∈L.take k)) (fun i=>n-(intOf i).toNat)
 case atStart=>exact⟨0,Nat.zero_le _,rfl,by show ¬_;simp⟩
 case round =>
  obtain⟨k,hk,rfl,hno⟩:=hrel;by_cases hlt:k<n
  ·(have hlt':k<L.length:=by rw [HN.out];exact hlt);(obtain⟨g,o,ha,hgw,hcells⟩:=HX.out (by omega));subst ha;have hc:=hcells k hlt';clear hcells;(have hts:x∈L.take (k+1)↔x∈L.take k∨x=L[k]:=by rw [List.take_succ_eq_append_getElem hlt',List.mem_append,List.mem_singleton]);obtain⟨y,hy⟩:∃y,L[k]=y:=⟨_,rfl⟩;rw [hy] at hc hts;by_cases he:x=y
   ·(have HIN:=Hd (show decide (x∈L)=true from decide_eq_true (by rw [he,←hy];exact List.getElem_mem hlt')));(have heq:(bs y).toList=(bs x).toList:=by rw [he]);clear hts hy he;go_wp2;go_ret;exact⟨ret_bool HIN.out.symm,rfl⟩
   ·(have HNX:=Hd (show ¬x∈L.take (k+1) from fun c=>(hts.1 c).elim hno.out he));(have hne:((bs y).toList==(bs x).toList)=false:=by rw [bs_toList,bs_toList];exact beq_eq_false_iff_ne.2 (fun c=>he c.symm));clear hts hy he;go_wp2;exact⟨⟨k+1,by omega,by go_num,HNX⟩,by simp [intOf];omega⟩
  ·(have HIN:=Hd (show decide (x∈L)=false from decide_eq_false (by have:=hno.out;rwa [List.take_of_length_le (by rw [HN.out];omega)] at this)));go_wp2;go_ret;exact⟨ret_bool HIN.out.symm,rfl⟩
theorem rvalue_calls (t:TermL) (ht:t.ok) (w:World):Calls Tryz.prog 197 #[t.v] w fun e w'=>e=.returned (.bool (valueZ t))∧Below w.heap.size w w':=by
 obtain⟨k,x,y,z⟩:=t;have HT:=Hd ht;clear ht;(simp only [TermL.v]);(have HV:=Hd (show valueZ ⟨k,x,y,z⟩=(rightL k x y z&&(decide (k=0)||decide (k=1)||decide (k=2))) from rfl));cases hr:rightL k x y z with
 | false =>
   have HR:=Hd hr;rw [hr] at HV;clear hr;(go_enter Tryz.func197,Tryz.ntmps197);(go_wp2_with fail);refine (rRight_calls k (bs x) (bs y) (bs z) _ HT.out.1 HT.out.2.1 HT.out.2.2).mono ?_;rintro e w1 ⟨rfl,hb1⟩;(simp only [bs_data]);rw [HR.out];obtain⟨hc,hf⟩:=bcell hb1;(have hz:w.heap.size<w1.heap.size:=by have:=hb1.size;simp at this;omega);go_wp2;go_ret;exact⟨by rw [HV.out];rfl,one_box hb1⟩
 | true =>
   have HR:=Hd hr;rw [hr] at HV;clear hr;by_cases h0:k=0
   ·subst h0;(go_enter Tryz.func197,Tryz.ntmps197);(go_wp2_with fail);refine (rRight_calls 0 (bs x) (bs y) (bs z) _ HT.out.1 HT.out.2.1 HT.out.2.2).mono ?_;rintro e w1 ⟨rfl,hb1⟩;(simp only [bs_data]);rw [HR.out];obtain⟨hc,hf⟩:=bcell hb1;(have hz:w.heap.size<w1.heap.size:=by have:=hb1.size;simp at this;omega);go_wp2;go_ret;exact⟨by rw [HV.out];rfl,one_box hb1⟩
   ·by_cases h1:k=1
    ·subst h1;(go_enter Tryz.func197,Tryz.ntmps197);(go_wp2_with fail);refine (rRight_calls 1 (bs x) (bs y) (bs z) _ HT.out.1 HT.out.2.1 HT.out.2.2).mono ?_;rintro e w1 ⟨rfl,hb1⟩;(simp only [bs_data]);rw [HR.out];obtain⟨hc,hf⟩:=bcell hb1;(have hz:w.heap.size<w1.heap.size:=by have:=hb1.size;simp at this;omega);go_wp2;go_ret;exact⟨by rw [HV.out];rfl,one_box hb1⟩
    ·by_cases h2:k=2
     ·subst h2;(go_enter Tryz.func197,Tryz.ntmps197);(go_wp2_with fail);refine (rRight_calls 2 (bs x) (bs y) (bs z) _ HT.out.1 HT.out.2.1 HT.out.2.2).mono ?_;rintro e w1 ⟨rfl,hb1⟩;(simp only [bs_data]);rw [HR.out];obtain⟨hc,hf⟩:=bcell hb1;(have hz:w.heap.size<w1.heap.size:=by have:=hb1.size;simp at this;omega);go_wp2;go_ret;exact⟨by rw [HV.out];rfl,one_box hb1⟩
     ·have g0:(k==0)=false:=beq_eq_false_iff_ne.2 h0;have g1:(k==1)=false:=beq_eq_false_iff_ne.2 h1;have g2:(k==2)=false:=beq_eq_false_iff_ne.2 h2;rw [decide_eq_false h0,decide_eq_false h1,decide_eq_false h2] at HV;clear h0 h1 h2;(go_enter Tryz.func197,Tryz.ntmps197);(go_wp2_with fail);refine (rRight_calls k (bs x) (bs y) (bs z) _ HT.out.1 HT.out.2.1 HT.out.2.2).mono ?_;rintro e w1 ⟨rfl,hb1⟩;(simp only [bs_data]);rw [HR.out];obtain⟨hc,hf⟩:=bcell hb1;(have hz:w.heap.size<w1.heap.size:=by have:=hb1.size;simp at this;omega);go_wp2;go_ret;exact⟨by rw [HV.out];rfl,one_box hb1⟩
theorem rpatterns_calls (T:List TripL) (hok:∀t∈T,t.ok) (a:Option Addr) (n c:Nat) (w:World) (hv:TrpA w a n c T):Calls Tryz.prog 138 #[.slice a n c] w fun e w'=>e=.returned (.bool (patsB T))∧Below w.heap.size w w':=by
 have HV:=Hd hv;have HOK:=Hd hok;have HL:=Hd hv.len;have hcp:=hv.cap;have hms:=hv.most;(unfold maxLen at hms);clear hv hok;(go_enter Tryz.func138,Tryz.ntmps138);go_wp2;go_loopg [3] n (fun g i wr=>∃k:Nat,i=.int .i64 k∧k+g=n∧Hid (AllR patB T k)∧Hid (Below w.heap.size w wr))
 case atStart=>exact⟨0,rfl,by omega,Hd (all_start patB T),Hd (Below.refl _ _)⟩
 case round =>
  obtain⟨W1,rfl⟩:∃W1,W1=wr:=⟨_,rfl⟩;obtain⟨k,rfl,hkg,HR,HB⟩:=hrel;by_cases hk:k<n
  ·(have hkL:k<T.length:=by rw [HL.out];exact hk);(obtain⟨gg,rfl⟩:∃gg,gk=gg+1:=⟨gk-1,by omega⟩);(obtain⟨g,o,ha,hgw,hcells⟩:=HV.out.cells (by omega));subst ha;have hgW:g<W1.heap.size:=Nat.lt_of_lt_of_le hgw HB.out.size;obtain⟨hs,hp,ho⟩:=hcells k hkL;obtain⟨c0,c1,c2,c3⟩:=hs.on HB.out hgw;obtain⟨c4,c5,c6,c7⟩:=hp.on HB.out hgw;obtain⟨c8,c9,c10,c11⟩:=ho.on HB.out hgw;have hpok:=HOK.out T[k] (List.getElem_mem hkL);(have HNX:=Hd (fun h1=>all_next HR.out hkL h1));(have HST:=Hd (fun h1=>all_stop HR.out hkL h1));clear hcells hs hp ho;generalize T[k]=t at c0 c1 c2 c3 c4 c5 c6 c7 c8 c9 c10 c11 hpok HNX HST;(have HPT:=Hd (fun W=>rPat_calls t hpok W));clear hpok;(have hbb:patB t=true∨patB t=false:=by cases patB t<;>simp);generalize patB t=b at hbb HPT HNX HST;obtain⟨⟨k1,x1,y1,z1⟩,⟨k2,x2,y2,z2⟩,⟨k3,x3,y3,z3⟩⟩:=t;(simp only [TripL.v] at HPT);dsimp only at c0 c1 c2 c3 c4 c5 c6 c7 c8 c9 c10 c11;rcases hbb with rfl|rfl
   ·have HR2:=Hd (HNX.out rfl);clear HNX HST;(go_wp2_with fail);refine (HPT.out _).mono ?_;rintro e w2 ⟨rfl,hb2⟩;have HB2:=Hd (HB.out.trans (hb2.mono HB.out.size));clear hb2;go_wp2;go_roundg gg
    case measure=>omega
    case rel=>exact⟨k+1,by go_num,by omega,HR2,HB2⟩
   ·(have HE:=Hd (show patsB T=false by unfold patsB;rw [HST.out rfl];rfl));clear HNX HST;(go_wp2_with fail);refine (HPT.out _).mono ?_;rintro e w2 ⟨rfl,hb2⟩;have HB2:=Hd (HB.out.trans (hb2.mono HB.out.size));clear hb2;go_wp2;go_ret;exact⟨by rw [HE.out];rfl,HB2.out⟩
  ·(have HA:=Hd (all_end HR.out (by rw [HL.out];omega)));(have k1:¬(k:Int)<(n:Int):=by omega);by_cases h32:n≤32
   ·(have HE:=Hd (show patsB T=true by unfold patsB;rw [HA.out,HL.out,decide_eq_true h32];rfl));(have k2:(n:Int)≤32:=by omega);go_wp2;go_ret;exact⟨by rw [HE.out];rfl,HB.out⟩
   ·(have HE:=Hd (patsB_long (T:=T) (by rw [HL.out];omega)));(have k2:¬(n:Int)≤32:=by omega);go_wp2;go_ret;exact⟨by rw [HE.out];rfl,HB.out⟩
end
section
open Go.RowKit
theorem In_calls (L:List (List UInt8)) (x:List UInt8) (v:Value) (w:World) (hl:L.length≤3) (h:Reads w v L.length (textCells L)):Calls Tryz.prog 55 #[v,.string (bs x)] w fun e w'=>e=.returned (.bool (decide (x∈L)))∧w'=w:=by
 rcases h with ⟨rfl,h0⟩|⟨g,cap,rfl,hg,hn,hm,hc⟩
 ·have e:L=[]:=List.eq_nil_of_length_eq_zero h0;subst e;(go_enter Tryz.func55,Tryz.ntmps55);go_wp2;go_loop [5] (fun i=>i=.int .i64 0) (fun _=>0)
  case atStart=>rfl
  case round =>
   subst hrel;go_wp2;go_ret;exact⟨ret_bool (by simp),rfl⟩
 ·have HC:=Hd hc;(have hX:=Hd (show ∀j (h:j<L.length),w.cell? ⟨g,j,none⟩=some (.string (bs L[j])) from fun j h=>hc j _ (by simp [textCells,h])));clear hc;(unfold maxLen at hm);obtain⟨N,hN⟩:∃N,L.length=N:=⟨_,rfl⟩;rw [hN] at hl hn;have HN:=Hd hN;clear hN;rw [HN.out];(go_enter Tryz.func55,Tryz.ntmps55);go_wp2;go_loop [5] (fun i=>∃k:Nat,k≤N∧i=.int .i64 k∧Hid (¬x∈L.take k)) (fun i=>N-(intOf i).toNat)
  case atStart=>exact⟨0,Nat.zero_le _,rfl,by show ¬_;simp⟩
  case round =>
   obtain⟨k,hk,rfl,hno⟩:=hrel;by_cases hlt:k<N
   ·(have hlt':k<L.length:=by rw [HN.out];exact hlt);have hc:=hX.out k hlt';(have hts:x∈L.take (k+1)↔x∈L.take k∨x=L[k]:=by rw [List.take_succ_eq_append_getElem hlt',List.mem_append,List.mem_singleton]);obtain⟨y,hy⟩:∃y,L[k]=y:=⟨_,rfl⟩;rw [hy] at hc hts;by_cases he:x=y
    ·(have HIN:=Hd (show decide (x∈L)=true from decide_eq_true (by rw [he,←hy];exact List.getElem_mem hlt')));(have heq:(bs y).toList=(bs x).toList:=by rw [he]);clear hts hy he;go_wp2;go_ret;exact⟨ret_bool HIN.out.symm,rfl⟩
    ·(have HNX:=Hd (show ¬x∈L.take (k+1) from fun c=>(hts.1 c).elim hno.out he));(have hne:((bs y).toList==(bs x).toList)=false:=by rw [bs_toList,bs_toList];exact beq_eq_false_iff_ne.2 (fun c=>he c.symm));clear hts hy he;go_wp2;exact⟨⟨k+1,by omega,by go_num,HNX⟩,by simp [intOf];omega⟩
   ·(have HIN:=Hd (show decide (x∈L)=false from decide_eq_false (by have:=hno.out;rwa [List.take_of_length_le (by rw [HN.out];omega)] at this)));go_wp2;go_ret;exact⟨ret_bool HIN.out.symm,rfl⟩
end
section
open Go.RowKit
def MoreT (B:Nat) (W0:World) (M:List (List UInt8)) (e:Ending) (w':World):Prop :=
  ∃v,e=.returned v∧w'.ownsRow B 9 1 v M.length (textCells M)∧Below B W0 w'
theorem more_calls (L:List (List UInt8)) (k:Int) (x y z:List UInt8) (B:Nat) (W0:World) (v:Value) (w:World) (hl:L.length≤2) (hB:B≤W0.heap.size) (hbw:Below B W0 w) (hown:w.ownsRow B 9 1 v L.length (textCells L)):Calls Tryz.prog 141 #[v,.agg #[.int .i64 k,.string (bs x),.string (bs y),.string (bs z)]] w (MoreT B W0 (moreL L ⟨k,x,y,z⟩)):=by
 obtain⟨i0,hi,hz0,hz1,hz2⟩:=info_parts info_string;have hB2:B≤w.heap.size:=Nat.le_trans hB hbw.size;by_cases h4:k=4
 ·(have g4:(k !=4)=false:=by simp [h4]);have hrd:=(reads_of (hown.alloc (.cells #[.int .i64 k,.string (bs x),.string (bs y),.string (bs z)] 67)));by_cases hin:x∈L
  ·(have HM:=Hd (show moreL L ⟨k,x,y,z⟩=L from if_neg (fun c=>c.2 hin)));(have HC:=Hd (show decide (x∈L)=true from decide_eq_true hin));clear h4 hin;(go_enter Tryz.func141,Tryz.ntmps141);(go_wp2_with fail);(refine (In_calls L x _ _ (by omega) hrd).mono ?_);rintro e wn ⟨rfl,hwn⟩;subst hwn;rw [HC.out];go_wp2;refine bodyPost_ret (v:=v) (by simp [results,Tryz.results141,go_sem]) rfl ⟨v,rfl,by rw [HM.out];exact hown.alloc _,hbw.alloc hB2 _⟩
  ·(have HM:=Hd (show moreL L ⟨k,x,y,z⟩=L++[x] from if_pos ⟨h4,hin⟩));(have HC:=Hd (show decide (x∈L)=false from decide_eq_false hin));have HLen:=Hd (textCells_length L);clear h4 hin;(go_enter Tryz.func141,Tryz.ntmps141);(go_wp2_with fail);(refine (In_calls L x _ _ (by omega) hrd).mono ?_);rintro e wn ⟨rfl,hwn⟩;subst hwn;rw [HC.out];clear hrd;(go_wp2_with (at_builtin;go_must (refine wpList_append_own _ rfl (.tmp 15) (.tmp 18) 22 rfl B 9 i0 (.string ⟨#[]⟩) 1 16 Tryz.underlying22 hi hz0 hz1 hz2 rfl (by decide) _ _ _ rfl ((hown.alloc _).alloc _) ⟨w.heap.size+1,0,none⟩ 1 1 [.string (bs x)] rfl rfl (fun j u hu=>by (cases j with|zero=>(simp at hu;subst hu;simp [go_sem])|succ j=>simp at hu)) (by intro u hu;simp at hu;subst hu;rfl) (by unfold maxLen;omega) (by omega) (by simp;omega) ?_;intro v3 w3 hown3 hgrow3 hnil3;have HN3:=Hd hnil3;clear hnil3;have HO3:=Hd hown3;clear hown3;have HG3:=Hd hgrow3;clear hgrow3)));(refine bodyPost_ret (v:=v3) (by simp [results,Tryz.results141,go_sem]) rfl ⟨v3,rfl,by rw [HM.out,textCells_append,List.length_append];exact HO3.out,?_⟩);exact ((hbw.alloc hB2 _).alloc (by simp;omega) _).grown HG3.out (by simp;omega) (fun k hk=>(hown.lt k hk).1)
 ·(have g4:(k !=4)=true:=by simp [h4]);(have HM:=Hd (show moreL L ⟨k,x,y,z⟩=L from if_neg (fun c=>h4 c.1)));clear h4;(go_enter Tryz.func141,Tryz.ntmps141);go_wp2;refine bodyPost_ret (v:=v) (by simp [results,Tryz.results141,go_sem]) rfl ⟨v,rfl,by rw [HM.out];exact hown.alloc _,hbw.alloc hB2 _⟩
theorem drewRow {w:World} {B size n:Nat} {e:TypeId} {v:Value} {xs:List Value} (h:w.ownsRow B e size v n xs):w.drew.ownsRow B e size v n xs:=h
theorem rowBase {w:World} {B B2 size n:Nat} {e:TypeId} {v:Value} {xs:List Value} (h:w.ownsRow B e size v n xs) (hb:B2≤B):w.ownsRow B2 e size v n xs:=by
  refine⟨h.1,?_⟩
  rcases h.2 with h0|⟨g,cap,cur,hv,hg,r⟩
  · exact .inl h0
  · exact .inr ⟨g,cap,cur,hv,Nat.le_trans hb hg,r⟩
theorem keptB {W W':World} {B b o:Nat} {v:Value} (h:W.cell? ⟨b,o,none⟩=some v) (hb:Below B W W') (hp:b<B):W'.cell? ⟨b,o,none⟩=some v:=by rw [hb.cell (p:=⟨b,o,none⟩) hp];exact h
theorem rVars_calls (t:TripL) (w:World):Calls Tryz.prog 106 #[t.v] w (VarsT w t):=by
 obtain⟨⟨k,x,y,z⟩,⟨k',x',y',z'⟩,⟨k'',x'',y'',z''⟩⟩:=t;(simp only [TripL.v]);(go_enter Tryz.func106,Tryz.ntmps106);(go_wp2_with fail);obtain⟨W0,hW0⟩:∃W0,w.alloc (.cells #[.int .i64 k,.string (bs x),.string (bs y),.string (bs z),.int .i64 k',.string (bs x'),.string (bs y'),.string (bs z'),.int .i64 k'',.string (bs x''),.string (bs y''),.string (bs z'')] 146)=W0:=⟨_,rfl⟩;rw [hW0];(have hz0:W0.heap.size=w.heap.size+1:=by rw [←hW0];simp);(have hb0:Below w.heap.size w W0:=by rw [←hW0];exact box_below _ _);(have c0:W0.cell? ⟨w.heap.size,0,none⟩=some (.int .i64 k):=by rw [←hW0];simp [go_sem]);(have c1:W0.cell? ⟨w.heap.size,1,none⟩=some (.string (bs x)):=by rw [←hW0];simp [go_sem]);(have c2:W0.cell? ⟨w.heap.size,2,none⟩=some (.string (bs y)):=by rw [←hW0];simp [go_sem]);(have c3:W0.cell? ⟨w.heap.size,3,none⟩=some (.string (bs z)):=by rw [←hW0];simp [go_sem]);(have c4:W0.cell? ⟨w.heap.size,4,none⟩=some (.int .i64 k'):=by rw [←hW0];simp [go_sem]);(have c5:W0.cell? ⟨w.heap.size,5,none⟩=some (.string (bs x')):=by rw [←hW0];simp [go_sem]);(have c6:W0.cell? ⟨w.heap.size,6,none⟩=some (.string (bs y')):=by rw [←hW0];simp [go_sem]);(have c7:W0.cell? ⟨w.heap.size,7,none⟩=some (.string (bs z')):=by rw [←hW0];simp [go_sem]);(have c8:W0.cell? ⟨w.heap.size,8,none⟩=some (.int .i64 k''):=by rw [←hW0];simp [go_sem]);(have c9:W0.cell? ⟨w.heap.size,9,none⟩=some (.string (bs x'')):=by rw [←hW0];simp [go_sem]);(have c10:W0.cell? ⟨w.heap.size,10,none⟩=some (.string (bs y'')):=by rw [←hW0];simp [go_sem]);(have c11:W0.cell? ⟨w.heap.size,11,none⟩=some (.string (bs z'')):=by rw [←hW0];simp [go_sem]);clear hW0;have HC0:=Hd c0;have HC1:=Hd c1;have HC2:=Hd c2;have HC3:=Hd c3;have HC4:=Hd c4;have HC5:=Hd c5;have HC6:=Hd c6;have HC7:=Hd c7;have HC8:=Hd c8;have HC9:=Hd c9;have HC10:=Hd c10;have HC11:=Hd c11;(have hl1:=Hd (show (moreL [] ⟨k,x,y,z⟩).length≤1 by have:=moreL_length [] ⟨k,x,y,z⟩;simpa using this));(have hl2:=Hd (show (moreL (moreL [] ⟨k,x,y,z⟩) ⟨k',x',y',z'⟩).length≤2 by have:=moreL_length (moreL [] ⟨k,x,y,z⟩) ⟨k',x',y',z'⟩;have:=hl1.out;omega));refine wp_region_held_drew (S:=(fun W=>W.cell? ⟨w.heap.size,0,none⟩=some (.int .i64 k)∧W.cell? ⟨w.heap.size,1,none⟩=some (.string (bs x))∧W.cell? ⟨w.heap.size,2,none⟩=some (.string (bs y))∧W.cell? ⟨w.heap.size,3,none⟩=some (.string (bs z))∧W.cell? ⟨w.heap.size,4,none⟩=some (.int .i64 k')∧W.cell? ⟨w.heap.size,5,none⟩=some (.string (bs x'))∧W.cell? ⟨w.heap.size,6,none⟩=some (.string (bs y'))∧W.cell? ⟨w.heap.size,7,none⟩=some (.string (bs z'))∧W.cell? ⟨w.heap.size,8,none⟩=some (.int .i64 k'')∧W.cell? ⟨w.heap.size,9,none⟩=some (.string (bs x''))∧W.cell? ⟨w.heap.size,10,none⟩=some (.string (bs y''))∧W.cell? ⟨w.heap.size,11,none⟩=some (.string (bs z'')))) (by kernel_rfl) ?_ (fun hHeld=>?_)
 ·(try dsimp only);go_keep
 refine tkC 1 ?_;refine tkC 2 ?_;refine tkC 4 ?_;refine tkC 5 ?_;refine tkC 7 ?_;refine tkC 8 ?_;(refine rdA 0 fun K hK=>?_);go_simp;refine hK.out _ _ ?_ (fun hHeld=>?_)
 ·(try dsimp only);go_keep
 clear hK K;(try simp only [Act.put,sb,sz,ss]);have hown:(W0.alloc (.cells #[] 9)).ownsRow (w.heap.size+1) 9 1 (.slice (some ⟨w.heap.size+1,0,none⟩) 0 0) ([]:List (List UInt8)).length (textCells []):=by
  (have:=World.ownsRow_made (base:=w.heap.size+1) (e:=9) (size:=1) W0 #[] 0 (by omega) (by unfold maxLen;omega) rfl);rwa [hz0] at this
 (have hbn:Below (w.heap.size+1) W0 (W0.alloc (.cells #[] 9)):=(Below.refl _ _).alloc (by omega) _);(refine rdA 3 fun K hK=>?_);go_simp;refine (more_calls [] k x y z (w.heap.size+1) W0 _ _ (by simp) (by omega) ?_ ?_).mono ?_
 ·first|exact hbn|exact hbn.drew
 ·first|exact hown|exact drewRow hown
 rintro e wn ⟨v0,rfl,hown2,hbn2⟩;clear hbn hown;have hbn:=hbn2;have hown:=hown2;clear hbn2 hown2;clear c0 c1 c2 c3 c4 c5 c6 c7 c8 c9 c10 c11;(have c0:=keptB (HC0.out) hbn (by simp));(have c1:=keptB (HC1.out) hbn (by simp));(have c2:=keptB (HC2.out) hbn (by simp));(have c3:=keptB (HC3.out) hbn (by simp));(have c4:=keptB (HC4.out) hbn (by simp));(have c5:=keptB (HC5.out) hbn (by simp));(have c6:=keptB (HC6.out) hbn (by simp));(have c7:=keptB (HC7.out) hbn (by simp));(have c8:=keptB (HC8.out) hbn (by simp));(have c9:=keptB (HC9.out) hbn (by simp));(have c10:=keptB (HC10.out) hbn (by simp));(have c11:=keptB (HC11.out) hbn (by simp));(go_wp2_with fail);refine hK.out _ _ ?_ (fun hHeld=>?_)
 ·(try dsimp only);go_keep
 clear hK K;(try simp only [Act.put,sb,sz,ss]);(refine rdA 6 fun K hK=>?_);go_simp;refine (more_calls (moreL [] ⟨k,x,y,z⟩) k' x' y' z' (w.heap.size+1) W0 _ _ (by have:=hl1.out;omega) (by omega) ?_ ?_).mono ?_
 ·first|exact hbn|exact hbn.drew
 ·first|exact hown|exact drewRow hown
 rintro e wn ⟨v1,rfl,hown2,hbn2⟩;clear hbn hown;have hbn:=hbn2;have hown:=hown2;clear hbn2 hown2;clear c0 c1 c2 c3 c4 c5 c6 c7 c8 c9 c10 c11;(have c0:=keptB (HC0.out) hbn (by simp));(have c1:=keptB (HC1.out) hbn (by simp));(have c2:=keptB (HC2.out) hbn (by simp));(have c3:=keptB (HC3.out) hbn (by simp));(have c4:=keptB (HC4.out) hbn (by simp));(have c5:=keptB (HC5.out) hbn (by simp));(have c6:=keptB (HC6.out) hbn (by simp));(have c7:=keptB (HC7.out) hbn (by simp));(have c8:=keptB (HC8.out) hbn (by simp));(have c9:=keptB (HC9.out) hbn (by simp));(have c10:=keptB (HC10.out) hbn (by simp));(have c11:=keptB (HC11.out) hbn (by simp));(go_wp2_with fail);refine hK.out _ _ ?_ (fun hHeld=>?_)
 ·(try dsimp only);go_keep
 clear hK K;(try simp only [Act.put,sb,sz,ss]);(refine rdA 9 fun K hK=>?_);go_simp;refine (more_calls (moreL (moreL [] ⟨k,x,y,z⟩) ⟨k',x',y',z'⟩) k'' x'' y'' z'' (w.heap.size+1) W0 _ _ (by have:=hl2.out;omega) (by omega) ?_ ?_).mono ?_
 ·first|exact hbn|exact hbn.drew
 ·first|exact hown|exact drewRow hown
 rintro e wn ⟨v2,rfl,hown2,hbn2⟩;clear hbn hown;have hbn:=hbn2;have hown:=hown2;clear hbn2 hown2;clear c0 c1 c2 c3 c4 c5 c6 c7 c8 c9 c10 c11;(have c0:=keptB (HC0.out) hbn (by simp));(have c1:=keptB (HC1.out) hbn (by simp));(have c2:=keptB (HC2.out) hbn (by simp));(have c3:=keptB (HC3.out) hbn (by simp));(have c4:=keptB (HC4.out) hbn (by simp));(have c5:=keptB (HC5.out) hbn (by simp));(have c6:=keptB (HC6.out) hbn (by simp));(have c7:=keptB (HC7.out) hbn (by simp));(have c8:=keptB (HC8.out) hbn (by simp));(have c9:=keptB (HC9.out) hbn (by simp));(have c10:=keptB (HC10.out) hbn (by simp));(have c11:=keptB (HC11.out) hbn (by simp));(go_wp2_with fail);refine hK.out _ _ ?_ (fun hHeld=>?_)
 ·(try dsimp only);go_keep
 clear hK K;(try simp only [Act.put,sb,sz,ss]);refine tkA 10 2 ?_;refine dnA ?_;go_wp2;refine bodyPost_ret (v:=v2) (by simp [results,Tryz.results106,go_sem]) rfl ⟨v2,rfl,?_,?_⟩
 ·exact rowBase (by first|exact hown|exact drewRow hown) (by omega)
 ·exact hb0.trans (by first|exact hbn.mono (by omega)|exact (hbn.mono (by omega)).drew)
end
section
open Go.RowKit
theorem own_start (w:World):(w.alloc (.cells #[] 9)).ownsRow w.heap.size 9 1 (.slice (some ⟨w.heap.size,0,none⟩) 0 0) ([]:List (List UInt8)).length (textCells []):=World.ownsRow_made (base:=w.heap.size) (e:=9) (size:=1) w #[] 0 (Nat.le_refl _) (by unfold maxLen;omega) rfl
theorem textCells_two (O:List (List UInt8)) (x y:List UInt8):textCells (O++[x]++[y])=textCells O++[.string (bs x)]++[.string (bs y)]:=by rw [textCells_append,textCells_append];rfl
theorem rmore_calls (L:List (List UInt8)) (x:List UInt8) (a:Option Addr) (n c:Nat) (w:World) (hv:TxtA w a n c L) (hl:n≤4294967296):Calls Tryz.prog 64 #[.slice a n c,.string (bs x)] w (NamesT w (moreO L x)):=by
 obtain⟨i0,hi,hz0,hz1,hz2⟩:=info_parts info_string;have HV:=Hd hv;have HL:=Hd hv.len;have HIN:=Hd (InA_calls L x a n c w hv);have hcp:=hv.cap;have hms:=hv.most;(unfold maxLen at hms);clear hv;by_cases hin:x∈L
 ·(have HM:=Hd (show moreO L x=L from if_pos hin));rw [decide_eq_true hin] at HIN;clear hin;(go_enter Tryz.func64,Tryz.ntmps64);(go_wp2_with fail);refine HIN.out.mono ?_;rintro e wn ⟨rfl,hwn⟩;subst hwn;go_wp2;refine bodyPost_ret (v:=.slice a n c) (by simp [results,Tryz.results64,go_sem]) rfl ⟨a,c,by rw [HM.out,HL.out],by rw [HM.out,HL.out];exact HV.out,Below.refl _ _⟩
 ·(have HM:=Hd (show moreO L x=insL x L from if_neg hin));rw [decide_eq_false hin] at HIN;clear hin;(go_enter Tryz.func64,Tryz.ntmps64);(go_wp2_with fail);refine HIN.out.mono ?_;rintro e wn ⟨rfl,hwn⟩;subst hwn;go_wp2;go_loopg [5,6,7] n (fun g v d i wr=>∃(k:Nat) (D:Bool) (O:List (List UInt8)),i=.int .i64 k∧d=.bool D∧k+g=n∧Hid (InsR L x k D O)∧Hid (wr.ownsRow wn.heap.size 9 1 v O.length (textCells O))∧Hid (Below wn.heap.size wn wr))
  case atStart=>exact⟨0,false,[],rfl,rfl,by omega,Hd (ins_start L x),Hd (own_start _),Hd (box_below _ _)⟩
  case round =>
   obtain⟨W1,rfl⟩:∃W1,W1=wr:=⟨_,rfl⟩;obtain⟨k,D,O,rfl,rfl,hkg,HR,HO,HB⟩:=hrel;have hol:=HR.out.2;(have hD1:(bif D then 1 else 0)≤1:=by cases D<;>decide);have hzB:=HB.out.size;by_cases hk:k<n
   ·(obtain⟨gg,rfl⟩:∃gg,gk=gg+1:=⟨gk-1,by omega⟩);(have hkL:k<L.length:=by rw [HL.out];exact hk);(obtain⟨g,o,ha,hgw,hcells⟩:=HV.out.cells (by omega));subst ha;have hgW:g<W1.heap.size:=Nat.lt_of_lt_of_le hgw HB.out.size;(have HC:=Hd (fun W (hb:Below wn.heap.size wn W)=>kpB hb hgw (hcells k hkL)));have c0:=HC.out W1 HB.out;(have k0:(0:Int)≤(k:Int):=by omega);(have k1:(k:Int)<(n:Int):=by omega);clear hcells;cases D with
    | true =>
      have HR2:=Hd (ins_next HR.out hkL);clear HR;generalize L[k]=y at c0 HC HR2;have HOL:=Hd (textCells_append O [y]);(go_wp2_with (at_builtin;go_must (refine wpList_append_own _ rfl (.tmp 33) (.tmp 38) 22 rfl wn.heap.size 9 i0 (.string ⟨#[]⟩) 1 16 Tryz.underlying22 hi hz0 hz1 hz2 rfl (by decide) _ _ _ rfl ((HO.out).alloc _) ⟨W1.heap.size,0,none⟩ 1 1 [.string (bs y)] rfl rfl (fun j u hu=>by (cases j with|zero=>(simp at hu;subst hu;simp [go_sem])|succ j=>simp at hu)) (by intro u hu;simp at hu;subst hu;rfl) (by unfold maxLen;omega) (by omega) (by simp;omega) ?_;intro v3 w3 hownw3 hgroww3 hnilw3;clear hnilw3;have HOw3:=Hd hownw3;clear hownw3;have HGw3:=Hd hgroww3;clear hgroww3)));(have HBw3:=Hd ((HB.out.alloc (by have:=HB.out.size;omega) _).grown HGw3.out (by have:=HB.out.size;simp;omega) (fun k hk=>(HO.out.lt k hk).1)));go_roundg gg
      case measure=>omega
      case rel=>exact⟨k+1,true,O++[y],by go_num,rfl,by omega,HR2,Hd (by rw [HOL.out,List.length_append];exact HOw3.out),HBw3⟩
    | false =>
      (have HPUT:=Hd (fun h=>ins_put HR.out hkL h));(have HKEEP:=Hd (fun h=>ins_keep HR.out hkL h));clear HR;generalize L[k]=y at c0 HC HPUT HKEEP;obtain⟨b,hb⟩:∃b,Op.bytesLess x y=b:=⟨_,rfl⟩;(have glt:Op.bytesLess (bs x).toList (bs y).toList=b:=by rw [bs_toList,bs_toList];exact hb);rw [hb] at HPUT HKEEP;clear hb;cases b with
      | true =>
        have HR2:=Hd (HPUT.out rfl);clear HPUT HKEEP;have HOL:=Hd (textCells_two O x y);(go_wp2_with (first|(at_builtin;(refine wpList_append_own _ rfl (.tmp 29) (.tmp 31) 22 rfl wn.heap.size 9 i0 (.string ⟨#[]⟩) 1 16 Tryz.underlying22 hi hz0 hz1 hz2 rfl (by decide) _ _ _ rfl ((HO.out).alloc _) ⟨W1.heap.size,0,none⟩ 1 1 [.string (bs x)] rfl rfl (fun j u hu=>by (cases j with|zero=>(simp at hu;subst hu;simp [go_sem])|succ j=>simp at hu)) (by intro u hu;simp at hu;subst hu;rfl) (by unfold maxLen;omega) (by omega) (by simp;omega) ?_;intro v3 w3 hownw3 hgroww3 hnilw3;clear hnilw3;have HOw3:=Hd hownw3;clear hownw3;have HGw3:=Hd hgroww3;clear hgroww3;have HBw3:=Hd ((HB.out.alloc (by have:=HB.out.size;omega) _).grown HGw3.out (by have:=HB.out.size;simp;omega) (fun k hk=>(HO.out.lt k hk).1));have hz3:=HBw3.out.size;have d0:=HC.out w3 HBw3.out;have hgW3:g<w3.heap.size:=Nat.lt_of_lt_of_le hgw HBw3.out.size))|(at_builtin;go_must (refine wpList_append_own _ rfl (.tmp 33) (.tmp 38) 22 rfl wn.heap.size 9 i0 (.string ⟨#[]⟩) 1 16 Tryz.underlying22 hi hz0 hz1 hz2 rfl (by decide) _ _ _ rfl ((HOw3.out).alloc _) ⟨w3.heap.size,0,none⟩ 1 1 [.string (bs y)] rfl rfl (fun j u hu=>by (cases j with|zero=>(simp at hu;subst hu;simp [go_sem])|succ j=>simp at hu)) (by intro u hu;simp at hu;subst hu;rfl) (by unfold maxLen;omega) (by omega) (by simp;omega) ?_;intro v4 w4 hownw4 hgroww4 hnilw4;clear hnilw4;have HOw4:=Hd hownw4;clear hownw4;have HGw4:=Hd hgroww4;clear hgroww4))));(have HBw4:=Hd ((HBw3.out.alloc (by have:=HBw3.out.size;omega) _).grown HGw4.out (by have:=HBw3.out.size;simp;omega) (fun k hk=>(HOw3.out.lt k hk).1)));go_roundg gg
        case measure=>omega
        case rel=>exact⟨k+1,true,O++[x]++[y],by go_num,rfl,by omega,HR2,Hd (by rw [HOL.out,List.length_append,List.length_append];exact HOw4.out),HBw4⟩
      | false =>
        have HR2:=Hd (HKEEP.out rfl);clear HPUT HKEEP;have HOL:=Hd (textCells_append O [y]);(go_wp2_with (at_builtin;go_must (refine wpList_append_own _ rfl (.tmp 33) (.tmp 38) 22 rfl wn.heap.size 9 i0 (.string ⟨#[]⟩) 1 16 Tryz.underlying22 hi hz0 hz1 hz2 rfl (by decide) _ _ _ rfl ((HO.out).alloc _) ⟨W1.heap.size,0,none⟩ 1 1 [.string (bs y)] rfl rfl (fun j u hu=>by (cases j with|zero=>(simp at hu;subst hu;simp [go_sem])|succ j=>simp at hu)) (by intro u hu;simp at hu;subst hu;rfl) (by unfold maxLen;omega) (by omega) (by simp;omega) ?_;intro v3 w3 hownw3 hgroww3 hnilw3;clear hnilw3;have HOw3:=Hd hownw3;clear hownw3;have HGw3:=Hd hgroww3;clear hgroww3)));(have HBw3:=Hd ((HB.out.alloc (by have:=HB.out.size;omega) _).grown HGw3.out (by have:=HB.out.size;simp;omega) (fun k hk=>(HO.out.lt k hk).1)));go_roundg gg
        case measure=>omega
        case rel=>exact⟨k+1,false,O++[y],by go_num,rfl,by omega,HR2,Hd (by rw [HOL.out,List.length_append];exact HOw3.out),HBw3⟩
   ·(have k1:¬(k:Int)<(n:Int):=by omega);cases D with
    | true =>
      (have HE:=Hd (ins_end_yes HR.out (by rw [HL.out];omega)));go_wp2;obtain⟨a',c',hv',ht'⟩:=txtA_own HO.out;subst hv';refine bodyPost_ret (v:=.slice a' O.length c') (by simp [results,Tryz.results64,go_sem]) rfl ⟨a',c',by rw [HM.out,←HE.out],by rw [HM.out,←HE.out];exact ht',HB.out⟩
    | false =>
      (have HE:=Hd (ins_end_no HR.out (by rw [HL.out];omega)));have HOL:=Hd (textCells_append O [x]);(go_wp2_with (at_builtin;go_must (refine wpList_append_own _ rfl (.tmp 42) (.tmp 44) 22 rfl wn.heap.size 9 i0 (.string ⟨#[]⟩) 1 16 Tryz.underlying22 hi hz0 hz1 hz2 rfl (by decide) _ _ _ rfl ((HO.out).alloc _) ⟨W1.heap.size,0,none⟩ 1 1 [.string (bs x)] rfl rfl (fun j u hu=>by (cases j with|zero=>(simp at hu;subst hu;simp [go_sem])|succ j=>simp at hu)) (by intro u hu;simp at hu;subst hu;rfl) (by unfold maxLen;omega) (by omega) (by simp;omega) ?_;intro v3 w3 hownw3 hgroww3 hnilw3;clear hnilw3;have HOw3:=Hd hownw3;clear hownw3;have HGw3:=Hd hgroww3;clear hgroww3)));(have HBw3:=Hd ((HB.out.alloc (by have:=HB.out.size;omega) _).grown HGw3.out (by have:=HB.out.size;simp;omega) (fun k hk=>(HO.out.lt k hk).1)));(have HOw5:=Hd (show w3.ownsRow wn.heap.size 9 1 v3 (O++[x]).length (textCells (O++[x])) by rw [HOL.out,List.length_append];exact HOw3.out));obtain⟨a',c',hv',ht'⟩:=txtA_own HOw5.out;subst hv';refine bodyPost_ret (v:=.slice a' (O++[x]).length c') (by simp [results,Tryz.results64,go_sem]) rfl ⟨a',c',by rw [HM.out,←HE.out],by rw [HM.out,←HE.out];exact ht',HBw3.out⟩
end
section
open Go.RowKit
theorem unionO_snoc (L M:List (List UInt8)) (x:List UInt8):unionO L (M++[x])=moreO (unionO L M) x:=by
  induction M generalizing L with
  | nil=>rfl
  | cons y r ih=>rw [List.cons_append,unionO,ih,unionO]
theorem unionO_next {L M:List (List UInt8)} {k:Nat} (hk:k<M.length):unionO L (M.take (k+1))=moreO (unionO L (M.take k)) M[k]:=by rw [List.take_succ_eq_append_getElem hk,unionO_snoc]
theorem unionO_take (L M:List (List UInt8)) (k:Nat):(unionO L (M.take k)).length≤L.length+M.length:=by
  have h1:=unionO_length L (M.take k)
  have h2:(M.take k).length≤M.length:=by rw [List.length_take];omega
  omega
theorem runion_calls (L M:List (List UInt8)) (a b:Option Addr) (n c m d:Nat) (w:World) (hv:TxtA w a n c L) (hu:TxtA w b m d M) (hl:n+m≤4294967296):Calls Tryz.prog 67 #[.slice a n c,.slice b m d] w (NamesT w (unionO L M)):=by
 have HV:=Hd hv;have HU:=Hd hu;have HL:=Hd hv.len;have HM:=Hd hu.len;have hcp:=hu.cap;have hms:=hu.most;(unfold maxLen at hms);clear hv hu;(go_enter Tryz.func67,Tryz.ntmps67);go_wp2;go_loopg [0,5] m (fun g v i wr=>∃(k:Nat) (a':Option Addr) (n' c':Nat),i=.int .i64 k∧v=.slice a' n' c'∧k+g=m∧n'≤4294967296∧Hid (TxtA wr a' n' c' (unionO L (M.take k)))∧Hid (Below w.heap.size w wr))
 case atStart=>exact⟨0,a,n,c,rfl,rfl,by omega,by omega,Hd (by rw [List.take_zero];exact HV.out),Hd (Below.refl _ _)⟩
 case round =>
  obtain⟨W1,rfl⟩:∃W1,W1=wr:=⟨_,rfl⟩;obtain⟨k,a',n',c',rfl,rfl,hkg,hn',HT,HB⟩:=hrel;by_cases hk:k<m
  ·(obtain⟨gg,rfl⟩:∃gg,gk=gg+1:=⟨gk-1,by omega⟩);(have hkL:k<M.length:=by rw [HM.out];exact hk);(obtain⟨g,o,ha,hgw,hcells⟩:=HU.out.cells (by omega));subst ha;have hgW:g<W1.heap.size:=Nat.lt_of_lt_of_le hgw HB.out.size;have c0:=kpB HB.out hgw (hcells k hkL);have HNX:=Hd (unionO_next (L:=L) hkL);have HLN:=Hd (unionO_take L M (k+1));clear hcells;generalize M[k]=y at c0 HNX;have HMR:=Hd (rmore_calls _ y a' n' c' W1 HT.out hn');rw [←HNX.out] at HMR;(have k0:(0:Int)≤(k:Int):=by omega);(have k1:(k:Int)<(m:Int):=by omega);(have HSZ:=Hd (show (unionO L (M.take (k+1))).length≤4294967296 by have h1:=HLN.out;have h2:=HL.out;have h3:=HM.out;omega));(go_wp2_with fail);refine HMR.out.mono ?_;rintro e w2 ⟨a2,c2,rfl,ht2,hb2⟩;have HT2:=Hd ht2;have HB2:=Hd (HB.out.trans (hb2.mono HB.out.size));clear ht2 hb2;obtain⟨n2,hn2⟩:∃n2,(unionO L (M.take (k+1))).length=n2:=⟨_,rfl⟩;rw [hn2] at HT2 HSZ ⊢;clear hn2;go_wp2;go_roundg gg
   case measure=>omega
   case rel=>exact⟨k+1,a2,n2,c2,by go_num,rfl,by omega,HSZ.out,HT2,HB2⟩
  ·(have hkm:k=m:=by omega);(have k1:¬(k:Int)<(m:Int):=by omega);(have HE:=Hd (show M.take k=M from List.take_of_length_le (by rw [HM.out];omega)));rw [HE.out] at HT;have HLE:=Hd HT.out.len;clear hkm;go_wp2;refine bodyPost_ret (v:=.slice a' n' c') (by simp [results,Tryz.results67,go_sem]) rfl ⟨a',c',by rw [HLE.out],by rw [HLE.out];exact HT.out,HB.out⟩
theorem meetO_next_yes {L M:List (List UInt8)} {k:Nat} (hk:k<L.length) (h:L[k]∈M):meetO (L.take (k+1)) M=meetO (L.take k) M++[L[k]]:=by
  unfold meetO
  rw [List.take_succ_eq_append_getElem hk,List.filter_append]
  simp [h]
theorem meetO_next_no {L M:List (List UInt8)} {k:Nat} (hk:k<L.length) (h:¬L[k]∈M):meetO (L.take (k+1)) M=meetO (L.take k) M:=by
  unfold meetO
  rw [List.take_succ_eq_append_getElem hk,List.filter_append]
  simp [h]
theorem meetO_take (L M:List (List UInt8)) (k:Nat):(meetO (L.take k) M).length≤L.length:=by
  have h1:=meetO_length (L.take k) M
  rw [List.length_take] at h1
  omega
theorem rmeet_calls (L M:List (List UInt8)) (a b:Option Addr) (n c m d:Nat) (wn:World) (hv:TxtA wn a n c L) (hu:TxtA wn b m d M) (hl:n≤4294967296):Calls Tryz.prog 66 #[.slice a n c,.slice b m d] wn (NamesT wn (meetO L M)):=by
 obtain⟨i0,hi,hz0,hz1,hz2⟩:=info_parts info_string;have HV:=Hd hv;have HU:=Hd hu;have HL:=Hd hv.len;have hcp:=hv.cap;have hms:=hv.most;(unfold maxLen at hms);clear hv hu;(go_enter Tryz.func66,Tryz.ntmps66);go_wp2;go_loopg [5,6] n (fun g v i wr=>∃(k:Nat) (O:List (List UInt8)),i=.int .i64 k∧k+g=n∧O.length≤n∧Hid (meetO (L.take k) M=O)∧Hid (wr.ownsRow wn.heap.size 9 1 v O.length (textCells O))∧Hid (Below wn.heap.size wn wr))
 case atStart=>exact⟨0,[],rfl,by omega,Nat.zero_le _,Hd rfl,Hd (own_start _),Hd (box_below _ _)⟩
 case round =>
  obtain⟨W1,rfl⟩:∃W1,W1=wr:=⟨_,rfl⟩;obtain⟨k,O,rfl,hkg,hol,HR,HO,HB⟩:=hrel;have hzB:=HB.out.size;by_cases hk:k<n
  ·(obtain⟨gg,rfl⟩:∃gg,gk=gg+1:=⟨gk-1,by omega⟩);(have hkL:k<L.length:=by rw [HL.out];exact hk);(obtain⟨g,o,ha,hgw,hcells⟩:=HV.out.cells (by omega));subst ha;have hgW:g<W1.heap.size:=Nat.lt_of_lt_of_le hgw HB.out.size;have c0:=kpB HB.out hgw (hcells k hkL);(have k0:(0:Int)≤(k:Int):=by omega);(have k1:(k:Int)<(n:Int):=by omega);(have HYES:=Hd (fun h=>meetO_next_yes (M:=M) hkL h));(have HNO:=Hd (fun h=>meetO_next_no (M:=M) hkL h));have HTL:=Hd (meetO_take L M (k+1));clear hcells;generalize L[k]=y at c0 HYES HNO;have HIN:=Hd (InA_calls M y b m d W1 (HU.out.on HB.out));rw [HR.out] at HYES HNO;by_cases hin:y∈M
   ·rw [decide_eq_true hin] at HIN;have HR2:=Hd (HYES.out hin);(have hol2:O.length+1≤n:=by have h1:=HTL.out;rw [HR2.out,List.length_append,HL.out] at h1;simpa using h1);clear HYES HNO hin;have HOL:=Hd (textCells_append O [y]);(go_wp2_with fail);refine HIN.out.mono ?_;rintro e w2 ⟨rfl,hw2⟩;subst hw2;(go_wp2_with (at_builtin;go_must (refine wpList_append_own _ rfl (.tmp 20) (.tmp 25) 22 rfl wn.heap.size 9 i0 (.string ⟨#[]⟩) 1 16 Tryz.underlying22 hi hz0 hz1 hz2 rfl (by decide) _ _ _ rfl ((HO.out).alloc _) ⟨w2.heap.size,0,none⟩ 1 1 [.string (bs y)] rfl rfl (fun j u hu=>by (cases j with|zero=>(simp at hu;subst hu;simp [go_sem])|succ j=>simp at hu)) (by intro u hu;simp at hu;subst hu;rfl) (by unfold maxLen;omega) (by omega) (by simp;omega) ?_;intro v3 w3 hownw3 hgroww3 hnilw3;clear hnilw3;have HOw3:=Hd hownw3;clear hownw3;have HGw3:=Hd hgroww3;clear hgroww3)));(have HBw3:=Hd ((HB.out.alloc (by have:=HB.out.size;omega) _).grown HGw3.out (by have:=HB.out.size;simp;omega) (fun k hk=>(HO.out.lt k hk).1)));go_roundg gg
    case measure=>omega
    case rel=>exact⟨k+1,O++[y],by go_num,by omega,by rw [List.length_append];exact hol2,HR2,Hd (by rw [HOL.out,List.length_append];exact HOw3.out),HBw3⟩
   ·rw [decide_eq_false hin] at HIN;have HR2:=Hd (HNO.out hin);clear HYES HNO hin;(go_wp2_with fail);refine HIN.out.mono ?_;rintro e w2 ⟨rfl,hw2⟩;subst hw2;go_wp2;go_roundg gg
    case measure=>omega
    case rel=>exact⟨k+1,O,by go_num,by omega,hol,HR2,HO,HB⟩
  ·(have k1:¬(k:Int)<(n:Int):=by omega);(have HE:=Hd (show meetO L M=O by rw [←HR.out,List.take_of_length_le (by rw [HL.out];omega)]));go_wp2;obtain⟨a',c',hv',ht'⟩:=txtA_own HO.out;subst hv';refine bodyPost_ret (v:=.slice a' O.length c') (by simp [results,Tryz.results66,go_sem]) rfl ⟨a',c',by rw [HE.out],by rw [HE.out];exact ht',HB.out⟩
end
section
open Go.RowKit
theorem tableB_rows {V:List (List UInt8)} {R:List (List TermL)} (h:rowsB V.length R=false):tableB V R=false:=by unfold tableB;rw [h];simp
theorem tableB_yes {V:List (List UInt8)} {R:List (List TermL)} (h1:V.length≤32) (h2:R.length≤64) (h3:namesB [] V=true) (h4:rowsB V.length R=true):tableB V R=true:=by unfold tableB;rw [h3,h4,decide_eq_true h1,decide_eq_true h2];rfl
theorem rRightTable_calls (V:List (List UInt8)) (R:List (List TermL)) (hx:∀x∈V,(bs x).size≤maxLen) (hr:∀r∈R,∀t∈r,t.ok) (va ra:Option Addr) (n vc m rc:Nat) (w:World) (hV:TxtA w va n vc V) (hR:RowA w ra m rc R):Calls Tryz.prog 139 #[.agg #[.slice va n vc,.slice ra m rc]] w fun e w'=>e=.returned (.bool (tableB V R))∧Below w.heap.size w w':=by
 have HV:=Hd hV;have HR:=Hd hR;have HX:=Hd hx;have HOK:=Hd hr;have HVL:=Hd hV.len;have HRL:=Hd hR.len;have hvc:=hV.cap;have hvm:=hV.most;have hrc:=hR.cap;have hrm:=hR.most;(unfold maxLen at hvm hrm);clear hV hR hx hr;(have HT0:=Hd (fun T=>TabIn.new w (.slice va n vc) (.slice ra m rc) T));by_cases h32:32<n
 ·(have HE:=Hd (tableB_long (V:=V) (R:=R) (.inl (by rw [HVL.out];exact h32))));(have g1:(32:Int)<(n:Int):=by omega);(go_enter Tryz.func139,Tryz.ntmps139);go_wp2;go_ret;exact⟨by rw [HE.out];rfl,box_below _ _⟩
 by_cases h64:64<m
 ·(have HE:=Hd (tableB_long (V:=V) (R:=R) (.inr (by rw [HRL.out];exact h64))));(have g1:¬(32:Int)<(n:Int):=by omega);(have g2:(64:Int)<(m:Int):=by omega);(go_enter Tryz.func139,Tryz.ntmps139);go_wp2;go_ret;exact⟨by rw [HE.out];rfl,box_below _ _⟩
 (have g1:¬(32:Int)<(n:Int):=by omega);(have g2:¬(64:Int)<(m:Int):=by omega);(go_enter Tryz.func139,Tryz.ntmps139);go_wp2;go_loopg [3] n (fun g i wr=>∃k:Nat,i=.int .i64 k∧k+g=n∧Hid (NamesR V k)∧Hid (TabIn w (.slice va n vc) (.slice ra m rc) wr))
 case atStart=>exact⟨0,rfl,by omega,Hd (names_start V),Hd (HT0.out _)⟩
 case round =>
  obtain⟨W1,rfl⟩:∃W1,W1=wr:=⟨_,rfl⟩;obtain⟨k,rfl,hkg,HN,HT⟩:=hrel;obtain⟨t0,t1,hbW,hXW⟩:=HT.out;have HBW:=Hd hbW;clear hbW;by_cases hk:k<n
  ·(obtain⟨gg,rfl⟩:∃gg,gk=gg+1:=⟨gk-1,by omega⟩);(have hkL:k<V.length:=by rw [HVL.out];exact hk);(obtain⟨g,o,ha,hgw,hcells⟩:=HV.out.cells (by omega));subst ha;have hgW:g<W1.heap.size:=Nat.lt_of_lt_of_le hgw HBW.out.size;have c0:=kpB HBW.out hgw (hcells k hkL);(have HNX:=Hd (fun h1 h2=>names_next HN.out hkL h1 h2));(have HST:=Hd (fun h1=>names_stop HN.out hkL h1));(have HNM:=Hd (fun W=>rIsName_calls (bs V[k]) W (HX.out _ (List.getElem_mem hkL))));(have HIN:=Hd (fun nn=>InA_calls (V.take k) V[k] (some ⟨g,o,none⟩) k vc (W1.drewN nn) ((HV.out.cut (Nat.le_of_lt hk)).on (HT.out.drew nn).2.2.1)));(simp only [bs_data] at HNM);clear hcells;generalize V[k]=y at c0 HNX HST HNM HIN;(have hb1:nameL y=true∨nameL y=false:=by cases nameL y<;>simp);(have hk0:(0:Int)≤(k:Int):=by omega);(have hkn:(k:Int)<(n:Int):=by omega);rcases hb1 with hb1|hb1
   ·rw [hb1] at HNM;by_cases hin:y∈V.take k
    ·rw [decide_eq_true hin] at HIN;(have HE:=Hd (tableB_names (R:=R) (HST.out (fun c=>c.2 hin))));clear HNX HST hin hb1;go_wp2;(go_quiet (first|(go_at_call 56;exact Calls.quiet_of_same (HNM.out _))|(go_at_call 55;exact Calls.quiet_of_same (HIN.out _))));go_wp2;go_ret;exact⟨by rw [HE.out];rfl,(HT.out.drew _).2.2.1⟩
    ·rw [decide_eq_false hin] at HIN;have HN2:=Hd (HNX.out hb1 hin);clear HNX HST hin hb1;go_wp2;(go_quiet (first|(go_at_call 56;exact Calls.quiet_of_same (HNM.out _))|(go_at_call 55;exact Calls.quiet_of_same (HIN.out _))));go_wp2;go_roundg gg
     case measure=>omega
     case rel=>exact⟨k+1,by go_num,by omega,HN2,Hd (HT.out.drew _)⟩
   ·rw [hb1] at HNM;(have HE:=Hd (tableB_names (R:=R) (HST.out (fun c=>by rw [hb1] at c;exact absurd c.1 (by simp)))));clear HNX HST hb1;go_wp2;(go_quiet (first|(go_at_call 56;exact Calls.quiet_of_same (HNM.out _))|(go_at_call 55;exact Calls.quiet_of_same (HIN.out _))));go_wp2;go_ret;exact⟨by rw [HE.out];rfl,(HT.out.drew _).2.2.1⟩
  ·(have HNA:=Hd (names_end HN.out (by rw [HVL.out];omega)));(have k1:¬(k:Int)<(n:Int):=by omega);go_wp2;clear t0 t1 hXW HBW HN;go_loopg [4] m (fun g i wr=>∃k:Nat,i=.int .i64 k∧k+g=m∧Hid (AllR (rowZ n) R k)∧Hid (TabIn w (.slice va n vc) (.slice ra m rc) wr))
   case atStart=>exact⟨0,rfl,by omega,Hd (all_start _ R),HT⟩
   case round =>
    obtain⟨W2,rfl⟩:∃W2,W2=wr:=⟨_,rfl⟩;obtain⟨j,rfl,hjg,HA,HT2⟩:=hrel;obtain⟨t0,t1,hbW,hXW⟩:=HT2.out;have HBW:=Hd hbW;clear hbW;by_cases hj:j<m
    ·(obtain⟨gg,rfl⟩:∃gg,gk=gg+1:=⟨gk-1,by omega⟩);(have hjL:j<R.length:=by rw [HRL.out];exact hj);(obtain⟨g,o,ha,hgw,hcells⟩:=HR.out.cells (by omega));subst ha;have hgW:g<W2.heap.size:=Nat.lt_of_lt_of_le hgw HBW.out.size;obtain⟨a',c',hcell,htrm⟩:=hcells j hjL;have c0:=kpB HBW.out hgw hcell;have HRD:=Hd htrm;have HRC:=Hd hcell;(have HNX:=Hd (fun h1=>all_next HA.out hjL h1));(have HST:=Hd (fun h1=>all_stop HA.out hjL h1));have HO2:=Hd (HOK.out _ (List.getElem_mem hjL));clear hcells htrm hcell;generalize R[j]=row at c0 HNX HST HRD HO2 HRC;(have hj0:(0:Int)≤(j:Int):=by omega);(have hjm:(j:Int)<(m:Int):=by omega);have hcc:=HRD.out.most;have hcl:=HRD.out.cap;(unfold maxLen at hcc);obtain⟨q,hq⟩:∃q,row.length=q:=⟨_,rfl⟩;rw [hq] at c0 hcl HRC;have HQ:=Hd hq;clear hq;by_cases hqn:q=n
     ·subst hqn;have hne:((q:Int) !=(q:Int))=false:=bne_self_eq_false _;go_wp2;(go_quiet (fail));go_wp2;clear t0 t1 hXW c0 hgW;go_loopg [5] q (fun gh i wr=>∃k:Nat,i=.int .i64 k∧k+gh=q∧Hid (AllR valueZ row k)∧Hid (TabIn w (.slice va q vc) (.slice (some ⟨g,o,none⟩) m rc) wr))
      case atStart=>exact⟨0,rfl,by omega,Hd (all_start _ row),Hd (HT2.out.drew _)⟩
      case round =>
       obtain⟨W3,rfl⟩:∃W3,W3=wr:=⟨_,rfl⟩;obtain⟨l,rfl,hlg,HA3,HT3⟩:=hrel;obtain⟨t0,t1,hbW,hXW⟩:=HT3.out;have HBW3:=Hd hbW;clear hbW;have hgW:g<W3.heap.size:=Nat.lt_of_lt_of_le hgw HBW3.out.size;have c0:=kpB HBW3.out hgw HRC.out;by_cases hl:l<q
       ·(obtain⟨hh,rfl⟩:∃hh,gk=hh+1:=⟨gk-1,by omega⟩);(have hlL:l<row.length:=by rw [HQ.out];exact hl);(obtain⟨g',o',ha',hgw',hcells'⟩:=HRD.out.cells (by omega));subst ha';have hgW':g'<W3.heap.size:=Nat.lt_of_lt_of_le hgw' HBW3.out.size;obtain⟨d0,d1,d2,d3⟩:=(hcells' l hlL).on HBW3.out hgw';(have HNX3:=Hd (fun h1=>all_next HA3.out hlL h1));(have HST3:=Hd (fun h1=>all_stop HA3.out hlL h1));(have HVA:=Hd (fun W=>rvalue_calls row[l] (HO2.out _ (List.getElem_mem hlL)) W));clear hcells';generalize row[l]=t at d0 d1 d2 d3 HNX3 HST3 HVA;(have hbb:valueZ t=true∨valueZ t=false:=by cases valueZ t<;>simp);generalize valueZ t=b at hbb HVA HNX3 HST3;obtain⟨tk,tx,ty,tz⟩:=t;(simp only [TermL.v] at HVA);dsimp only at d0 d1 d2 d3;rcases hbb with rfl|rfl
        ·have HA4:=Hd (HNX3.out rfl);clear HNX3 HST3;(go_wp2_with fail);refine (HVA.out _).mono ?_;rintro e w2 ⟨rfl,hb2⟩;have HT4:=Hd (HT3.out.on hb2);clear hb2;go_wp2;go_roundg hh
         case measure=>omega
         case rel=>exact⟨l+1,by go_num,by omega,HA4,HT4⟩
        ·(have HE:=Hd (tableB_rows (V:=V) (R:=R) (by rw [HVL.out,rowsB_eq];exact HST.out (by unfold rowZ;rw [HST3.out rfl];simp))));clear HNX3 HST3;(go_wp2_with fail);refine (HVA.out _).mono ?_;rintro e w2 ⟨rfl,hb2⟩;have HT4:=Hd (HT3.out.on hb2);clear hb2;go_wp2;go_ret;exact⟨by rw [HE.out];rfl,HT4.out.2.2.1⟩
       ·(have HRZ:=Hd (HNX.out (by unfold rowZ;rw [all_end HA3.out (by rw [HQ.out];omega),HQ.out,decide_eq_true rfl];rfl)));(have k1:¬(l:Int)<(q:Int):=by omega);clear HNX HST;go_wp2;go_roundg gg
        case measure=>omega
        case rel=>exact⟨j+1,by go_num,by omega,HRZ,HT3⟩
     ·(have hne:((q:Int) !=(n:Int))=true:=bne_iff_ne.2 (by omega));(have HE:=Hd (tableB_rows (V:=V) (R:=R) (by rw [HVL.out,rowsB_eq];exact HST.out (by unfold rowZ;rw [HQ.out,decide_eq_false hqn];rfl))));go_wp2;(go_quiet (fail));go_wp2;go_ret;exact⟨by rw [HE.out];rfl,(HT2.out.drew _).2.2.1⟩
    ·(have HRA:=Hd (all_end HA.out (by rw [HRL.out];omega)));(have k1:¬(j:Int)<(m:Int):=by omega);(have HE:=Hd (tableB_yes (V:=V) (R:=R) (by rw [HVL.out];omega) (by rw [HRL.out];omega) HNA.out (by rw [HVL.out,rowsB_eq];exact HRA.out)));go_wp2;go_ret;exact⟨by rw [HE.out];rfl,HBW.out⟩
end
section
open Go.RowKit
theorem rONeeds_calls (o:OpL) (A:OpS) (w:World):Calls Tryz.prog 62 #[o.v A] w fun e w'=>e=.returned (.int .i64 (needO o.k))∧Below w.heap.size w w':=by
 obtain⟨k,T,V,R,F,m,s⟩:=o;obtain⟨ta,tn,tc,va,vn,vc,ra,rn,rc,fa,fn,fc⟩:=A;(simp only [OpL.v]);rcases op_kinds k with h|h|h|h|h|h|h|h|h|h
 ·have HO:=Hd (needO_other h);(have H:=Hd (fun j h1 h2=>not_op h j h1 h2));(have n1:=H.out 1 (by decide) (by decide));(have n2:=H.out 2 (by decide) (by decide));(have n3:=H.out 3 (by decide) (by decide));(have n4:=H.out 4 (by decide) (by decide));(have n5:=H.out 5 (by decide) (by decide));(have n6:=H.out 6 (by decide) (by decide));(have n7:=H.out 7 (by decide) (by decide));(have n8:=H.out 8 (by decide) (by decide));(have n9:=H.out 9 (by decide) (by decide));clear h;(go_enter Tryz.func62,Tryz.ntmps62);go_wp2;go_ret;exact⟨by rw [HO.out];rfl,box_below _ _⟩
 all_goals
  subst h;(go_enter Tryz.func62,Tryz.ntmps62);go_wp2;go_ret;exact⟨by rfl,box_below _ _⟩
end
section
open Go.RowKit
theorem rNeeds_calls (p:PartL) (w:World):Calls Tryz.prog 195 #[p.v] w fun e w'=>e=.returned (.int .i64 (refNeed p))∧Below w.heap.size w w':=by
 obtain⟨k,⟨tk,tx,ty,tz⟩,m,c⟩:=p;(simp only [PartL.v]);by_cases h26:k=26
 ·subst h26;(have HN:=Hd (show refNeed ⟨26,⟨tk,tx,ty,tz⟩,m,c⟩=coalN c by unfold refNeed;rfl));by_cases h1:1≤c
  ·by_cases h2:c≤16
   ·(have HC:=Hd (show coalN c=c by unfold coalN;rw [if_pos ⟨h1,h2⟩]));(go_enter Tryz.func195,Tryz.ntmps195);go_wp2;go_ret;exact⟨by rw [HN.out,HC.out];rfl,box_below _ _⟩
   ·(have HC:=Hd (show coalN c = -1 by unfold coalN;rw [if_neg (by omega)]));(go_enter Tryz.func195,Tryz.ntmps195);go_wp2;go_ret;exact⟨by rw [HN.out,HC.out];rfl,box_below _ _⟩
  ·(have HC:=Hd (show coalN c = -1 by unfold coalN;rw [if_neg (by omega)]));(go_enter Tryz.func195,Tryz.ntmps195);go_wp2;go_ret;exact⟨by rw [HN.out,HC.out];rfl,box_below _ _⟩
 ·(have HN:=Hd (show refNeed ⟨k,⟨tk,tx,ty,tz⟩,m,c⟩=needK k by unfold refNeed;rw [if_neg h26]));rcases kind_cases k with h|h|h|h|h|h|h|h|h|h|h|h|h|h|h|h|h|h|h|h|h|h|h|h|h|h|h
  ·have HO:=Hd (need_other h);(have H:=Hd (fun j h1 h2=>not_kind h j h1 h2));(have n1:=H.out 1 (by decide) (by decide));(have n2:=H.out 2 (by decide) (by decide));(have n3:=H.out 3 (by decide) (by decide));(have n4:=H.out 4 (by decide) (by decide));(have n5:=H.out 5 (by decide) (by decide));(have n6:=H.out 6 (by decide) (by decide));(have n7:=H.out 7 (by decide) (by decide));(have n8:=H.out 8 (by decide) (by decide));(have n9:=H.out 9 (by decide) (by decide));(have n10:=H.out 10 (by decide) (by decide));(have n11:=H.out 11 (by decide) (by decide));(have n12:=H.out 12 (by decide) (by decide));(have n13:=H.out 13 (by decide) (by decide));(have n14:=H.out 14 (by decide) (by decide));(have n15:=H.out 15 (by decide) (by decide));(have n16:=H.out 16 (by decide) (by decide));(have n17:=H.out 17 (by decide) (by decide));(have n18:=H.out 18 (by decide) (by decide));(have n19:=H.out 19 (by decide) (by decide));(have n20:=H.out 20 (by decide) (by decide));(have n21:=H.out 21 (by decide) (by decide));(have n22:=H.out 22 (by decide) (by decide));(have n23:=H.out 23 (by decide) (by decide));(have n24:=H.out 24 (by decide) (by decide));(have n25:=H.out 25 (by decide) (by decide));(have n26:=H.out 26 (by decide) (by decide));clear h;(go_enter Tryz.func195,Tryz.ntmps195);go_wp2;go_ret;exact⟨by rw [HN.out,HO.out];rfl,box_below _ _⟩
  ·exact absurd h h26
  all_goals
   subst h;(go_enter Tryz.func195,Tryz.ntmps195);go_wp2;go_ret;exact⟨by rw [HN.out];rfl,box_below _ _⟩
end
section
open Go.RowKit
theorem rFRight_calls (p:PartL) (hp:p.ok) (w:World):Calls Tryz.prog 194 #[p.v] w fun e w'=>e=.returned (.bool (goodM p))∧Below w.heap.size w w':=by
 (have HND:=Hd (fun W=>rNeeds_calls p W));(have HV:=Hd (fun W=>rRight_calls p.t.k (bs p.t.x) (bs p.t.y) (bs p.t.z) W hp.1.1 hp.1.2.1 hp.1.2.2));(have HN:=Hd (fun W=>rIsName_calls (bs p.m) W hp.2));have hgood:goodM p=(decide (0≤refNeed p)&&(decide (p.k=26)||decide (p.c=0))&&rightM p):=by
  (unfold goodM);congr 1;(unfold needM refNeed);by_cases h:p.k=26
  ·rw [if_pos h,if_pos h,decide_eq_true h];simp
  ·rw [if_neg h,if_neg h,decide_eq_false h];by_cases hc:p.c=0
   ·rw [if_pos hc,decide_eq_true hc];simp
   ·rw [if_neg hc,decide_eq_false hc];simp
 clear hp;obtain⟨k,⟨tk,tx,ty,tz⟩,m,c⟩:=p;(simp only [bs_data,PartL.v] at HV HN HND);(simp only [PartL.v]);have HB:=Hd (bs_toList m);obtain⟨nn,hnn⟩:∃nn,refNeed ⟨k,⟨tk,tx,ty,tz⟩,m,c⟩=nn:=⟨_,rfl⟩;rw [hnn] at HND hgood;dsimp only at hgood;clear hnn;by_cases h0:0≤nn
 ·by_cases hkc:k=26∨c=0
  ·have hg2:goodM ⟨k,⟨tk,tx,ty,tz⟩,m,c⟩=rightM ⟨k,⟨tk,tx,ty,tz⟩,m,c⟩:=by
    rw [hgood,decide_eq_true h0,Bool.true_and];rcases hkc with h|h
    ·rw [decide_eq_true h];simp
    ·rw [decide_eq_true h];simp
   (have g0:¬nn<0:=by omega);(have gd:decide (nn<0)=false:=decide_eq_false g0);have gk:k=26∨((k !=26)=true∧c=0):=by
    by_cases h:k=26
    ·exact .inl h
    ·exact .inr ⟨bne_iff_ne.2 h,by omega⟩
   clear hgood h0 hkc;by_cases h1:k=1
   ·subst h1;obtain⟨R,hR⟩:∃R,rightL tk tx ty tz=R:=⟨_,rfl⟩;(have HR:=Hd (hg2.trans (show rightM ⟨1,⟨tk,tx,ty,tz⟩,m,c⟩=((((decide (tk=1)||decide (tk=2))&&R))&&m.isEmpty) by unfold rightM;rw [←hR];rfl)));rw [hR] at HV;clear hg2 hR;rcases gk with gk|⟨gk,rfl⟩
    ·exact absurd gk (by decide)
    ·cases m with
     | cons u v =>
       (have ge:(bs (u::v)).toList.isEmpty=false:=by rw [bs_toList];rfl);(go_enter Tryz.func194,Tryz.ntmps194);(go_wp2_with fail);refine (HND.out _).mono ?_;rintro e w1 ⟨rfl,hb1⟩;obtain⟨hc,hf⟩:=bcell hb1;(have hB:=Hd ((box_below w _).trans (hb1.mono (by simp))));clear hb1;go_wp2;go_ret;exact⟨by rw [HR.out];simp,hB.out⟩
     | nil =>
       (have ge:(bs []).toList.isEmpty=true:=by rw [bs_toList];rfl);cases R with
       | false =>
         (go_enter Tryz.func194,Tryz.ntmps194);(go_wp2_with fail);refine (HND.out _).mono ?_;rintro e w1 ⟨rfl,hb1⟩;obtain⟨hc,hf⟩:=bcell hb1;have hB:=Hd hb1;clear hb1;(go_wp2_with fail);refine (HV.out _).mono ?_;rintro e w2 ⟨rfl,hb2⟩;replace hb2:=bnext hB.out hb2;clear hc hf;obtain⟨hc,hf⟩:=bcell hb2;(have hB2:=Hd ((box_below w _).trans (hb2.mono (by simp))));clear hb2;go_wp2;go_ret;exact⟨by rw [HR.out];simp,hB2.out⟩
       | true =>
         (have gt:(tk==1)=true∨((tk==1)=false∧((tk==2)=true∨(tk==2)=false)):=by cases (tk==1)<;>cases (tk==2)<;>simp);(have e1:decide (tk=1)=(tk==1):=by rw [Bool.eq_iff_iff];simp);(have e2:decide (tk=2)=(tk==2):=by rw [Bool.eq_iff_iff];simp);rw [e1,e2] at HR;clear e1 e2;rcases gt with gt|⟨gt,gt2|gt2⟩;all_goals
          (go_enter Tryz.func194,Tryz.ntmps194);(go_wp2_with fail);refine (HND.out _).mono ?_;rintro e w1 ⟨rfl,hb1⟩;obtain⟨hc,hf⟩:=bcell hb1;have hB:=Hd hb1;clear hb1;(go_wp2_with fail);refine (HV.out _).mono ?_;rintro e w2 ⟨rfl,hb2⟩;replace hb2:=bnext hB.out hb2;clear hc hf;obtain⟨hc,hf⟩:=bcell hb2;(have hB2:=Hd ((box_below w _).trans (hb2.mono (by simp))));clear hb2;go_wp2;go_ret;refine⟨?_,hB2.out⟩;rw [HR.out];simp_all
   ·have g1:(k==1)=false:=beq_eq_false_iff_ne.2 h1;(have heq:=fun W=>neql_termz ⟨tk,tx,ty,tz⟩ W);dsimp only at heq;obtain⟨N,hN⟩:∃N,nameL m=N:=⟨_,rfl⟩;obtain⟨Z,hZ⟩:∃Z,zeroT ⟨tk,tx,ty,tz⟩=Z:=⟨_,rfl⟩;rw [hN] at HN;rw [hZ] at heq;(have HR:=Hd (hg2.trans (show rightM ⟨k,⟨tk,tx,ty,tz⟩,m,c⟩=if k=2∨k=3 then N&&Z else m.isEmpty&&Z by unfold rightM;rw [if_neg h1,←hN,←hZ])));clear hN h1 HV hZ hg2;cases Z with
    | false =>
      (have HR2:=Hd (HR.out.trans (show _=false by split<;>simp)));rcases gk with rfl|⟨gk,rfl⟩;all_goals
       (go_enter Tryz.func194,Tryz.ntmps194);(go_wp2_with fail);refine (HND.out _).mono ?_;rintro e w1 ⟨rfl,hb1⟩;obtain⟨hc,hf⟩:=bcell hb1;(have hB:=Hd ((box_below w _).trans (hb1.mono (by simp))));clear hb1;go_wp2;go_ret;exact⟨by rw [HR2.out];rfl,hB.out⟩
    | true =>
      by_cases h2:k=2∨k=3
      ·(have HR2:=Hd (HR.out.trans (show _=N by rw [if_pos h2,Bool.and_true])));clear HR;rcases gk with gk|⟨gk,rfl⟩
       ·exact absurd gk (by omega)
       ·(rcases h2 with rfl|rfl);all_goals
         (go_enter Tryz.func194,Tryz.ntmps194);(go_wp2_with fail);refine (HND.out _).mono ?_;rintro e w1 ⟨rfl,hb1⟩;obtain⟨hc,hf⟩:=bcell hb1;(have hB:=Hd ((box_below w _).trans (hb1.mono (by simp))));clear hb1;(go_wp2_with fail);refine (HN.out _).mono ?_;rintro e w2 ⟨rfl,hw2⟩;obtain rfl:=hw2.symm;clear hw2;go_wp2;go_ret;exact⟨by rw [HR2.out];rfl,hB.out⟩
      ·(have HR2:=Hd (HR.out.trans (show _=m.isEmpty by rw [if_neg h2,Bool.and_true])));(have g2:(k==2)=false:=beq_eq_false_iff_ne.2 (by omega));(have g3:(k==3)=false:=beq_eq_false_iff_ne.2 (by omega));clear HR h2;rcases gk with rfl|⟨gk,rfl⟩;all_goals
        (go_enter Tryz.func194,Tryz.ntmps194);(go_wp2_with fail);refine (HND.out _).mono ?_;rintro e w1 ⟨rfl,hb1⟩;obtain⟨hc,hf⟩:=bcell hb1;(have hB:=Hd ((box_below w _).trans (hb1.mono (by simp))));clear hb1;go_wp2;go_ret;refine⟨?_,hB.out⟩;rw [HR2.out];(show Ending.returned (.bool (bs m).toList.isEmpty)=_;rw [HB.out])
  ·(have hk26:¬k=26:=fun h=>hkc (.inl h));(have hc0:¬c=0:=fun h=>hkc (.inr h));(have HR:=Hd (show goodM ⟨k,⟨tk,tx,ty,tz⟩,m,c⟩=false by rw [hgood,decide_eq_false hk26,decide_eq_false hc0];simp));(have g0:¬nn<0:=by omega);(have gd:decide (nn<0)=false:=decide_eq_false g0);have gk:(k !=26)=true:=bne_iff_ne.2 hk26;have gc:(c !=0)=true:=bne_iff_ne.2 hc0;clear hgood h0 hkc hk26 hc0;(go_enter Tryz.func194,Tryz.ntmps194);(go_wp2_with fail);refine (HND.out _).mono ?_;rintro e w1 ⟨rfl,hb1⟩;obtain⟨hc,hf⟩:=bcell hb1;(have hB:=Hd ((box_below w _).trans (hb1.mono (by simp))));clear hb1;go_wp2;go_ret;exact⟨by rw [HR.out];rfl,hB.out⟩
 ·(have HR:=Hd (show goodM ⟨k,⟨tk,tx,ty,tz⟩,m,c⟩=false by rw [hgood,decide_eq_false h0];simp));(have g0:nn<0:=by omega);(have gd:decide (nn<0)=true:=decide_eq_true g0);clear hgood h0;(go_enter Tryz.func194,Tryz.ntmps194);(go_wp2_with fail);refine (HND.out _).mono ?_;rintro e w1 ⟨rfl,hb1⟩;(have hB:=Hd ((box_below w _).trans (hb1.mono (by simp))));clear hb1;go_wp2;go_ret;exact⟨by rw [HR.out];rfl,hB.out⟩
end
section
open Go.RowKit
theorem rFCheck_calls (L:List PartL) (hok:∀p∈L,p.ok) (a:Option Addr) (n c:Nat) (w:World) (hv:ArgP w a n c L):Calls Tryz.prog 137 #[.slice a n c] w fun e w'=>e=.returned (.int .i64 (chkE L))∧Below w.heap.size w w':=by
 have HV:=Hd hv;have HOK:=Hd hok;have HL:=Hd hv.len;clear hv hok;by_cases h256:256<n
 ·(have HE:=Hd (show chkE L=3 by unfold chkE;rw [if_pos (by rw [HL.out];exact h256)]));(have g1:(256:Int)<(n:Int):=by omega);(go_enter Tryz.func137,Tryz.ntmps137);go_wp2;go_ret;exact⟨by rw [HE.out];rfl,Below.refl _ _⟩
 ·(have g1:¬(256:Int)<(n:Int):=by omega);(have HN256:=Hd (show ¬256<L.length by rw [HL.out];exact h256));(go_enter Tryz.func137,Tryz.ntmps137);go_wp2;go_loopg [3,4] n (fun g r i wr=>∃k h:Nat,i=.int .i64 k∧r=.int .i64 h∧k+g=n∧h≤k∧Hid (ChkR L k h)∧Hid (Below w.heap.size w wr))
  case atStart=>exact⟨0,0,rfl,rfl,by omega,Nat.le_refl _,Hd (chkR_start L),Hd (Below.refl _ _)⟩
  case round =>
   obtain⟨W1,rfl⟩:∃W1,W1=wr:=⟨_,rfl⟩;obtain⟨k,h,rfl,rfl,hkg,hhk,HR,HB⟩:=hrel;by_cases hk:k<n
   ·(have hkL:k<L.length:=by rw [HL.out];exact hk);(obtain⟨g,o,ha,hgw,hcells⟩:=HV.out.cells (by omega));subst ha;have hgW:g<W1.heap.size:=Nat.lt_of_lt_of_le hgw HB.out.size;obtain⟨c0,c1,c2,c3,c4,c5,c6⟩:=(hcells k hkL).on HB.out hgw;have hpok:=HOK.out L[k] (List.getElem_mem hkL);(have HNX:=Hd (fun h1 h2=>chkR_next HR.out hkL h1 h2));(have HST:=Hd (fun h1=>chkR_stop HR.out hkL h1 HN256.out));clear hcells;generalize L[k]=p at c0 c1 c2 c3 c4 c5 c6 hpok HNX HST;(have HND:=Hd (fun W=>rNeeds_calls p W));(have HRT:=Hd (fun W=>rFRight_calls p hpok W));(have HGD:=Hd (fun hg=>(@need_good p hg).2.1));obtain⟨pk,⟨tk,tx,ty,tz⟩,pm,pc⟩:=p;(simp only [PartL.v] at HND HRT);dsimp only at c0 c1 c2 c3 c4 c5 c6;obtain⟨x,hx⟩:∃x,refNeed ⟨pk,⟨tk,tx,ty,tz⟩,pm,pc⟩=x:=⟨_,rfl⟩;rw [hx] at HND HGD;obtain⟨G,hG⟩:∃G,goodM ⟨pk,⟨tk,tx,ty,tz⟩,pm,pc⟩=G:=⟨_,rfl⟩;obtain⟨D,hD⟩:∃D,nd ⟨pk,⟨tk,tx,ty,tz⟩,pm,pc⟩=D:=⟨_,rfl⟩;rw [hG] at HNX HST HRT HGD;rw [hD] at HNX HST HGD;(have k0:(0:Int)≤(k:Int):=by omega);(have k1:(k:Int)<(n:Int):=by omega);clear hx hG hD hpok hkL hk HR;(obtain⟨gg,rfl⟩:∃gg,gk=gg+1:=⟨gk-1,by omega⟩);cases G with
    | false =>
      (have HE:=Hd (HST.out (fun c=>by simp at c)));clear HNX HST HGD;(go_wp2_with fail);refine (HRT.out _).mono ?_;rintro e w2 ⟨rfl,hb2⟩;obtain⟨d0,d1,d2,d3,d4,d5,d6⟩:=CellsP.on (p:=⟨pk,⟨tk,tx,ty,tz⟩,pm,pc⟩) (o:=o+k*7) ⟨c0,c1,c2,c3,c4,c5,c6⟩ hb2 hgW;have HB2:=Hd (HB.out.trans (hb2.mono HB.out.size));dsimp only at d0 d1 d2 d3 d4 d5 d6;clear c0 c1 c2 c3 c4 c5 c6;have hgW2:g<w2.heap.size:=Nat.lt_of_lt_of_le hgW hb2.size;clear hb2;go_wp2;go_ret;exact⟨by rw [HE.out];rfl,HB2.out⟩
    | true =>
      (obtain rfl:=HGD.out rfl);by_cases hxh:D≤h
      ·(have gh:decide ((h:Int)<(D:Int))=false:=decide_eq_false (by omega));have HN2:=Hd (HNX.out rfl hxh);clear HNX HST;(go_wp2_with fail);refine (HRT.out _).mono ?_;rintro e w2 ⟨rfl,hb2⟩;obtain⟨d0,d1,d2,d3,d4,d5,d6⟩:=CellsP.on (p:=⟨pk,⟨tk,tx,ty,tz⟩,pm,pc⟩) (o:=o+k*7) ⟨c0,c1,c2,c3,c4,c5,c6⟩ hb2 hgW;have HB2:=Hd (HB.out.trans (hb2.mono HB.out.size));dsimp only at d0 d1 d2 d3 d4 d5 d6;clear c0 c1 c2 c3 c4 c5 c6;have hgW2:g<w2.heap.size:=Nat.lt_of_lt_of_le hgW hb2.size;clear hb2;(go_wp2_with fail);refine (HND.out _).mono ?_;rintro e w3 ⟨rfl,hb3⟩;obtain⟨c0,c1,c2,c3,c4,c5,c6⟩:=CellsP.on (p:=⟨pk,⟨tk,tx,ty,tz⟩,pm,pc⟩) (o:=o+k*7) ⟨d0,d1,d2,d3,d4,d5,d6⟩ hb3 hgW2;have HB3:=Hd (HB2.out.trans (hb3.mono HB2.out.size));dsimp only at c0 c1 c2 c3 c4 c5 c6;clear hb3;(go_wp2_with fail);refine (HND.out _).mono ?_;rintro e w4 ⟨rfl,hb4⟩;have HB4:=Hd (HB3.out.trans (hb4.mono HB3.out.size));clear hb4;go_wp2;go_roundg gg
       case measure=>omega
       case rel=>exact⟨k+1,h-D+1,by go_num,by (congr 1;omega),by omega,by omega,HN2,HB4⟩
      ·(have gh:decide ((h:Int)<(D:Int))=true:=decide_eq_true (by omega));(have HE:=Hd (HST.out (fun c=>by omega)));clear HNX HST;(go_wp2_with fail);refine (HRT.out _).mono ?_;rintro e w2 ⟨rfl,hb2⟩;obtain⟨d0,d1,d2,d3,d4,d5,d6⟩:=CellsP.on (p:=⟨pk,⟨tk,tx,ty,tz⟩,pm,pc⟩) (o:=o+k*7) ⟨c0,c1,c2,c3,c4,c5,c6⟩ hb2 hgW;have HB2:=Hd (HB.out.trans (hb2.mono HB.out.size));dsimp only at d0 d1 d2 d3 d4 d5 d6;clear c0 c1 c2 c3 c4 c5 c6;have hgW2:g<w2.heap.size:=Nat.lt_of_lt_of_le hgW hb2.size;clear hb2;(go_wp2_with fail);refine (HND.out _).mono ?_;rintro e w3 ⟨rfl,hb3⟩;obtain⟨c0,c1,c2,c3,c4,c5,c6⟩:=CellsP.on (p:=⟨pk,⟨tk,tx,ty,tz⟩,pm,pc⟩) (o:=o+k*7) ⟨d0,d1,d2,d3,d4,d5,d6⟩ hb3 hgW2;have HB3:=Hd (HB2.out.trans (hb3.mono HB2.out.size));dsimp only at c0 c1 c2 c3 c4 c5 c6;clear hb3;go_wp2;go_ret;exact⟨by rw [HE.out];rfl,HB3.out⟩
   ·(have hk0:gk=0:=by omega);subst hk0;(have HE:=Hd (chkR_end HR.out (by rw [HL.out];omega) HN256.out));(have k1:¬(k:Int)<(n:Int):=by omega);by_cases h1:h=1
    ·subst h1;clear hhk;go_wp2;go_ret;exact⟨by rw [HE.out];rfl,HB.out⟩
    ·(have g2:((h:Int) !=1)=true:=bne_iff_ne.2 (by omega));have HE2:=Hd (HE.out.trans (if_neg h1));clear h1 HE;go_wp2;go_ret;exact⟨by rw [HE2.out];rfl,HB.out⟩
end
end Go.Proofs.YtjpfoophipcglaaGreatDoor
