/- The stack of results against the document's words: heights of a beginning of the operations. -/
import Derived.Test.YtjpfoophipcglaaGreatDoorKScopeEnds
namespace Go.Proofs.YtjpfoophipcglaaGreatDoor
set_option maxRecDepth 100000
set_option maxHeartbeats 8000000
theorem shGo_join (A B:List OpL) (h:Nat):shGo (A++B) h=(shGo A h).bind fun e=>shGo B e:=by
  induction A generalizing h with
  | nil=>rfl
  | cons p r ih =>
    rw [List.cons_append,shGo,shGo]
    split
    · exact ih _
    · rfl
theorem shGo_next {C:List OpL} {k e:Nat} (hk:k<C.length) (h:shGo (C.take (k+1)) 0=some e):∃e0,shGo (C.take k) 0=some e0∧rightO C[k]=true∧ndO C[k]≤e0∧e+ndO C[k]=e0+1:=by
  rw [List.take_succ_eq_append_getElem hk,shGo_join] at h
  cases h0:shGo (C.take k) 0 with
  | none=>rw [h0] at h;cases h
  | some e0 =>
    rw [h0,Option.bind_some,shGo] at h
    split at h
    · rename_i hc
      rw [shGo] at h
      have:e0-ndO C[k]+1=e:=by injection h
      exact⟨e0,rfl,hc.1,hc.2,by omega⟩
    · cases h
structure HtP (C:List OpL) (m:Nat):Prop where
  le:m≤C.length
  ht:∀k,k≤m→shGo (C.take k) 0=some (hhO C k)
theorem HtP.step {C:List OpL} {m:Nat} (H:HtP C m) (k:Nat) (hk:k<m):∃h:k<C.length,rightO C[k]=true∧ndO C[k]≤hhO C k∧hhO C (k+1)+ndO C[k]=hhO C k+1:=by
  have hl:=H.le
  refine⟨by omega,?_⟩
  obtain⟨e0,h0,h1,h2,h3⟩:=shGo_next (by omega) (H.ht (k+1) hk)
  have h4:=H.ht k (by omega)
  rw [h0] at h4
  have:e0=hhO C k:=by injection h4
  subst this
  exact⟨h1,h2,h3⟩
theorem hhO_zero (C:List OpL):hhO C 0=0:=rfl
theorem htP_of {C:List OpL}:∀{m e:Nat},m≤C.length→shGo (C.take m) 0=some e→HtP C m∧hhO C m=e
  | 0,e,hm,h=>by
    rw [List.take_zero,shGo] at h
    have he:e=0:=by injection h with h;exact h.symm
    refine⟨⟨hm,fun k hk=>?_⟩,by rw [he];rfl⟩
    have:k=0:=by omega
    subst this;rfl
  | m+1,e,hm,h=>by
    obtain⟨e0,h0,_⟩:=shGo_next (by omega) h
    obtain⟨H,_⟩:=htP_of (by omega) h0
    have he:hhO C (m+1)=e:=by unfold hhO;rw [h];rfl
    refine⟨⟨hm,fun k hk=>?_⟩,he⟩
    by_cases hc:k=m+1
    · subst hc;rw [he];exact h
    · exact H.ht k (by omega)
theorem HtP.low {C:List OpL} {m k:Nat} (H:HtP C m) (hk:k≤m):HtP C k:=⟨Nat.le_trans hk H.le,fun j hj=>H.ht j (by omega)⟩
theorem fromP_at {C:List OpL} {m:Nat} (H:HtP C m) {i:Nat} (hi:i<m):FromAt (hhO C) i (fromC C i):=by
 (have hpos:0<hhO C (i+1):=by obtain⟨_,_,h2,h3⟩:=H.step i hi;omega);have key:∀d,d≤i→(∀q,i-d<q→q≤i+1→hhO C (i+1)≤hhO C q)→∃p,FromAt (hhO C) i p:=by
  intro d;induction h:i-d generalizing d with
  | zero =>
    intro hd hup;exact⟨0,Nat.zero_le _,by have h0:=hhO_zero C;obtain⟨_,_,a,b⟩:=H.step 0 (by omega);have h1:=hup 1 (by omega) (by omega);simp only [Nat.zero_add] at b;omega,fun q h1 h2=>hup q (by omega) h2⟩
  | succ n ih =>
    intro hd hup;by_cases hc:hhO C (i+1)≤hhO C (i-d)
    ·exact ih (d+1) (by omega) (by omega) (fun q h1 h2=>by
      by_cases hq:q=i-d
      ·rw [hq];exact hc
      ·exact hup q (by omega) h2)
    ·(refine⟨i-d,by omega,?_,fun q h1 h2=>hup q (by omega) h2⟩);(obtain⟨_,_,a,b⟩:=H.step (i-d) (by omega));(have h2:=hup (i-d+1) (by omega) (by omega));omega
 obtain⟨p,F⟩:=key 0 (Nat.zero_le _) (fun q h1 h2=>by
  (have:q=i+1:=by omega);rw [this];exact Nat.le_refl _)
 rw [fromC_of F];exact F
theorem fromP_le {C:List OpL} {m:Nat} (H:HtP C m) {i:Nat} (hi:i<m):fromC C i≤i:=(fromP_at H hi).le
theorem needP_ahead {C:List OpL} {m:Nat} (H:HtP C m) {i:Nat} (hi:i<m) (hl:i<C.length) (hn:0<ndO C[i]):0<i:=by
  obtain⟨_,_,h2,_⟩:=H.step i hi
  rcases Nat.eq_zero_or_pos i with c|c
  · subst c
    rw [hhO_zero] at h2;omega
  · exact c
theorem secondP_ahead {C:List OpL} {m:Nat} (H:HtP C m) {i:Nat} (hi:i+1<m) (hl:i+1<C.length) (hn:ndO C[i+1]=2):0<fromC C i:=by
  obtain⟨_,_,h2,_⟩:=H.step (i+1) hi
  have F:=fromP_at H (i:=i) (by omega)
  have h1:=F.at_
  rcases Nat.eq_zero_or_pos (fromC C i) with c|c
  · rw [c,hhO_zero] at h1;omega
  · exact c
theorem fromP_none {C:List OpL} {m:Nat} (H:HtP C m) {i:Nat} (hi:i<m) (hl:i<C.length) (hn:ndO C[i]=0):fromC C i=i:=by
  obtain⟨_,_,_,h3⟩:=H.step i hi
  refine fromC_of ⟨Nat.le_refl _,by omega,fun q a b=>?_⟩
  have:q=i+1:=by omega
  rw [this];exact Nat.le_refl _
theorem fromP_one {C:List OpL} {m:Nat} (H:HtP C m) {i:Nat} (hi:i+1<m) (hl:i+1<C.length) (hn:ndO C[i+1]=1):fromC C (i+1)=fromC C i:=by
  obtain⟨_,_,_,h3⟩:=H.step (i+1) hi
  have F:=fromP_at H (i:=i) (by omega)
  have f1:=F.le
  have f2:=F.at_
  refine fromC_of ⟨by omega,by omega,fun q a b=>?_⟩
  by_cases hq:q=i+1+1
  · rw [hq];exact Nat.le_refl _
  · have:=F.up q a (by omega);omega
theorem fromP_two {C:List OpL} {m:Nat} (H:HtP C m) {i:Nat} (hi:i+1<m) (hl:i+1<C.length) (hn:ndO C[i+1]=2):fromC C (i+1)=fromC C (fromC C i-1):=by
 obtain⟨_,_,_,h3⟩:=H.step (i+1) hi;have hpos:=secondP_ahead H hi hl hn;(have F:=fromP_at H (i:=i) (by omega));have f1:=F.le;have f2:=F.at_;(obtain⟨p,hp⟩:∃p,fromC C i=p+1:=⟨fromC C i-1,by omega⟩);rw [hp] at F f1 f2 ⊢;rw [Nat.add_sub_cancel];(have G:=fromP_at H (i:=p) (by omega));have g1:=G.le;have g2:=G.at_;(refine fromC_of ⟨by omega,by omega,fun q a b=>?_⟩);by_cases hq:q=i+1+1
 ·rw [hq];exact Nat.le_refl _
 ·by_cases hq2:q≤p+1
  ·have:=G.up q a hq2;omega
  ·have:=F.up q (by omega) (by omega);omega
def nmC (C:List OpL) (cert:Bool) (i:Nat):List (List UInt8):=namesF C cert (i+1) i
theorem namesF_fuel {C:List OpL} {m:Nat} (H:HtP C m) (cert:Bool):∀(f i:Nat),i<f→i<m→namesF C cert f i=nmC C cert i
  | 0,i,hf,_=>absurd hf (Nat.not_lt_zero _)
  | f+1,i,hf,hi=>by
    obtain⟨hl,h1,h2,h3⟩:=H.step i hi
    have h4:=ndO_le C[i]
    by_cases hf2:f=i
    · subst hf2;rfl
    unfold nmC
    rw [namesF,namesF,dif_pos hl,dif_pos hl]
    by_cases n0:ndO C[i]=0
    · rw [if_pos n0,if_pos n0]
    · rw [if_neg n0,if_neg n0]
      have hpos:=needP_ahead H hi hl (by omega)
      obtain⟨j,rfl⟩:∃j,i=j+1:=⟨i-1,by omega⟩
      have e1:=namesF_fuel H cert f j (by omega) (by omega)
      have e1':namesF C cert (j+1) j=nmC C cert j:=rfl
      rw [Nat.add_sub_cancel,e1,e1']
      by_cases n1:ndO C[j+1]=1
      · rw [if_pos n1,if_pos n1]
      · have n2:ndO C[j+1]=2:=by omega
        have hs:=secondP_ahead H hi hl n2
        have hfl:=fromP_le H (i:=j) (by omega)
        rw [if_neg n1,if_neg n1,namesF_fuel H cert f (fromC C j-1) (by omega) (by omega),namesF_fuel H cert (j+1) (fromC C j-1) (by omega) (by omega)]
theorem scB_n0 {o:OpL} (h:ndO o=0) (c:Bool) (a b:List (List UInt8)):scB o c a b=leafO o c:=by unfold scB;rw [if_pos h]
theorem nmC_none {C:List OpL} (cert:Bool) {i:Nat} (hl:i<C.length) (hn:ndO C[i]=0) (a b:List (List UInt8)):nmC C cert i=scB C[i] cert a b:=by
  unfold nmC
  rw [namesF,dif_pos hl,if_pos hn,scB_n0 hn]
theorem nmC_one {C:List OpL} (cert:Bool) {i:Nat} (hl:i+1<C.length) (hn:ndO C[i+1]=1) (b:List (List UInt8)):nmC C cert (i+1)=scB C[i+1] cert (nmC C cert i) b:=by
  have n0:¬ndO C[i+1]=0:=by omega
  rw [show nmC C cert (i+1)=namesF C cert (i+1+1) (i+1) from rfl,namesF,dif_pos hl,if_neg n0,if_pos hn,Nat.add_sub_cancel]
  unfold scB
  rw [if_neg n0,if_pos hn]
  rfl
theorem nmC_two {C:List OpL} {m:Nat} (H:HtP C m) (cert:Bool) {i:Nat} (hi:i+1<m) (hl:i+1<C.length) (hn:ndO C[i+1]=2):nmC C cert (i+1)=scB C[i+1] cert (nmC C cert (fromC C i-1)) (nmC C cert i):=by
  have n0:¬ndO C[i+1]=0:=by omega
  have n1:¬ndO C[i+1]=1:=by omega
  have hs:=secondP_ahead H hi hl hn
  have hfl:=fromP_le H (i:=i) (by omega)
  rw [show nmC C cert (i+1)=namesF C cert (i+1+1) (i+1) from rfl,namesF,dif_pos hl,if_neg n0,if_neg n1,Nat.add_sub_cancel,namesF_fuel H cert (i+1) (fromC C i-1) (by omega) (by omega)]
  unfold scB
  rw [if_neg n0,if_neg n1]
  rfl
def resC (C:List OpL) (j:Nat):ResL:=⟨fromC C j,innerB C (fromC C j) (j+1),nmC C false j,nmC C true j⟩
def StkR (C:List OpL):List Nat→Nat→Prop
  | [],k=>k=0
  | b::t,k=>k=b+1∧StkR C t (fromC C b)
def eO (C:List OpL) (i:Nat):Bool:=if h:i<C.length then C[i].k==8&&decide (C[i].m∈nmC C false (i-1)) else false
def checkC (C:List OpL):Int:=if 128<C.length then 3 else if shB C=false∨nestB C=true then 2 else if (List.range C.length).any (eO C)=true then 6 else 0
theorem stk_length {C:List OpL} {m:Nat} (H:HtP C m):∀(s:List Nat) (k:Nat),k≤m→StkR C s k→s.length=hhO C k
  | [],k,_,h=>by have:k=0:=h;subst this;rfl
  | b::t,k,hk,h=>by
    obtain⟨h1,h2⟩:=h
    have F:=fromP_at H (i:=b) (by omega)
    have f1:=F.le
    have f2:=F.at_
    have ih:=stk_length H t _ (by omega) h2
    rw [List.length_cons,ih,h1];omega
theorem htP_next {C:List OpL} {k:Nat} (H:HtP C k) (hk:k<C.length) (h1:rightO C[k]=true) (h2:ndO C[k]≤hhO C k):HtP C (k+1):=by
  refine (htP_of (e:=hhO C k-ndO C[k]+1) (by omega) ?_).1
  rw [List.take_succ_eq_append_getElem hk,shGo_join,H.ht k (Nat.le_refl _),Option.bind_some,shGo,if_pos ⟨h1,h2⟩,shGo]
theorem htP_stop {C:List OpL} {k:Nat} (H:HtP C k) (hk:k<C.length) (h:¬(rightO C[k]=true∧ndO C[k]≤hhO C k)):shB C=false:=by
  have h1:shGo C 0=none:=by
    rw [←List.take_append_drop k C,shGo_join,H.ht k (Nat.le_refl _),Option.bind_some,List.drop_eq_getElem_cons hk,shGo,if_neg h]
  unfold shB
  rw [h1];rfl
theorem htP_end {C:List OpL} (H:HtP C C.length):shB C=decide (hhO C C.length=1):=by
  have h:=H.ht C.length (Nat.le_refl _)
  rw [List.take_length] at h
  unfold shB
  rw [h]
  simp
theorem inner_more {C:List OpL} {p i:Nat} (h:p≤i):innerB C p (i+1)=(innerB C p i||decide (kindO C i=9)):=by
  unfold innerB
  rw [List.range_succ,List.any_append]
  simp [h]
theorem inner_join {C:List OpL} {p q:Nat} (hp:p≤q):∀d,innerB C p (q+d)=(innerB C p q||innerB C q (q+d))
  | 0=>by
    have:innerB C q q=false:=by
      unfold innerB
      rw [List.any_eq_false]
      intro x hx
      have:=List.mem_range.1 hx
      rw [decide_eq_false (by omega)];simp
    rw [Nat.add_zero,this,Bool.or_false]
  | d+1=>by
    rw [←Nat.add_assoc,inner_more (by omega),inner_more (by omega),inner_join hp d,Bool.or_assoc]
theorem inner_none {C:List OpL} (p:Nat):innerB C p p=false:=by
  unfold innerB
  rw [List.any_eq_false]
  intro x hx
  have:=List.mem_range.1 hx
  rw [decide_eq_false (by omega)];simp
theorem kind9 {C:List OpL} {i:Nat} (h:i<C.length):decide (kindO C i=9)=(C[i].k==9):=by rw [kindO_at h,Bool.beq_eq_decide_eq]
theorem made_none {C:List OpL} {k:Nat} (H:HtP C (k+1)) (hk:k<C.length) (hn:ndO C[k]=0):madeR C[k] k []=resC C k:=by
  have hf:=fromP_none H (Nat.lt_succ_self k) hk hn
  unfold madeR resC
  rw [hf,inner_more (Nat.le_refl _),inner_none,kind9 hk,Bool.false_or,nmC_none false hk hn noR.sc noR.sc,nmC_none true hk hn noR.ct noR.ct]
  rfl
theorem made_one {C:List OpL} {b:Nat} (H:HtP C (b+1+1)) (hk:b+1<C.length) (hn:ndO C[b+1]=1):madeR C[b+1] (b+1) [resC C b]=resC C (b+1):=by
  have hf:=fromP_one H (Nat.lt_succ_self _) hk hn
  have hl:=fromP_le H (i:=b) (by omega)
  have e1:min (b+1) (fromC C b)=fromC C b:=by omega
  unfold madeR
  rw [show resC C (b+1)=⟨fromC C (b+1),innerB C (fromC C (b+1)) (b+1+1),nmC C false (b+1),nmC C true (b+1)⟩ from rfl,
    hf,inner_more (by omega),kind9 hk,nmC_one false hk hn noR.sc,nmC_one true hk hn noR.ct,Bool.or_comm]
  show (⟨min (b+1) (fromC C b),_,_,_⟩:ResL)=_
  rw [e1];rfl
theorem made_two {C:List OpL} {b c:Nat} (H:HtP C (b+1+1)) (hk:b+1<C.length) (hn:ndO C[b+1]=2) (hc:fromC C b=c+1):madeR C[b+1] (b+1) [resC C c,resC C b]=resC C (b+1):=by
 have hf:=fromP_two H (Nat.lt_succ_self _) hk hn;(have hl:=fromP_le H (i:=b) (by omega));(have hl2:=fromP_le H (i:=c) (by omega));have n1:=nmC_two H false (Nat.lt_succ_self _) hk hn;have n2:=nmC_two H true (Nat.lt_succ_self _) hk hn;rw [hc,Nat.add_sub_cancel] at hf n1 n2;(have e1:min (min (b+1) (fromC C c)) (fromC C b)=fromC C c:=by omega);have e2:innerB C (fromC C c) (b+1)=(innerB C (fromC C c) (c+1)||innerB C (fromC C b) (b+1)):=by
  (obtain⟨d,hd⟩:∃d,b+1=c+1+d:=⟨b-c,by omega⟩);rw [hc,hd];exact inner_join (by omega) d
 have e3:((C[b+1].k==9||innerB C (fromC C c) (c+1))||innerB C (fromC C b) (b+1))=(innerB C (fromC C c) (b+1)||C[b+1].k==9):=by
  rw [e2,Bool.or_assoc,Bool.or_comm]
 (unfold madeR);rw [show resC C (b+1)=⟨fromC C (b+1),innerB C (fromC C (b+1)) (b+1+1),nmC C false (b+1),nmC C true (b+1)⟩ from rfl,
  hf,inner_more (by omega),kind9 hk,n1,n2]
 (show (⟨min (min (b+1) (fromC C c)) (fromC C b),((C[b+1].k==9||innerB C (fromC C c) (c+1))||innerB C (fromC C b) (b+1)),_,_⟩:ResL)=_);rw [e1,e3];rfl
structure TieR (C:List OpL) (k:Nat) (s:List Nat) (op:List ResL) (e:Bool) (all:List ResL):Prop where
  ht:HtP C k
  stk:StkR C s k
  op:op=(s.map (resC C)).reverse
  e:e=(List.range k).any (eO C)
  all:all=(List.range k).map (resC C)
  nest:NestR C k
theorem tie_start (C : List OpL) : TieR C 0 [] [] false [] := ⟨⟨Nat.zero_le _, fun k hk => by have:k=0:=by omega
                                                                                              subst this;rfl⟩,rfl,rfl,rfl,rfl,nest_start C⟩
theorem top_of {C:List OpL} {o:OpL} {s t u:List Nat} (h:s=t++u) (hn:ndO o=t.length):topN o (s.map (resC C)).reverse=(t.map (resC C)).reverse∧(s.map (resC C)).reverse.take ((s.map (resC C)).reverse.length-ndO o)=(u.map (resC C)).reverse:=by
  have e1:(s.map (resC C)).reverse=(u.map (resC C)).reverse++(t.map (resC C)).reverse:=by rw [h,List.map_append,List.reverse_append]
  have e2:(s.map (resC C)).reverse.length-ndO o=(u.map (resC C)).reverse.length:=by
    rw [e1,List.length_append,hn];simp only [List.length_reverse,List.length_map];omega
  unfold topN
  rw [e2,e1]
  exact⟨List.drop_left' rfl,List.take_left' rfl⟩
theorem tie_next {C:List OpL} {k:Nat} {s:List Nat} {op all:List ResL} {e:Bool} (T:TieR C k s op e all) (hk:k<C.length) (h1:rightO C[k]=true) (h2:ndO C[k]≤op.length):(nestR C[k] (topN C[k] op)=true→nestB C=true)∧(nestR C[k] (topN C[k] op)=false→∃s',TieR C (k+1) s' (op.take (op.length-ndO C[k])++[madeR C[k] k (topN C[k] op)]) (e||scopeR C[k] (topN C[k] op)) (all++[madeR C[k] k (topN C[k] op)])):=by
 have hs:=stk_length T.ht s k (Nat.le_refl _) T.stk;have hop:=T.op;(have hlen:op.length=s.length:=by rw [hop,List.length_reverse,List.length_map]);(have h2h:ndO C[k]≤hhO C k:=by omega);have H:=htP_next T.ht hk h1 h2h;have h4:=ndO_le C[k];clear hlen;have main:∃t u,s=t++u∧ndO C[k]=t.length∧StkR C u (fromC C k)∧madeR C[k] k (t.map (resC C)).reverse=resC C k∧(C[k].k=9→(t.map (resC C)).reverse.getD 0 noR=resC C (k-1)∧fromC C k=fromC C (k-1)∧0<k)∧(C[k].k=8→(t.map (resC C)).reverse.getD 0 noR=resC C (k-1)):=by
  have S:=T.stk;by_cases n0:ndO C[k]=0
  ·exact⟨[],s,rfl,n0,by rw [fromP_none H (Nat.lt_succ_self k) hk n0];exact S,made_none H hk n0,fun c=>absurd n0 (by rw [nd_of.2.2.2.2.1 c];decide),fun c=>absurd n0 (by rw [nd_of.2.2.2.1 c];decide)⟩
  ·clear hop T;match s,S,hs with
   | [],S,hs=>exfalso;rw [List.length_nil] at hs;omega
   | b::t,S,hs =>
     obtain⟨s1,s2⟩:=S;subst s1;by_cases n1:ndO C[b+1]=1
     ·have hf:=fromP_one H (Nat.lt_succ_self _) hk n1;exact⟨[b],t,rfl,n1,by rw [hf];exact s2,made_one H hk n1,fun _=>⟨rfl,hf,Nat.succ_pos _⟩,fun _=>rfl⟩
     ·(have n2:ndO C[b+1]=2:=by omega);have hf:=fromP_two H (Nat.lt_succ_self _) hk n2;match t,s2,hs with
      | [],s2,hs=>exfalso;rw [List.length_cons,List.length_nil] at hs;omega
      | c::u,s2,hs =>
        obtain⟨u1,u2⟩:=s2;exact⟨[b,c],u,rfl,n2,by rw [hf,u1,Nat.add_sub_cancel];exact u2,made_two H hk n2 u1,fun d=>absurd (nd_of.2.2.2.2.1 d) n1,fun d=>absurd (nd_of.2.2.2.1 d) n1⟩
 obtain⟨t,u,hsu,hn,hu,hm,h9,h8⟩:=main;obtain⟨t1,t2⟩:=top_of (C:=C) (o:=C[k]) hsu hn;rw [←hop] at t1 t2;have hk9:=kindO_at hk;refine⟨fun hb=>?_,fun hb=>⟨k::u,⟨H,⟨rfl,hu⟩,?_,?_,?_,?_⟩⟩⟩
 ·(unfold nestR at hb);rw [Bool.and_eq_true,t1] at hb;obtain⟨hb1,hb2⟩:=hb;have c9:C[k].k=9:=eq_of_beq hb1;obtain⟨d1,d2,d3⟩:=h9 c9;rw [d1] at hb2;have hb3:innerB C (fromC C (k-1)) (k-1+1)=true:=hb2;(unfold innerB at hb3);rw [List.any_eq_true] at hb3;obtain⟨j,j1,j2⟩:=hb3;rw [Bool.and_eq_true] at j2;have j3:=List.mem_range.1 j1;exact nest_yes hk (by rw [hk9];exact c9) (by rw [d2];exact of_decide_eq_true j2.1) (by omega) (of_decide_eq_true j2.2)
 ·rw [t1,t2,hm,List.map_cons,List.reverse_cons]
 ·rw [List.range_succ,List.any_append,←T.e,t1];congr 1;(unfold scopeR eO);rw [List.any_cons,List.any_nil,Bool.or_false,dif_pos hk];by_cases c8:C[k].k=8
  ·rw [h8 c8];rfl
  ·rw [show (C[k].k==8)=false from by rw [Bool.eq_false_iff];intro c;exact c8 (eq_of_beq c)];rfl
 ·rw [t1,hm,T.all,List.range_succ,List.map_append];rfl
 ·by_cases c9:C[k].k=9
  ·obtain⟨d1,d2,d3⟩:=h9 c9;(refine nest_next T.nest (fun j a b hj=>?_));have hb2:nestR C[k] (topN C[k] op)=true:=by
    (unfold nestR);rw [c9,t1,d1];(show innerB C (fromC C (k-1)) (k-1+1)=true);(unfold innerB);rw [List.any_eq_true];exact⟨j,List.mem_range.2 (by omega),by rw [decide_eq_true (by rw [←d2];exact a),decide_eq_true hj];rfl⟩
   rw [hb2] at hb;cases hb
  ·exact nest_skip T.nest (by rw [hk9];exact c9)
theorem tie_stop {C:List OpL} {k:Nat} {s:List Nat} {op all:List ResL} {e:Bool} (T:TieR C k s op e all) (hk:k<C.length) (h:¬(rightO C[k]=true∧ndO C[k]≤op.length∧nestR C[k] (topN C[k] op)=false)):shB C=false∨nestB C=true:=by
  have hs:=stk_length T.ht s k (Nat.le_refl _) T.stk
  have hlen:op.length=s.length:=by rw [T.op,List.length_reverse,List.length_map]
  by_cases h1:rightO C[k]=true∧ndO C[k]≤op.length
  · refine .inr ((tie_next T hk h1.1 h1.2).1 ?_)
    cases hb:nestR C[k] (topN C[k] op) with
    | true=>rfl
    | false=>exact absurd ⟨h1.1,h1.2,hb⟩ h
  · exact .inl (htP_stop T.ht hk (fun c=>h1 ⟨c.1,by omega⟩))
theorem tie_run {C:List OpL}:∀(d k:Nat) (s:List Nat) (op all:List ResL) (e:Bool),C.length-k=d→k≤C.length→TieR C k s op e all →
    (runP (C.drop k) k op e all=none∧(shB C=false∨nestB C=true))∨∃s' op' e' all',runP (C.drop k) k op e all=some (all',op',e')∧TieR C C.length s' op' e' all'
  | 0,k,s,op,all,e,hd,hk,T=>by
    have:k=C.length:=by omega
    subst this
    refine .inr ⟨s,op,e,all,?_,T⟩
    rw [List.drop_length];rfl
  | d+1,k,s,op,all,e,hd,hk,T=>by
    have hk2:k<C.length:=by omega
    rw [List.drop_eq_getElem_cons hk2,runP]
    by_cases h:rightO C[k]=true∧ndO C[k]≤op.length∧nestR C[k] (topN C[k] op)=false
    · rw [if_pos h]
      obtain⟨s',T'⟩:=(tie_next T hk2 h.1 h.2.1).2 h.2.2
      exact tie_run d (k+1) s' _ _ _ (by omega) (by omega) T'
    · rw [if_neg h]
      exact .inl ⟨rfl,tie_stop T hk2 h⟩
theorem resE_is (C:List OpL):resE C=checkC C:=by
 (unfold resE checkC);split
 ·rfl
 ·rcases tie_run (C:=C) _ 0 [] [] [] false rfl (Nat.zero_le _) (tie_start C) with ⟨h,hb⟩|⟨s',op',e',all',h,T⟩
  ·rw [List.drop_zero] at h;rw [h,if_pos hb]
  ·rw [List.drop_zero] at h;rw [h];have hs:=stk_length T.ht s' _ (Nat.le_refl _) T.stk;(have hlen:op'.length=s'.length:=by rw [T.op,List.length_reverse,List.length_map]);have hb:=htP_end T.ht;have hn:=nest_no T.nest (Nat.le_refl _);(show (if op'.length≠1 then (2:Int) else if e'=true then 6 else 0)=_);rw [hn,hb,←T.e];by_cases h1:op'.length=1
   ·rw [if_neg (show ¬op'.length≠1 from fun c=>c h1),if_neg (show ¬(decide (hhO C C.length=1)=false∨false=true) from fun c=>c.elim (fun d=>absurd (of_decide_eq_false d) (by omega)) (fun d=>by cases d))]
   ·rw [if_pos h1,if_pos (.inl (decide_eq_false (by omega)))]
theorem resE_zero {C:List OpL} (h:resE C=0):C.length≤128∧shB C=true∧nestB C=false:=by
  rw [resE_is] at h
  unfold checkC at h
  split at h
  · cases h
  · split at h
    · cases h
    · rename_i h1 h2
      refine⟨by omega,?_,?_⟩
      · cases hb:shB C with
        | true=>rfl
        | false=>exact absurd (.inl hb) h2
      · cases hb:nestB C with
        | false=>rfl
        | true=>exact absurd (.inr hb) h2
theorem resA_is {C:List OpL} (h:resE C=0):resA C=(List.range C.length).map (resC C):=by
  obtain⟨h1,h2,h3⟩:=resE_zero h
  unfold resA
  rcases tie_run (C:=C) _ 0 [] [] [] false rfl (Nat.zero_le _) (tie_start C) with ⟨_,hb⟩|⟨s',op',e',all',h,T⟩
  · rcases hb with hb|hb
    · rw [h2] at hb;cases hb
    · rw [h3] at hb;cases hb
  · rw [List.drop_zero] at h
    rw [h]
    exact T.all
section
open Go.RowKit
theorem OpsA.name {w:World} {a:Option Addr} {n c:Nat} {C:List OpL} (h:OpsA w a n c C) (h0:0<n):∃g o,a=some ⟨g,o,none⟩∧g<w.heap.size∧∀j (hj:j<C.length),w.cell? ⟨g,o+j*7,none⟩=some (.int .i64 C[j].k)∧w.cell? ⟨g,o+j*7+5,none⟩=some (.string (bs C[j].m)):=by
  obtain⟨g,o,ha,hg,hc⟩:=h.cells h0
  refine⟨g,o,ha,hg,fun j hj=>?_⟩
  obtain⟨A,h7,_⟩:=hc j hj
  exact⟨h7.1,h7.2.2.2.2.2.1⟩
end
section
open Go.RowKit
theorem resA_at {C:List OpL} {i:Nat} {r:ResL} (h:resE C=0) (hi:i<C.length) (hr:(resA C)[i]?=some r):r=resC C i:=by
  rw [resA_is h] at hr
  have:(List.map (resC C) (List.range C.length))[i]?=some (resC C i):=by
    rw [List.getElem?_map,List.getElem?_range hi];rfl
  rw [this] at hr
  injection hr with hr
  exact hr.symm
theorem inT_names {C:List OpL} {i:Int} {cert:Bool} {L:List (List UInt8)} (h:atE C i=0→∃r,(resA C)[i.toNat]?=some r∧L=bif cert then r.ct else r.sc) (h0:atE C i=0):resE C=0∧0≤i∧i<(C.length:Int)∧L=nmC C cert i.toNat:=by
  have e0:resE C=0:=by
    by_cases c:resE C=0
    · exact c
    · rw [atE_err c] at h0;exact absurd h0 c
  have hi:¬(i<0∨(C.length:Int)≤i):=fun c=>by rw [atE_range e0 c] at h0;cases h0
  obtain⟨r,hr,hL⟩:=h h0
  have:=resA_at e0 (by omega) hr
  subst this
  refine⟨e0,by omega,by omega,?_⟩
  rw [hL]
  cases cert<;>rfl
end
end Go.Proofs.YtjpfoophipcglaaGreatDoor
