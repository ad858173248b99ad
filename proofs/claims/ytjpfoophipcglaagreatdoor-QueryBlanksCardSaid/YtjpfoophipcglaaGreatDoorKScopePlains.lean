/- Operations in plain words. -/
import Derived.Test.YtjpfoophipcglaaGreatDoorKFormPlains
namespace Go.Proofs.YtjpfoophipcglaaGreatDoor
set_option maxRecDepth 100000
set_option maxHeartbeats 8000000
structure OpL where
  k:Int
  T:List TripL
  V:List (List UInt8)
  R:List (List TermL)
  F:List PartL
  m:List UInt8
  s:Bool
def needO (k:Int):Int:=if k=1∨k=2 then 0 else if k=7∨k=8∨k=9 then 1 else if k=3∨k=4∨k=5∨k=6 then 2 else -1
def valueZ (t:TermL):Bool:=rightL t.k t.x t.y t.z&&(decide (t.k=0)||decide (t.k=1)||decide (t.k=2))
def patsB (T:List TripL):Bool:=T.all patB&&decide (T.length≤32)
def namesB:List (List UInt8)→List (List UInt8)→Bool
  | _,[]=>true
  | seen,x::r=>nameL x&&!decide (x∈seen)&&namesB (seen++[x]) r
def rowsB (n:Nat) (R:List (List TermL)):Bool:=R.all fun r=>decide (r.length=n)&&r.all valueZ
def tableB (V:List (List UInt8)) (R:List (List TermL)):Bool:=decide (V.length≤32)&&decide (R.length≤64)&&namesB [] V&&rowsB V.length R
def formB (F:List PartL):Bool:=decide (0<F.length)&&decide (chkE F=0)
def rightO (o:OpL):Bool :=
  if o.k=1 then patsB o.T&&o.V.isEmpty&&o.R.isEmpty&&o.F.isEmpty&&o.m.isEmpty&&!o.s
  else if o.k=2 then o.T.isEmpty&&tableB o.V o.R&&o.F.isEmpty&&o.m.isEmpty&&!o.s
  else if o.k=3∨o.k=4∨o.k=6 then o.T.isEmpty&&o.V.isEmpty&&o.R.isEmpty&&o.F.isEmpty&&o.m.isEmpty&&!o.s
  else if o.k=5 then o.T.isEmpty&&o.V.isEmpty&&o.R.isEmpty&&(o.F.isEmpty||formB o.F)&&o.m.isEmpty&&!o.s
  else if o.k=7 then o.T.isEmpty&&o.V.isEmpty&&o.R.isEmpty&&formB o.F&&o.m.isEmpty&&!o.s
  else if o.k=8 then o.T.isEmpty&&o.V.isEmpty&&o.R.isEmpty&&formB o.F&&nameL o.m&&!o.s
  else if o.k=9 then o.T.isEmpty&&o.V.isEmpty&&o.R.isEmpty&&o.F.isEmpty&&iriL o.m
  else false
def NamesR (V:List (List UInt8)) (k:Nat):Prop:=namesB [] V=namesB (V.take k) (V.drop k)
theorem names_start (V:List (List UInt8)):NamesR V 0:=by unfold NamesR;simp
theorem names_at {V:List (List UInt8)} {k:Nat} (hk:k<V.length):namesB (V.take k) (V.drop k)=(nameL V[k]&&!decide (V[k]∈V.take k)&&namesB (V.take (k+1)) (V.drop (k+1))):=by
  rw [List.drop_eq_getElem_cons hk,List.take_succ_eq_append_getElem hk];rfl
theorem names_next {V:List (List UInt8)} {k:Nat} (h:NamesR V k) (hk:k<V.length) (h1:nameL V[k]=true) (h2:¬V[k]∈V.take k):NamesR V (k+1):=by
  unfold NamesR at *
  rw [h,names_at hk,h1,decide_eq_false h2];rfl
theorem names_stop {V:List (List UInt8)} {k:Nat} (h:NamesR V k) (hk:k<V.length) (hb:¬(nameL V[k]=true∧¬V[k]∈V.take k)):namesB [] V=false:=by
  rw [show namesB [] V=_ from h,names_at hk]
  by_cases h1:nameL V[k]=true
  · have h2:V[k]∈V.take k:=by
      by_cases hc:V[k]∈V.take k
      · exact hc
      · exact absurd ⟨h1,hc⟩ hb
    rw [decide_eq_true h2];simp
  · rw [Bool.eq_false_iff.2 h1];simp
theorem names_end {V:List (List UInt8)} {k:Nat} (h:NamesR V k) (hk:V.length≤k):namesB [] V=true:=by
  rw [show namesB [] V=_ from h,List.drop_eq_nil_of_le hk];cases V.take k<;>rfl
def ndO (o:OpL):Nat:=(needO o.k).toNat
theorem needO_right {o:OpL} (h:rightO o=true):needO o.k=(ndO o:Int):=by
  have h1:0≤needO o.k:=by
    unfold needO
    split
    · decide
    · split
      · decide
      · split
        · decide
        · exfalso
          unfold rightO at h
          rw [if_neg (by omega),if_neg (by omega),if_neg (by omega),if_neg (by omega),if_neg (by omega),if_neg (by omega),if_neg (by omega)] at h
          cases h
  unfold ndO;omega
theorem ndO_le (o:OpL):ndO o≤2:=by
  unfold ndO needO
  split
  · decide
  · split
    · decide
    · split
      · decide
      · decide
def shGo:List OpL→Nat→Option Nat
  | [],h=>some h
  | o::r,h=>if rightO o=true∧ndO o≤h then shGo r (h-ndO o+1) else none
def shB (C:List OpL):Bool:=decide (shGo C 0=some 1)
structure HtO (C:List OpL) (hh:Nat→Nat):Prop where
  zero:hh 0=0
  step:∀k (h:k<C.length),rightO C[k]=true∧ndO C[k]≤hh k∧hh (k+1)+ndO C[k]=hh k+1
  last:hh C.length=1
theorem shGo_heights:∀(C:List OpL) (h0 e:Nat),shGo C h0=some e→∃hh:Nat→Nat,hh 0=h0∧(∀k (h:k<C.length),rightO C[k]=true∧ndO C[k]≤hh k∧hh (k+1)+ndO C[k]=hh k+1)∧hh C.length=e
  | [],h0,e,h=>⟨fun _=>h0,rfl,fun k hk=>absurd hk (by simp),by simpa [shGo] using h⟩
  | o::r,h0,e,h=>by
    rw [shGo] at h
    split at h
    · rename_i hc
      obtain⟨hh,a1,a2,a3⟩:=shGo_heights r _ e h
      refine⟨fun k=>match k with|0=>h0|k+1=>hh k,rfl,fun k hk=>?_,a3⟩
      cases k with
      | zero=>exact⟨hc.1,hc.2,by show hh 0+ndO o=h0+1;rw [a1];have:=hc.2;omega⟩
      | succ k=>exact a2 k (by simpa using hk)
    · cases h
theorem shB_heights {C:List OpL} (h:shB C=true):∃hh,HtO C hh:=by
  unfold shB at h
  obtain⟨hh,h1,h2,h3⟩:=shGo_heights C 0 1 (of_decide_eq_true h)
  exact⟨hh,h1,h2,h3⟩
theorem fromO_ex {C:List OpL} {hh:Nat→Nat} (H:HtO C hh) {i:Nat} (hi:i<C.length):∃p,FromAt hh i p:=by
 (have hpos:0<hh (i+1):=by have:=H.step i hi;omega);have key:∀d,d≤i→(∀q,i-d<q→q≤i+1→hh (i+1)≤hh q)→∃p,FromAt hh i p:=by
  intro d;induction h:i-d generalizing d with
  | zero =>
    intro hd hup;exact⟨0,Nat.zero_le _,by have h0:=H.zero;have:=H.step 0 (by omega);have h1:=hup 1 (by omega) (by omega);obtain⟨_,a,b⟩:=this;simp only [Nat.zero_add] at b;omega,fun q h1 h2=>hup q (by omega) h2⟩
  | succ m ih =>
    intro hd hup;by_cases hc:hh (i+1)≤hh (i-d)
    ·exact ih (d+1) (by omega) (by omega) (fun q h1 h2=>by
      by_cases hq:q=i-d
      ·rw [hq];exact hc
      ·exact hup q (by omega) h2)
    ·(refine⟨i-d,by omega,?_,fun q h1 h2=>hup q (by omega) h2⟩);(have:=H.step (i-d) (by omega));(have h2:=hup (i-d+1) (by omega) (by omega));obtain⟨_,a,b⟩:=this;omega
 exact key 0 (Nat.zero_le _) (fun q h1 h2=>by
  (have:q=i+1:=by omega);rw [this];exact Nat.le_refl _)
def hhO (C:List OpL) (k:Nat):Nat:=(shGo (C.take k) 0).getD 0
theorem shGo_snoc (C:List OpL) (o:OpL) (h:Nat):shGo (C++[o]) h=(shGo C h).bind fun e=>shGo [o] e:=by
  induction C generalizing h with
  | nil=>rfl
  | cons p r ih =>
    rw [List.cons_append,shGo,shGo]
    split
    · exact ih _
    · rfl
theorem hhO_of {C:List OpL} {hh:Nat→Nat} (H:HtO C hh):∀k,k≤C.length→shGo (C.take k) 0=some (hh k)
  | 0,_=>by rw [List.take_zero,H.zero];rfl
  | k+1,hk=>by
    obtain⟨h1,h2,h3⟩:=H.step k (by omega)
    rw [List.take_succ_eq_append_getElem (by omega),shGo_snoc,hhO_of H k (by omega),Option.bind_some,shGo,if_pos ⟨h1,h2⟩,shGo]
    congr 1;omega
theorem hhO_eq {C:List OpL} {hh:Nat→Nat} (H:HtO C hh) (k:Nat) (hk:k≤C.length):hhO C k=hh k:=by unfold hhO;rw [hhO_of H k hk];rfl
theorem shB_hts {C:List OpL} (h:shB C=true):HtO C (hhO C):=by
  obtain⟨hh,H⟩:=shB_heights h
  refine⟨?_,fun k hk=>?_,?_⟩
  · rw [hhO_eq H 0 (Nat.zero_le _)];exact H.zero
  · rw [hhO_eq H k (by omega),hhO_eq H (k+1) (by omega)];exact H.step k hk
  · rw [hhO_eq H _ (Nat.le_refl _)];exact H.last
def lastLow (hh:Nat→Nat) (t:Nat):Nat→Nat
  | 0=>0
  | p+1=>if hh (p+1)<t then p+1 else lastLow hh t p
theorem lastLow_of {hh:Nat→Nat} {t:Nat}:∀{i p:Nat},p≤i→hh p<t→(∀q,p<q→q≤i→t≤hh q)→lastLow hh t i=p
  | 0, p, h, _, _ => by have:p=0:=by omega
                        rw [this];rfl
  | i+1,p,h,h1,h2=>by
    rw [lastLow]
    by_cases hc:p=i+1
    · rw [←hc,if_pos h1]
    · rw [if_neg (by have:=h2 (i+1) (by omega) (Nat.le_refl _);omega)]
      exact lastLow_of (by omega) h1 (fun q a b=>h2 q a (by omega))
def fromC (C:List OpL) (i:Nat):Nat:=lastLow (hhO C) (hhO C (i+1)) i
theorem fromC_of {C:List OpL} {i p:Nat} (F:FromAt (hhO C) i p):fromC C i=p:=by
  unfold fromC
  exact lastLow_of F.le (by have:=F.at_;omega) (fun q a b=>F.up q a (by omega))
theorem fromC_at {C:List OpL} (h:shB C=true) {i:Nat} (hi:i<C.length):FromAt (hhO C) i (fromC C i):=by
  obtain⟨p,F⟩:=fromO_ex (shB_hts h) hi
  rw [fromC_of F];exact F
theorem fromC_le {C:List OpL} (h:shB C=true) {i:Nat} (hi:i<C.length):fromC C i≤i:=(fromC_at h hi).le
theorem need_ahead {C:List OpL} (h:shB C=true) {i:Nat} (hi:i<C.length) (hn:0<ndO C[i]):0<i:=by
  obtain⟨_,h2,_⟩:=(shB_hts h).step i hi
  rcases Nat.eq_zero_or_pos i with c|c
  · subst c
    rw [(shB_hts h).zero] at h2;omega
  · exact c
theorem second_ahead {C:List OpL} (h:shB C=true) {i:Nat} (hi:i+1<C.length) (hn:ndO C[i+1]=2):0<fromC C i:=by
  obtain⟨_,h2,_⟩:=(shB_hts h).step (i+1) hi
  have F:=fromC_at h (i:=i) (by omega)
  have h1:=F.at_
  rcases Nat.eq_zero_or_pos (fromC C i) with c|c
  · rw [c,(shB_hts h).zero] at h1;omega
  · exact c
def kindO (C:List OpL) (i:Nat):Int:=if h:i<C.length then C[i].k else 0
theorem kindO_at {C:List OpL} {i:Nat} (h:i<C.length):kindO C i=C[i].k:=by unfold kindO;rw [dif_pos h]
def innerB (C:List OpL) (p i:Nat):Bool:=(List.range i).any fun k=>decide (p≤k)&&decide (kindO C k=9)
def nestB (C:List OpL):Bool:=(List.range C.length).any fun i=>decide (kindO C i=9)&&innerB C (fromC C i) i
theorem nest_yes {C:List OpL} {i k:Nat} (hi:i<C.length) (h1:kindO C i=9) (h2:fromC C i≤k) (h3:k<i) (h4:kindO C k=9):nestB C=true:=by
  unfold nestB innerB
  rw [List.any_eq_true]
  refine⟨i,List.mem_range.2 hi,?_⟩
  rw [decide_eq_true h1,Bool.true_and,List.any_eq_true]
  exact⟨k,List.mem_range.2 h3,by rw [decide_eq_true h2,decide_eq_true h4];rfl⟩
def NestR (C:List OpL) (i:Nat):Prop:=∀j,j<i→kindO C j=9→∀k,fromC C j≤k→k<j→kindO C k≠9
theorem nest_start (C:List OpL):NestR C 0:=fun _ h=>absurd h (Nat.not_lt_zero _)
theorem nest_skip {C:List OpL} {i:Nat} (h:NestR C i) (h1:kindO C i≠9):NestR C (i+1):=fun j hj h9 k a b=>by
  by_cases hc:j=i
  · subst hc;exact absurd h9 h1
  · exact h j (by omega) h9 k a b
theorem nest_next {C:List OpL} {i:Nat} (h:NestR C i) (h1:∀k,fromC C i≤k→k<i→kindO C k≠9):NestR C (i+1):=fun j hj h9 k a b=>by
  by_cases hc:j=i
  · subst hc;exact h1 k a b
  · exact h j (by omega) h9 k a b
theorem nest_no {C:List OpL} {i:Nat} (h:NestR C i) (hi:C.length≤i):nestB C=false:=by
  cases hb:nestB C with
  | false=>rfl
  | true =>
    exfalso
    unfold nestB innerB at hb
    rw [List.any_eq_true] at hb
    obtain⟨j,h1,h2⟩:=hb
    rw [Bool.and_eq_true,List.any_eq_true] at h2
    obtain⟨h2,k,h3,h4⟩:=h2
    rw [Bool.and_eq_true] at h4
    exact h j (by have:=List.mem_range.1 h1;omega) (of_decide_eq_true h2) k (of_decide_eq_true h4.1) (List.mem_range.1 h3) (of_decide_eq_true h4.2)
def insL (x:List UInt8):List (List UInt8)→List (List UInt8)
  | []=>[x]
  | l::r=>if Op.bytesLess x l=true then x::l::r else l::insL x r
def moreO (L:List (List UInt8)) (x:List UInt8):List (List UInt8):=if x∈L then L else insL x L
def unionO (L:List (List UInt8)):List (List UInt8)→List (List UInt8)
  | []=>L
  | x::r=>unionO (moreO L x) r
def meetO (L M:List (List UInt8)):List (List UInt8):=L.filter fun x=>decide (x∈M)
theorem insL_length (x:List UInt8):∀L:List (List UInt8),(insL x L).length=L.length+1
  | []=>rfl
  | l::r=>by
    rw [insL]
    split
    · rfl
    · rw [List.length_cons,insL_length x r,List.length_cons]
theorem moreO_length (L:List (List UInt8)) (x:List UInt8):(moreO L x).length≤L.length+1:=by
  unfold moreO
  split
  · omega
  · rw [insL_length];omega
theorem unionO_length (L M:List (List UInt8)):(unionO L M).length≤L.length+M.length:=by
  induction M generalizing L with
  | nil=>simp [unionO]
  | cons x r ih=>have h1:=ih (moreO L x);have h2:=moreO_length L x;rw [unionO,List.length_cons];omega
theorem less_eq:∀(x y:List UInt8),Op.bytesLess x y=decide (x<y)
  | [],[]=>by simp [Op.bytesLess]
  | _::_,[]=>by simp [Op.bytesLess]
  | [],_::_=>by simp [Op.bytesLess]
  | a::x,b::y=>by
    rw [Op.bytesLess,less_eq x y]
    simp only [List.cons_lt_cons_iff]
    by_cases h1:a<b<;>by_cases h2:a=b<;>by_cases h3:x<y<;>simp [h1,h2,h3]
theorem less_self (x:List UInt8):Op.bytesLess x x=false:=by rw [less_eq];exact decide_eq_false (List.lt_irrefl x)
theorem less_trans {x y z:List UInt8} (h:Op.bytesLess x y=true) (k:Op.bytesLess y z=true):Op.bytesLess x z=true:=by
  rw [less_eq] at *
  exact decide_eq_true (List.lt_trans (of_decide_eq_true h) (of_decide_eq_true k))
theorem less_other {x y:List UInt8} (h:Op.bytesLess x y=false) (hne:x≠y):Op.bytesLess y x=true:=by
  rw [less_eq] at *
  have h1:y≤x:=List.not_lt.1 (of_decide_eq_false h)
  refine decide_eq_true ?_
  cases hd:decide (y<x) with
  | true=>exact of_decide_eq_true hd
  | false=>exact absurd (List.le_antisymm (List.not_lt.1 (of_decide_eq_false hd)) h1) hne
theorem less_ne {x y:List UInt8} (h:Op.bytesLess x y=true):x≠y:=fun e=>by rw [e,less_self] at h;cases h
def Rise (L:List (List UInt8)):Prop:=L.Pairwise fun x y=>Op.bytesLess x y=true
theorem rise_nil:Rise []:=List.Pairwise.nil
theorem Rise.nodup {L:List (List UInt8)} (h:Rise L):L.Nodup:=List.Pairwise.imp (fun h=>less_ne h) h
theorem mem_insL {x y:List UInt8}:∀{L:List (List UInt8)},y∈insL x L↔y=x∨y∈L
  | []=>by simp [insL]
  | l::r=>by
    rw [insL]
    split
    · simp
    · rw [List.mem_cons,mem_insL,List.mem_cons]
      constructor
      · rintro (h|h|h)
        · exact .inr (.inl h)
        · exact .inl h
        · exact .inr (.inr h)
      · rintro (h|h|h)
        · exact .inr (.inl h)
        · exact .inl h
        · exact .inr (.inr h)
theorem rise_insL {x:List UInt8}:∀{L:List (List UInt8)},Rise L→¬x∈L→Rise (insL x L)
  | [],_,_=>by simp [insL,Rise]
  | l::r,h,hx=>by
    obtain⟨h1,h2⟩:=List.pairwise_cons.1 h
    rw [insL]
    split
    · rename_i hl
      exact List.pairwise_cons.2 ⟨fun y hy=>by
        rcases List.mem_cons.1 hy with rfl|hy
        · exact hl
        · exact less_trans hl (h1 y hy),h⟩
    · rename_i hl
      refine List.pairwise_cons.2 ⟨fun y hy=>?_,rise_insL h2 (fun c=>hx (List.mem_cons_of_mem _ c))⟩
      rcases mem_insL.1 hy with rfl|hy
      · exact less_other (Bool.eq_false_iff.2 hl) (fun e=>hx (by rw [e];exact List.mem_cons_self))
      · exact h1 y hy
theorem mem_moreO {L:List (List UInt8)} {x y:List UInt8}:y∈moreO L x↔y=x∨y∈L:=by
  unfold moreO
  split
  · rename_i h
    exact⟨.inr,fun c=>c.elim (fun e=>by rw [e];exact h) id⟩
  · exact mem_insL
theorem rise_moreO {L:List (List UInt8)} (h:Rise L) (x:List UInt8):Rise (moreO L x):=by
  unfold moreO
  split
  · exact h
  · rename_i hx
    exact rise_insL h hx
theorem mem_unionO {L M:List (List UInt8)} {y:List UInt8}:y∈unionO L M↔y∈L∨y∈M:=by
  induction M generalizing L with
  | nil=>simp [unionO]
  | cons x r ih =>
    rw [unionO,ih,mem_moreO,List.mem_cons]
    constructor
    · rintro ((h|h)|h)
      · exact .inr (.inl h)
      · exact .inl h
      · exact .inr (.inr h)
    · rintro (h|h|h)
      · exact .inl (.inr h)
      · exact .inl (.inl h)
      · exact .inr h
theorem rise_unionO {L M:List (List UInt8)} (h:Rise L):Rise (unionO L M):=by
  induction M generalizing L with
  | nil=>exact h
  | cons x r ih=>rw [unionO];exact ih (rise_moreO h x)
theorem mem_meetO {L M:List (List UInt8)} {y:List UInt8}:y∈meetO L M↔y∈L∧y∈M:=by unfold meetO;rw [List.mem_filter,decide_eq_true_eq]
theorem rise_meetO {L M:List (List UInt8)} (h:Rise L):Rise (meetO L M):=List.Pairwise.filter _ h
theorem meetO_le (L M:List (List UInt8)):(meetO L M).length≤L.length:=List.length_filter_le _ _
theorem rise_one:∀{L M:List (List UInt8)},Rise L→Rise M→(∀x,x∈L↔x∈M)→L=M
  | [],[],_,_,_=>rfl
  | [],b::s,_,_,h=>by have:=(h b).2 List.mem_cons_self;simp at this
  | a::r,[],_,_,h=>by have:=(h a).1 List.mem_cons_self;simp at this
  | a::r,b::s,h1,h2,h=>by
    obtain⟨a1,a2⟩:=List.pairwise_cons.1 h1
    obtain⟨b1,b2⟩:=List.pairwise_cons.1 h2
    have hab:a=b:=by
      rcases List.mem_cons.1 ((h a).1 List.mem_cons_self) with e|ha
      · exact e
      · rcases List.mem_cons.1 ((h b).2 List.mem_cons_self) with e|hb
        · exact e.symm
        · exact absurd rfl (less_ne (less_trans (a1 b hb) (b1 a ha)))
    subst hab
    rw [rise_one a2 b2 (fun x=>⟨fun hp=>by
      rcases List.mem_cons.1 ((h x).1 (List.mem_cons_of_mem _ hp)) with e|hp'
      · exact absurd e.symm (less_ne (a1 x hp))
      · exact hp',fun hp=>by
      rcases List.mem_cons.1 ((h x).2 (List.mem_cons_of_mem _ hp)) with e|hp'
      · exact absurd e.symm (less_ne (b1 x hp))
      · exact hp'⟩)]
theorem rise_sorted {L:List (List UInt8)} (h:L.Nodup):Rise (L.mergeSort fun x y=>decide (x≤y)):=by
 (have tr:∀a b c:List UInt8,decide (a≤b)=true→decide (b≤c)=true→decide (a≤c)=true:=fun a b c h1 h2=>decide_eq_true (List.le_trans (of_decide_eq_true h1) (of_decide_eq_true h2)));have to:∀a b:List UInt8,(decide (a≤b)||decide (b≤a))=true:=fun a b=>by
  rcases List.le_total a b with h|h
  ·rw [decide_eq_true h];rfl
  ·rw [decide_eq_true h];simp
 (have hs:=List.pairwise_mergeSort (le:=fun x y:List UInt8=>decide (x≤y)) tr to L);(have hn:(L.mergeSort fun x y=>decide (x≤y)).Nodup:=(List.mergeSort_perm L _).nodup_iff.2 h);(refine List.Pairwise.imp₂ (fun a b h1 h2=>?_) hs hn);cases hb:Op.bytesLess a b with
 | true=>rfl
 | false =>
   rw [less_eq] at hb;exact absurd (List.le_antisymm (of_decide_eq_true h1) (List.not_lt.1 (of_decide_eq_false hb))) h2
theorem sorted_is {S L:List (List UInt8)} (h:S.Nodup) (hL:Rise L) (hm:∀x,x∈S↔x∈L):(S.mergeSort fun x y=>decide (x≤y))=L :=
  rise_one (rise_sorted h) hL (fun x=>by rw [(List.mergeSort_perm S _).mem_iff];exact hm x)
theorem perm_rise {S L:List (List UInt8)} (h:S.Nodup) (hL:Rise L) (hm:∀x,x∈S↔x∈L):S.Perm L:=(List.perm_ext_iff_of_nodup h hL.nodup).2 hm
end Go.Proofs.YtjpfoophipcglaaGreatDoor
