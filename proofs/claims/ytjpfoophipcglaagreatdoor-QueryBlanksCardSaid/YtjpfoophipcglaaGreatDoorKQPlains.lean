/- Queries in plain words. -/
import Derived.Test.YtjpfoophipcglaaGreatDoorKScopePlains
namespace Go.Proofs.YtjpfoophipcglaaGreatDoor
set_option maxRecDepth 100000
set_option maxHeartbeats 8000000
def kASK:List UInt8:=[65,83,75]
def kSELECT:List UInt8:=[83,69,76,69,67,84]
def kDISTINCT:List UInt8:=[68,73,83,84,73,78,67,84]
def kWHERE:List UInt8:=[87,72,69,82,69]
def kGROUP:List UInt8:=[71,82,79,85,80]
def kBY:List UInt8:=[66,89]
def kORDER:List UInt8:=[79,82,68,69,82]
def kLIMIT:List UInt8:=[76,73,77,73,84]
def kOFFSET:List UInt8:=[79,70,70,83,69,84]
def kAS:List UInt8:=[65,83]
def kCOUNT:List UInt8:=[67,79,85,78,84]
def kSUM:List UInt8:=[83,85,77]
def kMIN:List UInt8:=[77,73,78]
def kMAX:List UInt8:=[77,65,88]
def kASC:List UInt8:=[65,83,67]
def kDESC:List UInt8:=[68,69,83,67]
def kFILTER:List UInt8:=[70,73,76,84,69,82]
def kOPTIONAL:List UInt8:=[79,80,84,73,79,78,65,76]
def kMINUS:List UInt8:=[77,73,78,85,83]
def kBIND:List UInt8:=[66,73,78,68]
def kVALUES:List UInt8:=[86,65,76,85,69,83]
def kSERVICE:List UInt8:=[83,69,82,86,73,67,69]
def kSILENT:List UInt8:=[83,73,76,69,78,84]
def kUNION:List UInt8:=[85,78,73,79,78]
def kUNDEF:List UInt8:=[85,78,68,69,70]
def s_open:List UInt8:=[40]
def s_close:List UInt8:=[41]
def s_begin:List UInt8:=[123]
def s_end:List UInt8:=[125]
def s_stop:List UInt8:=[46]
def s_star:List UInt8:=[42]
def tokAt (L:List TokL) (a:Nat):TokL:=match L[a]? with|none=>noTok|some w=>w
def nextA (L:List TokL) (a:Nat):Nat:=min (a+1) L.length
def isW (L:List TokL) (a:Nat) (k:Int) (s:List UInt8):Bool:=decide (a<L.length)&&(decide ((tokAt L a).k=k)&&decide ((tokAt L a).x=s))
def stepA (b:Bool) (a:Nat):Nat:=bif b then a+1 else a
def isVar (t:TokL):Bool:=decide (t.k=2)&&nameL t.x
def isTrm (t:TokL):Bool:=decide (t.k=2)||decide (t.k=3)
def termOfM (t:TokL):TermL:=bif decide (t.k=2) then ⟨4,t.x,[],[]⟩ else t.t
def isDig (t:TokL):Bool:=decide (t.k=4)&&(decide (1≤t.x.length)&&decide (t.x.length≤9))
structure RG where
  ok:Bool
  a:Nat
  C:List OpL
  F:List (List PartL)
structure RF where
  ok:Bool
  a:Nat
  f:List PartL
structure RV (α:Type) where
  ok:Bool
  a:Nat
  l:List α
def opK (k:Int):OpL:=⟨k,[],[],[],[],[],false⟩
def basicOp (T:List TripL):OpL:=⟨1,T,[],[],[],[],false⟩
def tableOp (V:List (List UInt8)) (R:List (List TermL)):OpL:=⟨2,[],V,R,[],[],false⟩
def leftOp (F:List PartL):OpL:=⟨5,[],[],[],F,[],false⟩
def filterOp (F:List PartL):OpL:=⟨7,[],[],[],F,[],false⟩
def bindOp (F:List PartL) (x:List UInt8):OpL:=⟨8,[],[],[],F,x,false⟩
def serviceOp (x:List UInt8) (s:Bool):OpL:=⟨9,[],[],[],[],x,s⟩
def conjGo:Nat→List (List PartL)→List PartL
  | _,[]=>[]
  | i,f::r=>f++(if 0<i then [signPart 6] else [])++conjGo (i+1) r
def conjM (F:List (List PartL)):List PartL:=conjGo 0 F
def groundQ (there:Bool) (C:List OpL):List OpL:=bif there then C else C++[opK 1]
def joinQ (there:Bool) (C:List OpL):List OpL:=bif there then C++[opK 3] else C
def formM (L:List TokL) (a:Nat):RF :=
  match parseM L a with
  | none=>⟨false,a,[]⟩
  | some q=>if q.2.2=0 then ⟨true,q.2.1,q.1⟩ else ⟨false,a,[]⟩
def filterM (L:List TokL) (a:Nat):RF :=
  if isW L a 5 s_open=true then
    if (formM L (a+1)).ok=true then ⟨isW L (formM L (a+1)).a 5 s_close,stepA (isW L (formM L (a+1)).a 5 s_close) (formM L (a+1)).a,(formM L (a+1)).f⟩
    else ⟨false,a+1,[]⟩
  else ⟨false,a,[]⟩
def bindM (L:List TokL) (a:Nat) (C:List OpL):RG :=
  if isW L a 5 s_open=true then
    if (formM L (a+1)).ok=true then
      if isW L (formM L (a+1)).a 1 kAS=true then
        if isVar (tokAt L ((formM L (a+1)).a+1))=true then
          ⟨isW L (nextA L ((formM L (a+1)).a+1)) 5 s_close,stepA (isW L (nextA L ((formM L (a+1)).a+1)) 5 s_close) (nextA L ((formM L (a+1)).a+1)),C++[bindOp (formM L (a+1)).f (tokAt L ((formM L (a+1)).a+1)).x],[]⟩
        else ⟨false,nextA L ((formM L (a+1)).a+1),C++[bindOp (formM L (a+1)).f (tokAt L ((formM L (a+1)).a+1)).x],[]⟩
      else ⟨false,(formM L (a+1)).a,C,[]⟩
    else ⟨false,a+1,C,[]⟩
  else ⟨false,a,C,[]⟩
def tripAt (L:List TokL) (a:Nat):TripL:=⟨termOfM (tokAt L a),termOfM (tokAt L (a+1)),termOfM (tokAt L (a+2))⟩
def trip3 (L:List TokL) (a:Nat):Bool:=isTrm (tokAt L a)&&(isTrm (tokAt L (a+1))&&isTrm (tokAt L (a+2)))
def tripOk (L:List TokL) (a:Nat):Bool:=trip3 L a&&(isW L (a+3) 5 s_stop&&patB (tripAt L a))
def tripEnd (L:List TokL) (a:Nat):Nat :=
  if isTrm (tokAt L a)=true then if isTrm (tokAt L (a+1))=true then if isTrm (tokAt L (a+2))=true then stepA (isW L (a+3) 5 s_stop) (a+3) else a+2 else a+1 else a
def tripsM (L:List TokL):Nat→Nat→List TripL→RV TripL
  | 0,a,T=>⟨false,a,T⟩
  | f+1,a,T =>
    if tripOk L a=true then
      if isTrm (tokAt L (a+4))=true then tripsM L f (a+4) (T++[tripAt L a]) else ⟨true,a+4,T++[tripAt L a]⟩
    else ⟨false,tripEnd L a,T⟩
def basicM (L:List TokL) (a:Nat) (C:List OpL):RG :=
  if (tripsM L (L.length+1) a []).ok=true then ⟨true,(tripsM L (L.length+1) a []).a,C++[basicOp (tripsM L (L.length+1) a []).l],[]⟩
  else ⟨false,(tripsM L (L.length+1) a []).a,C,[]⟩
def namesM (L:List TokL):Nat→Nat→List (List UInt8)→RV (List UInt8)
  | 0,a,V=>⟨false,a,V⟩
  | f+1,a,V =>
    if isW L a 5 s_close=true then ⟨true,a+1,V⟩
    else if isVar (tokAt L a)=true then namesM L f (a+1) (V++[(tokAt L a).x]) else ⟨false,nextA L a,V⟩
def valOk (L:List TokL) (a:Nat):Bool:=isW L a 1 kUNDEF||(isTrm (tokAt L a)||isDig (tokAt L a))
def valAt (L:List TokL) (a:Nat):TermL:=if isW L a 1 kUNDEF=true then noTerm else if isTrm (tokAt L a)=true then termOfM (tokAt L a) else ⟨2,(tokAt L a).x,intT,[]⟩
def cellsM (L:List TokL):Nat→Nat→List TermL→RV TermL
  | 0,a,R=>⟨false,a,R⟩
  | f+1,a,R =>
    if isW L a 5 s_close=true then ⟨true,a+1,R⟩
    else if valOk L a=true then cellsM L f (a+1) (R++[valAt L a]) else ⟨false,nextA L a,R⟩
def rowM (L:List TokL) (a:Nat):RV TermL:=if isW L a 5 s_open=true then cellsM L (L.length+1) (a+1) [] else ⟨false,a,[]⟩
def rowsM (L:List TokL):Nat→Nat→List (List TermL)→RV (List TermL)
  | 0,a,R=>⟨false,a,R⟩
  | f+1,a,R =>
    if isW L a 5 s_end=true then ⟨true,a+1,R⟩
    else if (rowM L a).ok=true then rowsM L f (rowM L a).a (R++[(rowM L a).l]) else ⟨false,(rowM L a).a,R⟩
def valuesM (L:List TokL) (a:Nat) (C:List OpL):RG :=
  if isW L a 5 s_open=true then
    if (namesM L (L.length+1) (a+1) []).ok=true then
      if isW L (namesM L (L.length+1) (a+1) []).a 5 s_begin=true then
        if (rowsM L (L.length+1) ((namesM L (L.length+1) (a+1) []).a+1) []).ok=true then
          ⟨true,(rowsM L (L.length+1) ((namesM L (L.length+1) (a+1) []).a+1) []).a,C++[tableOp (namesM L (L.length+1) (a+1) []).l (rowsM L (L.length+1) ((namesM L (L.length+1) (a+1) []).a+1) []).l],[]⟩
        else ⟨false,(rowsM L (L.length+1) ((namesM L (L.length+1) (a+1) []).a+1) []).a,C,[]⟩
      else ⟨false,(namesM L (L.length+1) (a+1) []).a,C,[]⟩
    else ⟨false,(namesM L (L.length+1) (a+1) []).a,C,[]⟩
  else ⟨false,a,C,[]⟩
inductive GoalQ where
  | unf
  | elems (there:Bool) (F:List (List PartL))
  | more
def grpQ (r:RG):RG:=⟨r.ok,r.a,r.C++r.F.map filterOp,[]⟩
def layQ (r:RG) (o:OpL):RG:=⟨r.ok,r.a,r.C++[o],[]⟩
def serviceQ (rec:GoalQ→Nat→List OpL→RG) (L:List TokL) (a:Nat) (C:List OpL):RG :=
  if (tokAt L (stepA (isW L a 1 kSILENT) a)).k=3∧(tokAt L (stepA (isW L a 1 kSILENT) a)).t.k=1 then
    if (grpQ (rec .unf (stepA (isW L a 1 kSILENT) a+1) C)).ok=true then layQ (grpQ (rec .unf (stepA (isW L a 1 kSILENT) a+1) C)) (serviceOp (tokAt L (stepA (isW L a 1 kSILENT) a)).t.x (isW L a 1 kSILENT))
    else grpQ (rec .unf (stepA (isW L a 1 kSILENT) a+1) C)
  else ⟨false,nextA L (stepA (isW L a 1 kSILENT) a),C,[]⟩
def unionQ (rec:GoalQ→Nat→List OpL→RG) (a:Nat) (C:List OpL):RG :=
  if (grpQ (rec .unf a C)).ok=true then rec .more (grpQ (rec .unf a C)).a (grpQ (rec .unf a C)).C else grpQ (rec .unf a C)
def pieceQ (rec:GoalQ→Nat→List OpL→RG) (L:List TokL) (a:Nat) (C:List OpL):RG :=
  if isW L a 1 kVALUES=true then valuesM L (a+1) C
  else if isW L a 1 kSERVICE=true then serviceQ rec L (a+1) C
  else if isW L a 5 s_begin=true then unionQ rec a C
  else basicM L a C
def optionalQ (r:RG):RG:=⟨r.ok,r.a,r.C++[leftOp (conjM r.F)],[]⟩
def elemQ (rec:GoalQ→Nat→List OpL→RG) (L:List TokL) (there:Bool) (a:Nat) (C:List OpL):RG :=
  if isW L a 1 kOPTIONAL=true then optionalQ (rec .unf (a+1) (groundQ there C))
  else if isW L a 1 kMINUS=true then layQ (grpQ (rec .unf (a+1) (groundQ there C))) (opK 6)
  else if isW L a 1 kBIND=true then bindM L (a+1) (groundQ there C)
  else ⟨(pieceQ rec L a C).ok,(pieceQ rec L a C).a,joinQ there (pieceQ rec L a C).C,[]⟩
def runQ (L:List TokL):Nat→GoalQ→Nat→List OpL→RG
  | 0,_,_,C=>⟨false,L.length,C,[]⟩
  | f+1,.unf,a,C=>if isW L a 5 s_begin=true then runQ L f (.elems false []) (a+1) C else ⟨false,a,C++[opK 1],[]⟩
  | f+1,.elems there F,a,C =>
    if isW L a 5 s_end=true then ⟨true,a+1,groundQ there C,F⟩
    else if isW L a 1 kFILTER=true then
      if (filterM L (a+1)).ok=true then runQ L f (.elems there (F++[(filterM L (a+1)).f])) (filterM L (a+1)).a C
      else ⟨false,(filterM L (a+1)).a,groundQ there C,F++[(filterM L (a+1)).f]⟩
    else if (elemQ (runQ L f) L there a C).ok=true then runQ L f (.elems true F) (elemQ (runQ L f) L there a C).a (elemQ (runQ L f) L there a C).C
    else ⟨false,(elemQ (runQ L f) L there a C).a,(elemQ (runQ L f) L there a C).C,F⟩
  | f+1,.more,a,C =>
    if isW L a 1 kUNION=true then
      if (grpQ (runQ L f .unf (a+1) C)).ok=true then runQ L f .more (grpQ (runQ L f .unf (a+1) C)).a ((grpQ (runQ L f .unf (a+1) C)).C++[opK 4])
      else layQ (grpQ (runQ L f .unf (a+1) C)) (opK 4)
    else ⟨true,a,C,[]⟩
theorem isW_lt {L:List TokL} {a:Nat} {k:Int} {s:List UInt8} (h:isW L a k s=true):a<L.length:=by
  unfold isW at h
  simp only [Bool.and_eq_true,decide_eq_true_eq] at h
  exact h.1
theorem tokAt_lt {L:List TokL} {a:Nat} (h:(tokAt L a).k≠0):a<L.length:=by
  by_cases hc:a<L.length
  · exact hc
  · exact absurd (by unfold tokAt;rw [List.getElem?_eq_none (by omega)];rfl) h
theorem isTrm_lt {L:List TokL} {a:Nat} (h:isTrm (tokAt L a)=true):a<L.length:=tokAt_lt (fun c=>by unfold isTrm at h;rw [c] at h;simp at h)
theorem isVar_lt {L:List TokL} {a:Nat} (h:isVar (tokAt L a)=true):a<L.length:=tokAt_lt (fun c=>by unfold isVar at h;rw [c] at h;simp at h)
theorem isDig_lt {L:List TokL} {a:Nat} (h:isDig (tokAt L a)=true):a<L.length:=tokAt_lt (fun c=>by unfold isDig at h;rw [c] at h;simp at h)
theorem valOk_lt {L:List TokL} {a:Nat} (h:valOk L a=true):a<L.length:=by
  unfold valOk at h
  rcases Bool.or_eq_true_iff.1 h with h|h
  · exact isW_lt h
  · rcases Bool.or_eq_true_iff.1 h with h|h
    · exact isTrm_lt h
    · exact isDig_lt h
theorem nextA_at {L:List TokL} {a:Nat} (h:a<L.length):nextA L a=a+1:=by unfold nextA;omega
theorem nextA_le (L:List TokL) (a:Nat):nextA L a≤L.length:=by unfold nextA;omega
theorem nextA_ge {L:List TokL} {a:Nat} (h:a≤L.length):a≤nextA L a:=by unfold nextA;omega
theorem step_le {L:List TokL} {a:Nat} {k:Int} {s:List UInt8} (h:a≤L.length):stepA (isW L a k s) a≤L.length:=by
  cases hc:isW L a k s with
  | true=>have:=isW_lt hc;show a+1≤_;omega
  | false=>exact h
theorem step_ge (b:Bool) (a:Nat):a≤stepA b a:=by cases b<;>simp [stepA]
theorem form_most {L:List TokL} {a:Nat} (h:a≤L.length):a≤(formM L a).a∧(formM L a).a≤L.length∧(formM L a).f.length≤256:=by
 (unfold formM);split
 ·exact⟨Nat.le_refl _,h,Nat.zero_le _⟩
 ·rename_i q hq;(unfold parseM at hq);split at hq
  ·cases hq
  ·(obtain rfl:([],0,2)=q:=by simpa using hq);(rw [if_neg (by decide)]);exact⟨Nat.le_refl _,h,Nat.zero_le _⟩
  ·rename_i r hr;have hg:=run_goes L _ _ _ _ hr;split at hq
   ·(obtain rfl:([],0,3)=q:=by simpa using hq);(rw [if_neg (by decide)]);exact⟨Nat.le_refl _,h,Nat.zero_le _⟩
   ·rename_i h256;(obtain rfl:(r.2,r.1,0)=q:=by simpa using hq);rw [if_pos rfl];dsimp only at hg ⊢;exact⟨by have:=hg.1;omega,by have:=hg.2;omega,by omega⟩
theorem filter_most {L:List TokL} {a:Nat} (h:a≤L.length):a≤(filterM L a).a∧(filterM L a).a≤L.length∧(filterM L a).f.length≤256:=by
  unfold filterM
  split
  · rename_i h1
    have:=isW_lt h1
    obtain⟨f1,f2,f3⟩:=form_most (L:=L) (a:=a+1) (by omega)
    split
    · exact⟨by have:=step_ge (isW L (formM L (a+1)).a 5 s_close) (formM L (a+1)).a;dsimp only;omega,step_le f2,f3⟩
    · exact⟨by dsimp only;omega,by dsimp only;omega,Nat.zero_le _⟩
  · exact⟨Nat.le_refl _,h,Nat.zero_le _⟩
def Most (L:List TokL) (c:Nat) (a:Nat) (n:Nat) (r:RG):Prop:=a≤r.a∧r.a≤L.length∧r.C.length+r.F.length+6*a≤n+6*r.a+c
theorem Most.mono {L:List TokL} {c d a n:Nat} {r:RG} (h:Most L c a n r) (hd:c≤d):Most L d a n r:=⟨h.1,h.2.1,by have:=h.2.2;omega⟩
theorem bind_most {L:List TokL} {a:Nat} (C:List OpL) (h:a≤L.length):Most L 0 a (C.length+1) (bindM L a C)∧((bindM L a C).ok=true→a<(bindM L a C).a):=by
 (unfold bindM);split
 ·rename_i h1;have:=isW_lt h1;(obtain⟨f1,f2,f3⟩:=form_most (L:=L) (a:=a+1) (by omega));split
  ·split
   ·rename_i h3;have:=isW_lt h3;split
    ·rename_i h4;have h5:=isVar_lt h4;rw [nextA_at h5];have s1:=step_ge (isW L ((formM L (a+1)).a+1+1) 5 s_close) ((formM L (a+1)).a+1+1);(have s2:=step_le (L:=L) (a:=(formM L (a+1)).a+1+1) (k:=5) (s:=s_close) (by omega));(refine⟨⟨by dsimp only;omega,s2,?_⟩,fun _=>by dsimp only;omega⟩);simp only [List.length_append,List.length_singleton,List.length_nil];omega
    ·have s1:=nextA_le L ((formM L (a+1)).a+1);(have s2:=nextA_ge (L:=L) (a:=(formM L (a+1)).a+1) (by omega));(refine⟨⟨by dsimp only;omega,s1,?_⟩,fun hc=>by cases hc⟩);simp only [List.length_append,List.length_singleton,List.length_nil];omega
   ·exact⟨⟨by dsimp only;omega,by dsimp only;omega,by simp only [List.length_nil];omega⟩,fun hc=>by cases hc⟩
  ·exact⟨⟨by dsimp only;omega,by dsimp only;omega,by simp only [List.length_nil];omega⟩,fun hc=>by cases hc⟩
 ·exact⟨⟨Nat.le_refl _,h,by simp only [List.length_nil];omega⟩,fun hc=>by cases hc⟩
theorem tripOk_at {L:List TokL} {a:Nat} (h:tripOk L a=true):a+4≤L.length:=by
  unfold tripOk at h
  simp only [Bool.and_eq_true] at h
  have:=isW_lt h.2.1
  omega
theorem tripEnd_le {L:List TokL} {a:Nat} (h:a≤L.length):a≤tripEnd L a∧tripEnd L a≤L.length:=by
  unfold tripEnd
  split
  · rename_i h1
    have:=isTrm_lt h1
    split
    · rename_i h2
      have:=isTrm_lt h2
      split
      · rename_i h3
        have:=isTrm_lt h3
        exact⟨by have:=step_ge (isW L (a+3) 5 s_stop) (a+3);omega,step_le (by omega)⟩
      · omega
    · omega
  · omega
theorem trips_most {L:List TokL}:∀(f a:Nat) (T:List TripL),a≤L.length→a≤(tripsM L f a T).a∧(tripsM L f a T).a≤L.length∧((tripsM L f a T).ok=true→a<(tripsM L f a T).a)∧(tripsM L f a T).l.length+a≤T.length+(tripsM L f a T).a
  | 0,a,T,h=>⟨Nat.le_refl _,h,fun c=>(by cases c),Nat.le_refl _⟩
  | f+1,a,T,h=>by
    rw [tripsM]
    split
    · rename_i h1
      have h4:=tripOk_at h1
      split
      · have ih:=trips_most f (a+4) (T++[tripAt L a]) h4
        rw [List.length_append,List.length_singleton] at ih
        exact⟨by omega,by omega,fun _=>by omega,by omega⟩
      · refine⟨by dsimp only;omega,h4,fun _=>by dsimp only;omega,?_⟩
        simp only [List.length_append,List.length_singleton];omega
    · have:=tripEnd_le h
      exact⟨this.1,this.2,fun c=>(by cases c),by dsimp only;omega⟩
theorem basic_most {L:List TokL} {a:Nat} (C:List OpL) (h:a≤L.length):Most L 0 a C.length (basicM L a C)∧((basicM L a C).ok=true→a+1≤(basicM L a C).a∧(basicM L a C).C.length+1+6*a≤C.length+6*(basicM L a C).a):=by
  have t:=trips_most (L:=L) (L.length+1) a [] h
  unfold basicM
  split
  · rename_i h1
    have:=t.2.2.1 h1
    refine⟨⟨t.1,t.2.1,?_⟩,fun _=>⟨this,?_⟩⟩
    · simp only [List.length_append,List.length_singleton,List.length_nil];omega
    · simp only [List.length_append,List.length_singleton];omega
  · exact⟨⟨t.1,t.2.1,by simp only [List.length_nil];omega⟩,fun c=>by cases c⟩
theorem names_most {L:List TokL}:∀(f a:Nat) (V:List (List UInt8)),a≤L.length→a≤(namesM L f a V).a∧(namesM L f a V).a≤L.length∧(namesM L f a V).l.length+a≤V.length+(namesM L f a V).a
  | 0,a,T,h=>⟨Nat.le_refl _,h,Nat.le_refl _⟩
  | f+1,a,T,h=>by
    rw [namesM]
    split
    · rename_i h1
      have:=isW_lt h1
      exact⟨by dsimp only;omega,this,by dsimp only;omega⟩
    · split
      · rename_i h1
        have:=isVar_lt h1
        have ih:=names_most f (a+1) (T++[(tokAt L a).x]) this
        rw [List.length_append,List.length_singleton] at ih
        exact⟨by omega,by omega,by omega⟩
      · exact⟨nextA_ge h,nextA_le L a,by have:=nextA_ge h;dsimp only;omega⟩
theorem cells_most {L:List TokL}:∀(f a:Nat) (R:List TermL),a≤L.length→a≤(cellsM L f a R).a∧(cellsM L f a R).a≤L.length∧(cellsM L f a R).l.length+a≤R.length+(cellsM L f a R).a
  | 0,a,T,h=>⟨Nat.le_refl _,h,Nat.le_refl _⟩
  | f+1,a,T,h=>by
    rw [cellsM]
    split
    · rename_i h1
      have:=isW_lt h1
      exact⟨by dsimp only;omega,this,by dsimp only;omega⟩
    · split
      · rename_i h1
        have:=valOk_lt h1
        have ih:=cells_most f (a+1) (T++[valAt L a]) this
        rw [List.length_append,List.length_singleton] at ih
        exact⟨by omega,by omega,by omega⟩
      · exact⟨nextA_ge h,nextA_le L a,by have:=nextA_ge h;dsimp only;omega⟩
theorem row_most {L:List TokL} {a:Nat} (h:a≤L.length):a≤(rowM L a).a∧(rowM L a).a≤L.length∧((rowM L a).ok=true→a+1≤(rowM L a).a)∧(rowM L a).l.length≤L.length:=by
  unfold rowM
  split
  · rename_i h1
    have:=isW_lt h1
    have c:=cells_most (L:=L) (L.length+1) (a+1) [] this
    simp only [List.length_nil] at c
    exact⟨by omega,by omega,fun _=>by omega,by omega⟩
  · exact⟨Nat.le_refl _,h,fun c=>(by cases c),Nat.zero_le _⟩
theorem rows_most {L:List TokL}:∀(f a:Nat) (R:List (List TermL)),a≤L.length→a≤(rowsM L f a R).a∧(rowsM L f a R).a≤L.length∧(rowsM L f a R).l.length+a≤R.length+(rowsM L f a R).a
  | 0,a,T,h=>⟨Nat.le_refl _,h,Nat.le_refl _⟩
  | f+1,a,T,h=>by
    rw [rowsM]
    split
    · rename_i h1
      have:=isW_lt h1
      exact⟨by dsimp only;omega,this,by dsimp only;omega⟩
    · have r:=row_most h
      split
      · rename_i h1
        have:=r.2.2.1 h1
        have ih:=rows_most f (rowM L a).a (T++[(rowM L a).l]) r.2.1
        rw [List.length_append,List.length_singleton] at ih
        exact⟨by omega,by omega,by omega⟩
      · exact⟨r.1,r.2.1,by dsimp only;omega⟩
theorem values_most {L:List TokL} {a:Nat} (C:List OpL) (h:a≤L.length):Most L 0 a (C.length+1) (valuesM L a C):=by
 (unfold valuesM);split
 ·rename_i h1;have:=isW_lt h1;have n:=names_most (L:=L) (L.length+1) (a+1) [] this;split
  ·split
   ·rename_i h3;have:=isW_lt h3;have r:=rows_most (L:=L) (L.length+1) ((namesM L (L.length+1) (a+1) []).a+1) [] this;split
    ·(refine⟨by dsimp only;omega,r.2.1,?_⟩);simp only [List.length_append,List.length_singleton,List.length_nil];omega
    ·exact⟨by dsimp only;omega,r.2.1,by simp only [List.length_nil];omega⟩
   ·exact⟨by dsimp only;omega,n.2.1,by simp only [List.length_nil];omega⟩
  ·exact⟨by dsimp only;omega,n.2.1,by simp only [List.length_nil];omega⟩
 ·exact⟨Nat.le_refl _,h,by simp only [List.length_nil];omega⟩
theorem grp_most {L:List TokL} {c a n:Nat} {r:RG} (h:Most L c a n r):Most L c a n (grpQ r):=by
  refine⟨h.1,h.2.1,?_⟩
  have:=h.2.2
  simp only [grpQ,List.length_append,List.length_map,List.length_nil];omega
theorem lay_most {L:List TokL} {c a n:Nat} {r:RG} (o:OpL) (h:Most L c a n r) (hF:r.F=[]):Most L (c+1) a n (layQ r o):=by
  refine⟨h.1,h.2.1,?_⟩
  have:=h.2.2
  rw [hF] at this
  simp only [layQ,List.length_append,List.length_singleton,List.length_nil] at this ⊢;omega
theorem optional_most {L:List TokL} {c a n:Nat} {r:RG} (h:Most L c a n r):Most L (c+1) a n (optionalQ r):=by
  refine⟨h.1,h.2.1,?_⟩
  have:=h.2.2
  simp only [optionalQ,List.length_append,List.length_singleton,List.length_nil];omega
theorem ground_most (b:Bool) (C:List OpL):C.length≤(groundQ b C).length∧(groundQ b C).length≤C.length+1:=by cases b<;>simp [groundQ]
theorem join_most (b:Bool) (C:List OpL):(joinQ b C).length≤C.length+1:=by cases b<;>simp [joinQ]
structure MostR (L:List TokL) (rec:GoalQ→Nat→List OpL→RG):Prop where
  unf:∀a C,a≤L.length→Most L 1 a C.length (rec .unf a C)
  brace:∀a C,isW L a 5 s_begin=true→Most L 0 a C.length ⟨(rec .unf a C).ok,(rec .unf a C).a,(rec .unf a C).C++[opK 1,opK 1],(rec .unf a C).F⟩
  goes:∀a C,a≤L.length→(rec .unf a C).ok=true→a+1≤(rec .unf a C).a
  more:∀a C,a≤L.length→Most L 0 a C.length (rec .more a C)∧(rec .more a C).F=[]
theorem service_most {L:List TokL} {rec:GoalQ→Nat→List OpL→RG} (H:MostR L rec) {a:Nat} (C:List OpL) (h:a≤L.length):Most L 2 a C.length (serviceQ rec L a C)∧(serviceQ rec L a C).F=[]:=by
 have s1:=step_ge (isW L a 1 kSILENT) a;have s2:=step_le (L:=L) (a:=a) (k:=1) (s:=kSILENT) h;(unfold serviceQ);split
 ·rename_i h1;(have h2:=tokAt_lt (L:=L) (a:=stepA (isW L a 1 kSILENT) a) (by rw [h1.1];decide));(have hg:=grp_most (H.unf (stepA (isW L a 1 kSILENT) a+1) C (by omega)));split
  ·(have hl:=lay_most (serviceOp (tokAt L (stepA (isW L a 1 kSILENT) a)).t.x (isW L a 1 kSILENT)) hg rfl);exact⟨⟨by have:=hl.1;omega,hl.2.1,by have:=hl.2.2;omega⟩,rfl⟩
  ·exact⟨⟨by have:=hg.1;omega,hg.2.1,by have:=hg.2.2;omega⟩,rfl⟩
 ·(refine⟨⟨by have:=nextA_ge s2;dsimp only;omega,nextA_le _ _,?_⟩,rfl⟩);have:=nextA_ge s2;simp only [List.length_nil];omega
theorem union_most {L:List TokL} {rec:GoalQ→Nat→List OpL→RG} (H:MostR L rec) {a:Nat} (C:List OpL) (hb:isW L a 5 s_begin=true):Most L 0 a C.length ⟨(unionQ rec a C).ok,(unionQ rec a C).a,(unionQ rec a C).C++[opK 1,opK 1],[]⟩∧(unionQ rec a C).F=[]∧((unionQ rec a C).ok=true→a+1≤(unionQ rec a C).a):=by
 have h:=isW_lt hb;have hg:=H.brace a C hb;have ho:=H.goes a C (Nat.le_of_lt h);obtain⟨g1,g2,g3⟩:=hg;(simp only [List.length_append,List.length_cons,List.length_nil] at g1 g2 g3);(unfold unionQ);split
 ·rename_i h1;have hm:=H.more (grpQ (rec .unf a C)).a (grpQ (rec .unf a C)).C g2;obtain⟨⟨m1,m2,m3⟩,m4⟩:=hm;have h5:=ho h1;rw [m4] at m3;(simp only [grpQ,List.length_append,List.length_map,List.length_nil] at m1 m2 m3 g1 g2 g3 ⊢);(refine⟨⟨by dsimp only;omega,m2,?_⟩,m4,fun _=>by omega⟩);simp only [List.length_append,List.length_cons,List.length_nil];omega
 ·rename_i h1;(simp only [grpQ] at h1 ⊢);(refine⟨⟨g1,g2,?_⟩,by first|rfl|trivial,fun c=>absurd c h1⟩);simp only [List.length_append,List.length_map,List.length_cons,List.length_nil];omega
theorem piece_most {L:List TokL} {rec:GoalQ→Nat→List OpL→RG} (H:MostR L rec) {a:Nat} (C:List OpL) (h:a≤L.length):Most L 0 a C.length (pieceQ rec L a C)∧(pieceQ rec L a C).F=[]∧(((pieceQ rec L a C).ok=true)→a+1≤(pieceQ rec L a C).a∧(pieceQ rec L a C).C.length+1+6*a≤C.length+6*(pieceQ rec L a C).a):=by
 (unfold pieceQ);split
 ·rename_i h1;have:=isW_lt h1;(have hv:=values_most (L:=L) (a:=a+1) C (by omega));have hF:(valuesM L (a+1) C).F=[]:=by
   (unfold valuesM);(repeat' (split));all_goals rfl
  obtain⟨v1,v2,v3⟩:=hv;exact⟨⟨by omega,v2,by omega⟩,hF,fun _=>⟨by omega,by omega⟩⟩
 ·split
  ·rename_i h1;have:=isW_lt h1;(obtain⟨⟨v1,v2,v3⟩,hF⟩:=service_most H (a:=a+1) C (by omega));exact⟨⟨by omega,v2,by omega⟩,hF,fun _=>⟨by omega,by omega⟩⟩
  ·split
   ·rename_i h1;obtain⟨⟨v1,v2,v3⟩,hF,ho⟩:=union_most H C h1;(simp only [List.length_append,List.length_cons,List.length_nil] at v1 v2 v3);(refine⟨⟨v1,v2,?_⟩,hF,fun hc=>⟨ho hc,by omega⟩⟩);rw [hF,List.length_nil];omega
   ·obtain⟨⟨v1,v2,v3⟩,ho⟩:=basic_most C h;have hF:(basicM L a C).F=[]:=by
     (unfold basicM);split<;>rfl
    exact⟨⟨v1,v2,v3⟩,hF,ho⟩
theorem elem_most {L:List TokL} {rec:GoalQ→Nat→List OpL→RG} (H:MostR L rec) (there:Bool) {a:Nat} (C:List OpL) (h:a≤L.length):Most L 1 a C.length (elemQ rec L there a C)∧(elemQ rec L there a C).F=[]∧((elemQ rec L there a C).ok=true→a+1≤(elemQ rec L there a C).a∧(elemQ rec L there a C).C.length+6*a≤C.length+6*(elemQ rec L there a C).a):=by
 have hG:=ground_most there C;(unfold elemQ);split
 ·rename_i h1;have:=isW_lt h1;obtain⟨v1,v2,v3⟩:=optional_most (H.unf (a+1) (groundQ there C) this);(refine⟨⟨by omega,v2,by omega⟩,rfl,fun _=>⟨by omega,?_⟩⟩);simp only [optionalQ,List.length_nil] at v3 ⊢;omega
 ·split
  ·rename_i h1;have:=isW_lt h1;(obtain⟨v1,v2,v3⟩:=lay_most (opK 6) (grp_most (H.unf (a+1) (groundQ there C) this)) rfl);(refine⟨⟨by omega,v2,by omega⟩,rfl,fun _=>⟨by omega,?_⟩⟩);simp only [layQ,List.length_nil] at v3 ⊢;omega
  ·split
   ·rename_i h1;have:=isW_lt h1;obtain⟨⟨v1,v2,v3⟩,ho⟩:=bind_most (L:=L) (a:=a+1) (groundQ there C) this;have hF:(bindM L (a+1) (groundQ there C)).F=[]:=by
     (unfold bindM);(repeat' (split));all_goals rfl
    (refine⟨⟨by omega,v2,by omega⟩,hF,fun _=>⟨by omega,?_⟩⟩);rw [hF,List.length_nil] at v3;omega
   ·obtain⟨⟨v1,v2,v3⟩,hF,ho⟩:=piece_most H C h;have hj:=join_most there (pieceQ rec L a C).C;rw [hF,List.length_nil] at v3;(refine⟨⟨v1,v2,by simp only [List.length_nil];omega⟩,rfl,fun hc=>?_⟩);have:=ho hc;exact⟨this.1,by dsimp only;omega⟩
theorem run_most (L:List TokL):∀f,MostR L (runQ L f)∧∀there F a C,a≤L.length→Most L 2 a (C.length+F.length) (runQ L f (.elems there F) a C)∧((runQ L f (.elems there F) a C).ok=true→a+1≤(runQ L f (.elems there F) a C).a)
  | 0=>by
    refine⟨⟨fun a C h=>⟨h,Nat.le_refl _,by simp only [runQ,List.length_nil];omega⟩,fun a C hb=>?_,fun a C h hc=>(by cases hc),fun a C h=>⟨⟨h,Nat.le_refl _,by simp only [runQ,List.length_nil];omega⟩,rfl⟩⟩,fun there F a C h=>⟨⟨h,Nat.le_refl _,by simp only [runQ,List.length_nil];omega⟩,fun hc=>by cases hc⟩⟩
    have:=isW_lt hb
    exact⟨by simp only [runQ];omega,Nat.le_refl _,by simp only [runQ,List.length_nil,List.length_append,List.length_cons];omega⟩
  | f+1=>by
    obtain⟨H,HE⟩:=run_most L f
    refine⟨⟨fun a C h=>?_,fun a C hb=>?_,fun a C h hc=>?_,fun a C h=>?_⟩,fun there F a C h=>?_⟩
    · rw [runQ]
      split
      · rename_i h1
        have:=isW_lt h1
        obtain⟨e1,e2,e3⟩:=(HE false [] (a+1) C this).1
        rw [List.length_nil] at e3
        exact⟨by omega,e2,by omega⟩
      · exact⟨Nat.le_refl _,h,by simp only [List.length_append,List.length_singleton,List.length_nil];omega⟩
    · rw [runQ,if_pos hb]
      have:=isW_lt hb
      obtain⟨e1,e2,e3⟩:=(HE false [] (a+1) C this).1
      rw [List.length_nil] at e3
      exact⟨by dsimp only;omega,e2,by simp only [List.length_append,List.length_cons,List.length_nil];omega⟩
    · rw [runQ] at hc ⊢
      split at hc
      · rename_i h1
        have:=isW_lt h1
        rw [if_pos h1]
        have:=(HE false [] (a+1) C this).2 hc
        omega
      · cases hc
    · rw [runQ]
      split
      · rename_i h1
        have:=isW_lt h1
        obtain⟨g1,g2,g3⟩:=grp_most (H.unf (a+1) C this)
        have hgo:=H.goes (a+1) C this
        have hF:(grpQ (runQ L f .unf (a+1) C)).F=[]:=rfl
        rw [hF,List.length_nil] at g3
        split
        · rename_i h2
          have:=hgo h2
          obtain⟨⟨m1,m2,m3⟩,m4⟩:=H.more (grpQ (runQ L f .unf (a+1) C)).a ((grpQ (runQ L f .unf (a+1) C)).C++[opK 4]) g2
          rw [List.length_append,List.length_singleton] at m3
          exact⟨⟨by omega,m2,by omega⟩,m4⟩
        · obtain⟨l1,l2,l3⟩:=lay_most (opK 4) (grp_most (H.unf (a+1) C this)) rfl
          exact⟨⟨by omega,l2,by omega⟩,rfl⟩
      · exact⟨⟨Nat.le_refl _,h,by simp only [List.length_nil];omega⟩,rfl⟩
    · have hG:=ground_most there C
      rw [runQ]
      split
      · rename_i h1
        have:=isW_lt h1
        exact⟨⟨by dsimp only;omega,this,by dsimp only;omega⟩,fun _=>Nat.le_refl _⟩
      · split
        · rename_i h1
          have:=isW_lt h1
          obtain⟨f1,f2,f3⟩:=filter_most (L:=L) (a:=a+1) this
          split
          · obtain⟨⟨e1,e2,e3⟩,e4⟩:=HE there (F++[(filterM L (a+1)).f]) (filterM L (a+1)).a C f2
            rw [List.length_append,List.length_singleton] at e3
            exact⟨⟨by omega,e2,by omega⟩,fun hc=>by have:=e4 hc;omega⟩
          · refine⟨⟨by dsimp only;omega,f2,?_⟩,fun hc=>by cases hc⟩
            simp only [List.length_append,List.length_singleton];omega
        · obtain⟨⟨e1,e2,e3⟩,hF,e4⟩:=elem_most H there C h
          rw [hF,List.length_nil] at e3
          split
          · rename_i h2
            have h3:=e4 h2
            obtain⟨⟨r1,r2,r3⟩,r4⟩:=HE true F _ (elemQ (runQ L f) L there a C).C e2
            exact⟨⟨by omega,r2,by omega⟩,fun hc=>by have:=r4 hc;omega⟩
          · exact⟨⟨e1,e2,by dsimp only;omega⟩,fun hc=>by cases hc⟩
end Go.Proofs.YtjpfoophipcglaaGreatDoor
