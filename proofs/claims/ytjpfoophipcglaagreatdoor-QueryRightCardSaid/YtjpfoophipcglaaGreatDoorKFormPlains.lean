/- Formulas in plain words. -/
import Derived.Test.YtjpfoophipcglaaGreatDoorKLexPlains
import Derived.KernelRfl
namespace Go.Proofs.YtjpfoophipcglaaGreatDoor
set_option maxRecDepth 100000
set_option maxHeartbeats 8000000
structure PartL where
  k:Int
  t:TermL
  m:List UInt8
  c:Int
def noPart:PartL:=⟨0,noTerm,[],0⟩
def signPart (k:Int):PartL:=⟨k,noTerm,[],0⟩
def varPart (x:List UInt8):PartL:=⟨2,noTerm,x,0⟩
def PartL.cells (p:PartL):List Value:=[.int .i64 p.k,.int .i64 p.t.k,.string (bs p.t.x),.string (bs p.t.y),.string (bs p.t.z),.string (bs p.m),.int .i64 p.c]
def PartL.v (p:PartL):Value:=.agg #[.int .i64 p.k,.int .i64 p.t.k,.string (bs p.t.x),.string (bs p.t.y),.string (bs p.t.z),.string (bs p.m),.int .i64 p.c]
def partCells (l:List PartL):List Value:=l.flatMap PartL.cells
theorem PartL.cells_length (p:PartL):p.cells.length=7:=rfl
theorem partCells_length (l:List PartL):(partCells l).length=l.length*7:=by
  induction l with
  | nil=>rfl
  | cons t r ih=>unfold partCells at *;rw [List.flatMap_cons,List.length_append,ih,PartL.cells_length,List.length_cons];omega
theorem partCells_append (l r:List PartL):partCells (l++r)=partCells l++partCells r:=by unfold partCells;exact List.flatMap_append
theorem partCells_one (t:PartL):partCells [t]=t.cells:=by unfold partCells;simp
def marksL:List (List UInt8):=[[],[],[],[66,79,85,78,68],[33],[45],[38,38],[124,124],[61],[33,61],[60],[62],[60,61],[62,61],[43],[45],[42],[47],[83,84,82],[76,65,78,71],[68,65,84,65,84,89,80,69],[73,83,73,82,73],[73,83,76,73,84,69,82,65,76],[73,83,66,76,65,78,75],[83,65,77,69,84,69,82,77],[73,70],[67,79,65,76,69,83,67,69]]
def markN (k:Nat):List UInt8:=marksL.getD k []
def levelsL:List (Nat×Nat×Bool):=[(7,7,false),(6,6,false),(8,13,true),(14,15,false),(16,17,false)]
def lev (i:Nat):Nat×Nat×Bool:=levelsL.getD i (0,0,false)
def kindM (s:List UInt8):Nat→Nat→Nat
  | _,0=>0
  | a,c+1=>if markN a=s then a else kindM s (a+1) c
def signK (L:List TokL) (a f t:Nat):Nat :=
  match L[a]? with
  | none=>0
  | some w=>if w.k=5 then kindM w.x f (t+1-f) else 0
abbrev StL:=Nat×List PartL
theorem kindM_range (s:List UInt8):∀c a,kindM s a c=0∨(a≤kindM s a c∧kindM s a c<a+c):=by
  intro c
  induction c with
  | zero=>intro a;exact .inl rfl
  | succ c ih =>
    intro a
    unfold kindM
    split
    · exact .inr ⟨Nat.le_refl _,by omega⟩
    · rcases ih (a+1) with h|h
      · exact .inl h
      · exact .inr (by omega)
theorem signK_at {L:List TokL} {a f t:Nat} (h:a<L.length):signK L a f t=if (L[a]).k=5 then kindM (L[a]).x f (t+1-f) else 0:=by unfold signK;rw [List.getElem?_eq_getElem h]
theorem signK_le {L:List TokL} {a f t:Nat} (h:signK L a f t≠0):a<L.length∧f≤signK L a f t∧signK L a f t≤t:=by
  have ha:a<L.length:=by
    by_cases hc:a<L.length
    · exact hc
    · exact absurd (by unfold signK;rw [List.getElem?_eq_none (by omega)]) h
  refine⟨ha,?_⟩
  have e:signK L a f t=if (L[a]).k=5 then kindM (L[a]).x f (t+1-f) else 0:=by unfold signK;rw [List.getElem?_eq_getElem ha]
  rw [e] at h ⊢
  split at h
  · rename_i h5
    rw [if_pos h5]
    rcases kindM_range (L[a]).x (t+1-f) f with hz|hz
    · exact absurd hz h
    · omega
  · exact absurd rfl h
def Slack (q r:StL):Prop:=q.1+r.2.length≤r.1+q.2.length
theorem Slack.trans {q r s:StL} (h:Slack q r) (h2:Slack r s):Slack q s:=by unfold Slack at *;omega
theorem lev_most {i:Nat} (h:i<5):(lev i).2.1<27∧(lev i).1≤(lev i).2.1+1:=by
  rcases (by omega:i=0∨i=1∨i=2∨i=3∨i=4) with rfl|rfl|rfl|rfl|rfl<;>decide
def needK (k:Int):Int:=if k=1∨k=2∨k=3 then 0 else if k=4∨k=5∨(18≤k∧k≤23) then 1 else if (6≤k∧k≤17)∨k=24 then 2 else if k=25 then 3 else -1
def coalN (c:Int):Int:=if 1≤c∧c≤16 then c else -1
def needM (p:PartL):Int:=if p.k=26 then coalN p.c else if p.c=0 then needK p.k else -1
def zeroT (t:TermL):Bool:=decide (t.k=0)&&t.x.isEmpty&&t.y.isEmpty&&t.z.isEmpty
def valueT (t:TermL):Bool:=(decide (t.k=1)||decide (t.k=2))&&rightL t.k t.x t.y t.z
def rightM (p:PartL):Bool:=if p.k=1 then valueT p.t&&p.m.isEmpty else if p.k=2∨p.k=3 then nameL p.m&&zeroT p.t else p.m.isEmpty&&zeroT p.t
def goodM (p:PartL):Bool:=decide (0≤needM p)&&rightM p
def nd (p:PartL):Nat:=(needM p).toNat
def chkGo:List PartL→Nat→Option Nat
  | [],h=>some h
  | p::r,h=>if goodM p=true∧nd p≤h then chkGo r (h-nd p+1) else none
def chkE (L:List PartL):Int:=if 256<L.length then 3 else if chkGo L 0=some 1 then 0 else 2
theorem chk_step {p:PartL} {r:List PartL} {h:Nat} (hp:goodM p=true) (hn:nd p≤h):chkGo (p::r) h=chkGo r (h-nd p+1):=by rw [chkGo,if_pos ⟨hp,hn⟩]
theorem chk_stop {p:PartL} {r:List PartL} {h:Nat} (hp:¬(goodM p=true∧nd p≤h)):chkGo (p::r) h=none:=by rw [chkGo,if_neg hp]
structure FromAt (hh:Nat→Nat) (i p:Nat):Prop where
  le:p≤i
  at_:hh p+1=hh (i+1)
  up:∀q,p<q→q≤i+1→hh (i+1)≤hh q
abbrev FResL:=Option (Option StL)
inductive Goal where
  | chain (n:Nat)
  | gather (i:Nat)
  | signed
  | args (kind n:Nat)
def bindR (x:FResL) (f:StL→FResL):FResL :=
  match x with
  | none=>none
  | some none=>some none
  | some (some q)=>f q
def okR (q:StL):FResL:=some (some q)
def failR:FResL:=some none
def putR (q:StL) (p:PartL):StL:=(q.1,q.2++[p])
def isSign (L:List TokL) (a:Nat) (s:List UInt8):Bool :=
  match L[a]? with
  | none=>false
  | some w=>decide (w.k=5)&&decide (w.x=s)
def openS:List UInt8:=[40]
def closeS:List UInt8:=[41]
def commaS:List UInt8:=[44]
def trueS:List UInt8:=[84,82,85,69]
def falseS:List UInt8:=[70,65,76,83,69]
def intT:List UInt8:=[104,116,116,112,58,47,47,119,119,119,46,119,51,46,111,114,103,47,50,48,48,49,47,88,77,76,83,99,104,101,109,97,35,105,110,116,101,103,101,114]
def boolT:List UInt8:=[104,116,116,112,58,47,47,119,119,119,46,119,51,46,111,114,103,47,50,48,48,49,47,88,77,76,83,99,104,101,109,97,35,98,111,111,108,101,97,110]
def valPart (t:TermL):PartL:=⟨1,t,[],0⟩
def boundPart (x:List UInt8):PartL:=⟨3,noTerm,x,0⟩
def funPart (kind n:Nat):PartL:=⟨kind,noTerm,[],if kind=26 then n else 0⟩
def wordM (rec:Goal→StL→FResL) (L:List TokL) (s:List UInt8) (q:StL):FResL :=
  if s=trueS then okR (putR q (valPart ⟨2,[116,114,117,101],boolT,[]⟩))
  else if s=falseS then okR (putR q (valPart ⟨2,[102,97,108,115,101],boolT,[]⟩))
  else if s=markN 3 then
    if isSign L q.1 openS=true then
      match L[q.1+1]? with
      | none=>failR
      | some w=>if w.k=2∧nameL w.x=true∧isSign L (q.1+2) closeS=true then okR (q.1+3,q.2++[boundPart w.x]) else failR
    else failR
  else if kindM s 18 9=0 then failR
  else if isSign L q.1 openS=true then rec (.args (kindM s 18 9) 0) (q.1+1,q.2)
  else failR
def simpleM (rec:Goal→StL→FResL) (L:List TokL) (q:StL):FResL :=
  match L[q.1]? with
  | none=>failR
  | some w =>
    if w.k=5 then
      if w.x=openS then bindR (rec (.chain 0) (q.1+1,q.2)) fun r=>if isSign L r.1 closeS=true then okR (r.1+1,r.2) else failR
      else failR
    else if w.k=2 then (if nameL w.x=true then okR (q.1+1,q.2++[varPart w.x]) else failR)
    else if w.k=3 then (if valueT w.t=true then okR (q.1+1,q.2++[valPart w.t]) else failR)
    else if w.k=4 then okR (q.1+1,q.2++[valPart ⟨2,w.x,intT,[]⟩])
    else if w.k=1 then wordM rec L w.x (q.1+1,q.2)
    else failR
def levsR (gath:Nat→StL→FResL) (n:Nat):Nat→StL→FResL
  | 0,q=>okR q
  | k+1,q=>bindR (gath (n+k) q) (levsR gath n k)
def argsEnd (L:List TokL) (kind n:Nat) (q:StL):FResL :=
  if needM (funPart kind n)=(n:Int)∧isSign L q.1 closeS=true then okR (q.1+1,q.2++[funPart kind n]) else failR
def runM (L:List TokL):Nat→Goal→StL→FResL
  | 0,_,_=>none
  | f+1,.chain n,q=>bindR (runM L f .signed q) (levsR (fun i=>runM L f (.gather i)) n (5-n))
  | f+1,.gather i,q =>
    if signK L q.1 (lev i).1 (lev i).2.1=0 then okR q
    else bindR (runM L f (.chain (i+1)) (q.1+1,q.2)) fun r =>
      if (lev i).2.2=true then okR (putR r (signPart (signK L q.1 (lev i).1 (lev i).2.1)))
      else runM L f (.gather i) (putR r (signPart (signK L q.1 (lev i).1 (lev i).2.1)))
  | f+1,.signed,q =>
    if signK L q.1 4 5=0 then simpleM (runM L f) L q
    else bindR (runM L f .signed (q.1+1,q.2)) fun r=>okR (putR r (signPart (signK L q.1 4 5)))
  | f+1,.args kind n,q =>
    bindR (runM L f (.chain 0) q) fun r =>
      if isSign L r.1 commaS=true then runM L f (.args kind (n+1)) (r.1+1,r.2) else argsEnd L kind (n+1) r
def parseM (L:List TokL) (a:Nat):Option (List PartL×Nat×Int) :=
  match runM L (8*L.length+16) (.chain 0) (a,[]) with
  | none=>none
  | some none=>some ([],0,2)
  | some (some q)=>if 256<q.2.length then some ([],0,3) else some (q.2,q.1,0)
theorem bindR_some {x:FResL} {f:StL→FResL} {r:Option StL} (h:bindR x f=some r):(x=some none∧r=none)∨∃q,x=some (some q)∧f q=some r:=by
  match x,h with
  | some none,h=>simp [bindR] at h;exact .inl ⟨rfl,h.symm⟩
  | some (some q),h=>exact .inr ⟨q,rfl,h⟩
theorem isSign_lt {L:List TokL} {a:Nat} {s:List UInt8} (h:isSign L a s=true):a<L.length:=by
  by_cases hc:a<L.length
  · exact hc
  · exact absurd h (by unfold isSign;rw [List.getElem?_eq_none (by omega)];simp)
theorem isSign_at {L:List TokL} {a:Nat} {s:List UInt8} (h:a<L.length):isSign L a s=(decide ((L[a]).k=5)&&decide ((L[a]).x=s)):=by unfold isSign;rw [List.getElem?_eq_getElem h]
theorem slack_put {q r:StL} {p:PartL} (h:q.1+r.2.length+1≤r.1+q.2.length):Slack q (putR r p):=by
  unfold Slack putR
  dsimp only
  rw [List.length_append,List.length_singleton];omega
theorem word_slack {rec:Goal→StL→FResL} (hr:∀g q r,rec g q=some (some r)→Slack q r) {L:List TokL} {s:List UInt8} {q r:StL} (h:wordM rec L s q=some (some r)):q.1+r.2.length≤r.1+q.2.length+1:=by
 (unfold wordM at h);split at h
 ·simp only [okR,Option.some.injEq] at h;subst h;unfold putR;dsimp only;rw [List.length_append,List.length_singleton];omega
 ·split at h
  ·simp only [okR,Option.some.injEq] at h;subst h;unfold putR;dsimp only;rw [List.length_append,List.length_singleton];omega
  ·split at h
   ·split at h
    ·split at h
     ·simp [failR] at h
     ·split at h
      ·simp only [okR,Option.some.injEq] at h;subst h;dsimp only;rw [List.length_append,List.length_singleton];omega
      ·simp [failR] at h
    ·simp [failR] at h
   ·split at h
    ·simp [failR] at h
    ·split at h
     ·have:=hr _ _ _ h;(unfold Slack at this);dsimp only at this;omega
     ·simp [failR] at h
theorem simple_slack {rec:Goal→StL→FResL} (hr:∀g q r,rec g q=some (some r)→Slack q r) {L:List TokL} {q r:StL} (h:simpleM rec L q=some (some r)):Slack q r:=by
 (unfold simpleM at h);split at h
 ·simp [failR] at h
 ·split at h
  ·split at h
   ·rcases bindR_some h with ⟨_,h1⟩|⟨s,h1,h2⟩
    ·cases h1
    ·split at h2
     ·(simp only [okR,Option.some.injEq] at h2;subst h2);have:=hr _ _ _ h1;(unfold Slack at this ⊢);dsimp only at this ⊢;omega
     ·simp [failR] at h2
   ·simp [failR] at h
  ·split at h
   ·split at h
    ·simp only [okR,Option.some.injEq] at h;subst h;unfold Slack;dsimp only;rw [List.length_append,List.length_singleton];omega
    ·simp [failR] at h
   ·split at h
    ·split at h
     ·simp only [okR,Option.some.injEq] at h;subst h;unfold Slack;dsimp only;rw [List.length_append,List.length_singleton];omega
     ·simp [failR] at h
    ·split at h
     ·simp only [okR,Option.some.injEq] at h;subst h;unfold Slack;dsimp only;rw [List.length_append,List.length_singleton];omega
     ·split at h
      ·have:=word_slack hr h;(unfold Slack);dsimp only at this;omega
      ·simp [failR] at h
theorem levsR_slack {gath:Nat→StL→FResL} (hg:∀i q r,gath i q=some (some r)→Slack q r) (n:Nat):∀k q r,levsR gath n k q=some (some r)→Slack q r
  | 0,q,r,h=>by simp only [levsR,okR,Option.some.injEq] at h;subst h;unfold Slack;omega
  | k+1,q,r,h=>by
    rw [levsR] at h
    rcases bindR_some h with ⟨_,h1⟩|⟨s,h1,h2⟩
    · cases h1
    · exact (hg _ _ _ h1).trans (levsR_slack hg n k _ _ h2)
theorem run_slack (L:List TokL):∀f g q r,runM L f g q=some (some r)→Slack q r
  | 0,_,_,_,h=>by cases h
  | f+1,.chain n,q,r,h=>by
    rw [runM] at h
    rcases bindR_some h with ⟨_,h1⟩|⟨s,h1,h2⟩
    · cases h1
    · exact (run_slack L f _ _ _ h1).trans (levsR_slack (fun i=>run_slack L f _) n _ _ _ h2)
  | f+1,.gather i,q,r,h=>by
    rw [runM] at h
    split at h
    · simp only [okR,Option.some.injEq] at h;subst h;unfold Slack;omega
    · rcases bindR_some h with ⟨_,h1⟩|⟨s,h1,h2⟩
      · cases h1
      · have h3:=run_slack L f _ _ _ h1
        unfold Slack at h3
        dsimp only at h3
        split at h2
        · simp only [okR,Option.some.injEq] at h2;subst h2
          exact slack_put (by omega)
        · exact (slack_put (by omega)).trans (run_slack L f _ _ _ h2)
  | f+1,.signed,q,r,h=>by
    rw [runM] at h
    split at h
    · exact simple_slack (fun g q r=>run_slack L f g q r) h
    · rcases bindR_some h with ⟨_,h1⟩|⟨s,h1,h2⟩
      · cases h1
      · have h3:=run_slack L f _ _ _ h1
        unfold Slack at h3
        dsimp only at h3
        simp only [okR,Option.some.injEq] at h2;subst h2
        exact slack_put (by omega)
  | f+1,.args kind n,q,r,h=>by
    rw [runM] at h
    rcases bindR_some h with ⟨_,h1⟩|⟨s,h1,h2⟩
    · cases h1
    · have h3:=run_slack L f _ _ _ h1
      split at h2
      · have h4:=run_slack L f _ _ _ h2
        unfold Slack at h3 h4 ⊢
        dsimp only at h4
        omega
      · unfold argsEnd at h2
        split at h2
        · simp only [okR,Option.some.injEq] at h2;subst h2
          unfold Slack at h3 ⊢
          dsimp only
          rw [List.length_append,List.length_singleton];omega
        · simp [failR] at h2
def Goes (L:List TokL) (q r:StL):Prop:=q.1≤r.1∧(q.1≤L.length→r.1≤L.length)
theorem Goes.trans {L:List TokL} {q r s:StL} (h:Goes L q r) (h2:Goes L r s):Goes L q s:=⟨Nat.le_trans h.1 h2.1,fun h0=>h2.2 (h.2 h0)⟩
theorem goes_same {L:List TokL} (q:StL):Goes L q q:=⟨Nat.le_refl _,fun h=>h⟩
theorem goes_at {L:List TokL} {q r:StL} (h:q.1≤r.1) (h2:r.1≤L.length):Goes L q r:=⟨h,fun _=>h2⟩
theorem word_goes {rec:Goal→StL→FResL} {L:List TokL} (hr:∀g q r,rec g q=some (some r)→Goes L q r) {s:List UInt8} {q r:StL} (h:wordM rec L s q=some (some r)):Goes L q r:=by
 (unfold wordM at h);split at h
 ·simp only [okR,Option.some.injEq] at h;subst h;exact goes_same (L:=L) q
 ·split at h
  ·simp only [okR,Option.some.injEq] at h;subst h;exact goes_same (L:=L) q
  ·split at h
   ·split at h
    ·split at h
     ·simp [failR] at h
     ·split at h
      ·rename_i hc;(simp only [okR,Option.some.injEq] at h;subst h);have:=isSign_lt hc.2.2;exact goes_at (by dsimp only;omega) (by dsimp only;omega)
      ·simp [failR] at h
    ·simp [failR] at h
   ·split at h
    ·simp [failR] at h
    ·split at h
     ·rename_i hc;have:=isSign_lt hc;exact (goes_at (L:=L) (q:=q) (r:=(q.1+1,q.2)) (by dsimp only;omega) (by dsimp only;omega)).trans (hr _ _ _ h)
     ·simp [failR] at h
theorem simple_goes {rec:Goal→StL→FResL} {L:List TokL} (hr:∀g q r,rec g q=some (some r)→Goes L q r) {q r:StL} (h:simpleM rec L q=some (some r)):Goes L q r:=by
 by_cases ha:q.1<L.length
 ·(have hstep:Goes L q (q.1+1,q.2):=goes_at (by dsimp only;omega) (by dsimp only;omega));(have hput:∀P:List PartL,Goes L q (q.1+1,P):=fun P=>goes_at (by dsimp only;omega) (by dsimp only;omega));(unfold simpleM at h);rw [List.getElem?_eq_getElem ha] at h;(simp only at h);split at h
  ·split at h
   ·rcases bindR_some h with ⟨_,h1⟩|⟨s,h1,h2⟩
    ·cases h1
    ·split at h2
     ·rename_i hc;(simp only [okR,Option.some.injEq] at h2;subst h2);have h3:=hstep.trans (hr _ _ _ h1);have:=isSign_lt hc;exact h3.trans (goes_at (by dsimp only;omega) (by dsimp only;omega))
     ·simp [failR] at h2
   ·simp [failR] at h
  ·split at h
   ·split at h
    ·simp only [okR,Option.some.injEq] at h;subst h;exact hput _
    ·simp [failR] at h
   ·split at h
    ·split at h
     ·simp only [okR,Option.some.injEq] at h;subst h;exact hput _
     ·simp [failR] at h
    ·split at h
     ·simp only [okR,Option.some.injEq] at h;subst h;exact hput _
     ·split at h
      ·exact hstep.trans (word_goes hr h)
      ·simp [failR] at h
 ·(unfold simpleM at h);(rw [List.getElem?_eq_none (by omega)] at h);simp [failR] at h
theorem levsR_goes {L:List TokL} {gath:Nat→StL→FResL} (hg:∀i q r,gath i q=some (some r)→Goes L q r) (n:Nat):∀k q r,levsR gath n k q=some (some r)→Goes L q r
  | 0,q,r,h=>by simp only [levsR,okR,Option.some.injEq] at h;subst h;exact goes_same _
  | k+1,q,r,h=>by
    rw [levsR] at h
    rcases bindR_some h with ⟨_,h1⟩|⟨s,h1,h2⟩
    · cases h1
    · exact (hg _ _ _ h1).trans (levsR_goes hg n k _ _ h2)
theorem goes_sign {L:List TokL} {q:StL} {f t:Nat} (h:signK L q.1 f t≠0):Goes L q (q.1+1,q.2):=by
  have:=(signK_le h).1
  exact goes_at (by dsimp only;omega) (by dsimp only;omega)
theorem goes_put {L:List TokL} {q r:StL} (p:PartL) (h:Goes L q r):Goes L q (putR r p):=h
theorem run_goes (L:List TokL):∀f g q r,runM L f g q=some (some r)→Goes L q r
  | 0,_,_,_,h=>by cases h
  | f+1,.chain n,q,r,h=>by
    rw [runM] at h
    rcases bindR_some h with ⟨_,h1⟩|⟨s,h1,h2⟩
    · cases h1
    · exact (run_goes L f _ _ _ h1).trans (levsR_goes (fun i=>run_goes L f _) n _ _ _ h2)
  | f+1,.gather i,q,r,h=>by
    rw [runM] at h
    split at h
    · simp only [okR,Option.some.injEq] at h;subst h;exact goes_same _
    · rename_i hc
      rcases bindR_some h with ⟨_,h1⟩|⟨s,h1,h2⟩
      · cases h1
      · have h3:=(goes_sign hc).trans (run_goes L f _ _ _ h1)
        split at h2
        · simp only [okR,Option.some.injEq] at h2;subst h2
          exact goes_put _ h3
        · exact (goes_put _ h3).trans (run_goes L f _ _ _ h2)
  | f+1,.signed,q,r,h=>by
    rw [runM] at h
    split at h
    · exact simple_goes (fun g q r=>run_goes L f g q r) h
    · rename_i hc
      rcases bindR_some h with ⟨_,h1⟩|⟨s,h1,h2⟩
      · cases h1
      · simp only [okR,Option.some.injEq] at h2;subst h2
        exact goes_put _ ((goes_sign hc).trans (run_goes L f _ _ _ h1))
  | f+1,.args kind n,q,r,h=>by
    rw [runM] at h
    rcases bindR_some h with ⟨_,h1⟩|⟨s,h1,h2⟩
    · cases h1
    · have h3:=run_goes L f _ _ _ h1
      split at h2
      · rename_i hc
        have:=isSign_lt hc
        exact h3.trans ((goes_at (L:=L) (q:=s) (r:=(s.1+1,s.2)) (by dsimp only;omega) (by dsimp only;omega)).trans (run_goes L f _ _ _ h2))
      · unfold argsEnd at h2
        split at h2
        · rename_i hc
          have:=isSign_lt hc.2
          simp only [okR,Option.some.injEq] at h2;subst h2
          exact h3.trans (goes_at (by dsimp only;omega) (by dsimp only;omega))
        · simp [failR] at h2
def fuelN:Goal→Nat→Nat
  | .signed,t=>4*t+1
  | .chain _,t=>4*t+2
  | .gather _,t=>4*t+1
  | .args _ _,t=>4*t+3
theorem bindR_ne {x:FResL} {f:StL→FResL} (hx:x≠none) (hf:∀q,x=some (some q)→f q≠none):bindR x f≠none:=by
  match x,hx,hf with
  | none,hx,_=>exact absurd rfl hx
  | some none,_,_=>simp [bindR]
  | some (some q),_,hf=>exact hf q rfl
theorem ite_ne {α:Type} {c:Prop} [Decidable c] {x y z:α} (h1:c→x≠z) (h2:¬c→y≠z):(if c then x else y)≠z:=by
  split
  · rename_i h;exact h1 h
  · rename_i h;exact h2 h
theorem ok_ne (q:StL):okR q≠none:=by simp [okR]
theorem fail_ne:failR≠none:=by simp [failR]
theorem levsR_ne {L:List TokL} {gath:Nat→StL→FResL} (hgo:∀i q r,gath i q=some (some r)→Goes L q r) (a:Nat) (hg:∀i q,a≤q.1→q.1≤L.length→gath i q≠none) (n:Nat):∀k q,a≤q.1→q.1≤L.length→levsR gath n k q≠none
  | 0,q,_,_=>ok_ne q
  | k+1,q,h1,h2=>by
    rw [levsR]
    exact bindR_ne (hg _ _ h1 h2) fun r hr=>levsR_ne hgo a hg n k r (Nat.le_trans h1 (hgo _ _ _ hr).1) ((hgo _ _ _ hr).2 h2)
theorem run_ne (L:List TokL):∀f g q,q.1≤L.length→fuelN g (L.length-q.1)≤f→runM L f g q≠none
  | 0,g,q,_,h=>by cases g<;>simp [fuelN] at h
  | f+1,.chain n,q,hq,h=>by
    rw [runM]
    simp only [fuelN] at h
    refine bindR_ne (run_ne L f _ _ hq (by simp only [fuelN];omega)) fun r hr=>?_
    have hg:=run_goes L f _ _ _ hr
    exact levsR_ne (fun i=>run_goes L f _) r.1 (fun i s h1 h2=>run_ne L f _ s h2 (by have:=hg.1;simp only [fuelN];omega)) n _ r (Nat.le_refl _) (hg.2 hq)
  | f+1,.gather i,q,hq,h=>by
    rw [runM]
    simp only [fuelN] at h
    refine ite_ne (fun _=>ok_ne _) fun hc=>?_
    have hlt:=(signK_le hc).1
    refine bindR_ne (run_ne L f _ _ (by dsimp only;omega) (by simp only [fuelN];omega)) fun r hr=>?_
    have hg:=run_goes L f _ _ _ hr
    have h1:=hg.1
    have h2:=hg.2 (by dsimp only;omega)
    dsimp only at h1
    refine ite_ne (fun _=>ok_ne _) fun _=>?_
    exact run_ne L f _ _ h2 (by simp only [fuelN,putR];omega)
  | f+1,.signed,q,hq,h=>by
    rw [runM]
    simp only [fuelN] at h
    refine ite_ne (fun _=>?_) fun hc=>?_
    · by_cases ha:q.1<L.length
      · unfold simpleM
        rw [List.getElem?_eq_getElem ha]
        simp only
        refine ite_ne (fun _=>ite_ne (fun _=>?_) (fun _=>fail_ne)) (fun _=>ite_ne (fun _=>ite_ne (fun _=>ok_ne _) (fun _=>fail_ne)) (fun _=>ite_ne (fun _=>ite_ne (fun _=>ok_ne _) (fun _=>fail_ne)) (fun _=>ite_ne (fun _=>ok_ne _) (fun _=>ite_ne (fun _=>?_) (fun _=>fail_ne)))))
        · exact bindR_ne (run_ne L f _ _ (by dsimp only;omega) (by simp only [fuelN];omega)) fun r _=>ite_ne (fun _=>ok_ne _) (fun _=>fail_ne)
        · unfold wordM
          refine ite_ne (fun _=>ok_ne _) (fun _=>ite_ne (fun _=>ok_ne _) (fun _=>ite_ne (fun _=>ite_ne (fun _=>?_) (fun _=>fail_ne)) (fun _=>ite_ne (fun _=>fail_ne) (fun _=>ite_ne (fun hc=>?_) (fun _=>fail_ne)))))
          · split
            · exact fail_ne
            · exact ite_ne (fun _=>ok_ne _) (fun _=>fail_ne)
          · have:=isSign_lt hc
            dsimp only at this
            exact run_ne L f _ _ (by dsimp only;omega) (by simp only [fuelN];omega)
      · unfold simpleM
        rw [List.getElem?_eq_none (by omega)]
        exact fail_ne
    · have hlt:=(signK_le hc).1
      exact bindR_ne (run_ne L f _ _ (by dsimp only;omega) (by simp only [fuelN];omega)) fun r _=>ok_ne _
  | f+1,.args kind n,q,hq,h=>by
    rw [runM]
    simp only [fuelN] at h
    refine bindR_ne (run_ne L f _ _ hq (by simp only [fuelN];omega)) fun r hr=>?_
    have hg:=run_goes L f _ _ _ hr
    refine ite_ne (fun hc=>?_) (fun _=>?_)
    · have:=isSign_lt hc
      have h1:=hg.1
      exact run_ne L f _ _ (by dsimp only;omega) (by simp only [fuelN];omega)
    · unfold argsEnd
      exact ite_ne (fun _=>ok_ne _) (fun _=>fail_ne)
theorem parse_some (L:List TokL) (a:Nat) (h:a≤L.length):∃r,parseM L a=some r:=by
  have hn:=run_ne L (8*L.length+16) (.chain 0) (a,[]) h (by simp only [fuelN];omega)
  unfold parseM
  split
  · rename_i hc;exact absurd hc hn
  · exact⟨_,rfl⟩
  · split
    · exact⟨_,rfl⟩
    · exact⟨_,rfl⟩
end Go.Proofs.YtjpfoophipcglaaGreatDoor
