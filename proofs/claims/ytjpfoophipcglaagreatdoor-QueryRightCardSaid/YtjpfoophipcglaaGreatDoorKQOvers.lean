/- Queries in plain words. -/
import Derived.Test.YtjpfoophipcglaaGreatDoorKScopeTolds
import Derived.Lib.AtoiAll
import Derived.Test.YtjpfoophipcglaaGreatDoorKQOpts
namespace Go.Proofs.YtjpfoophipcglaaGreatDoor
set_option maxRecDepth 100000
set_option maxHeartbeats 8000000
structure AggL where
  k:Int
  o:List UInt8
  m:List UInt8
structure KeyL where
  m:List UInt8
  d:Bool
structure QueryL where
  ask:Bool
  dist:Bool
  V:List (List UInt8)
  G:List AggL
  gr:Bool
  B:List (List UInt8)
  O:List KeyL
  lim:Int
  off:Int
  C:List OpL
def noQ:QueryL:=⟨false,false,[],[],false,[],[],0,0,[]⟩
def aggKind (t:TokL):Int:=if t.k=1 then if t.x=kCOUNT then 1 else if t.x=kSUM then 2 else if t.x=kMIN then 3 else if t.x=kMAX then 4 else 0 else 0
def overM (L:List TokL) (k:Int) (a:Nat):Option (List UInt8×Nat) :=
  if k≠0∧isW L a 5 s_open=true then
    if k=1∧isW L (a+1) 5 s_star=true then
      if isW L (a+2) 5 s_close=true then some ([],a+3) else none
    else if isVar (tokAt L (a+1))=true∧isW L (a+2) 5 s_close=true then some ((tokAt L (a+1)).x,a+3) else none
  else none
def aggM (L:List TokL) (a:Nat):Option (AggL×Nat) :=
  match overM L (aggKind (tokAt L a)) (a+1) with
  | none=>none
  | some o=>if isW L o.2 1 kAS=true∧isVar (tokAt L (o.2+1))=true then some (⟨aggKind (tokAt L a),o.1,(tokAt L (o.2+1)).x⟩,o.2+2) else none
structure CS where
  a:Nat
  V:List (List UInt8)
  G:List AggL
def colM (L:List TokL) (s:CS):Option CS :=
  if isW L s.a 5 s_open=true then
    match aggM L (s.a+1) with
    | none=>none
    | some g=>if isW L g.2 5 s_close=true then some ⟨g.2+1,s.V++[g.1.m],s.G++[g.1]⟩ else none
  else if isVar (tokAt L s.a)=true then some ⟨s.a+1,s.V++[(tokAt L s.a).x],s.G⟩ else none
def colsM (L:List TokL):Nat→CS→Option CS
  | 0,_=>none
  | f+1,s =>
    match colM L s with
    | none=>none
    | some t=>if isW L t.a 1 kWHERE=true then some t else colsM L f t
def varsM (L:List TokL):Nat→Nat→List (List UInt8)→Option (Nat×List (List UInt8))
  | 0,_,_=>none
  | f+1,a,B =>
    if isVar (tokAt L a)=true then
      if (tokAt L (a+1)).k=2 then varsM L f (a+1) (B++[(tokAt L a).x]) else some (a+1,B++[(tokAt L a).x])
    else none
def groupM (L:List TokL) (a:Nat):Option (Nat×List (List UInt8)) :=
  if isW L a 1 kGROUP=true then if isW L (a+1) 1 kBY=true then varsM L (L.length+1) (a+2) [] else none else some (a,[])
def isKeyW (L:List TokL) (a:Nat):Bool:=decide ((tokAt L a).k=2)||(isW L a 1 kASC||isW L a 1 kDESC)
def keyM (L:List TokL) (a:Nat):Option (KeyL×Nat) :=
  if isW L a 1 kDESC=true∨isW L a 1 kASC=true then
    if isW L (a+1) 5 s_open=true∧isVar (tokAt L (a+2))=true∧isW L (a+3) 5 s_close=true then some (⟨(tokAt L (a+2)).x,isW L a 1 kDESC⟩,a+4) else none
  else if isVar (tokAt L a)=true then some (⟨(tokAt L a).x,false⟩,a+1) else none
def keysM (L:List TokL):Nat→Nat→List KeyL→Option (Nat×List KeyL)
  | 0,_,_=>none
  | f+1,a,O =>
    match keyM L a with
    | none=>none
    | some k=>if isKeyW L k.2=true then keysM L f k.2 (O++[k.1]) else some (k.2,O++[k.1])
def orderM (L:List TokL) (a:Nat):Option (Nat×List KeyL) :=
  if isW L a 1 kORDER=true then if isW L (a+1) 1 kBY=true then keysM L (L.length+1) (a+2) [] else none else some (a,[])
def numOf (x:List UInt8):Int:=match Lib.atoiAll x with | .ok v=>v|Lib.NumEnd.syntax=>0 | .range=>Lib.atoiSat x
def countM (L:List TokL) (a:Nat) (s:List UInt8) (d:Int):Option (Nat×Int) :=
  if isW L a 1 s=true then if isDig (tokAt L (a+1))=true then some (a+2,numOf (tokAt L (a+1)).x) else none else some (a,d)
def starM (C:List OpL):List (List UInt8):=if atE C ((C.length:Int)-1)=0 then nmC C false (C.length-1) else []
def headM (L:List TokL) (a:Nat):Option (CS×Bool) :=
  if isW L a 5 s_star=true then some (⟨a+1,[],[]⟩,true)
  else match colsM L (L.length+1) ⟨a,[],[]⟩ with|none=>none|some s=>some (s,false)
def fuelQ (L:List TokL) (a:Nat):Nat:=2*(L.length-a)+1
def groupAt (L:List TokL) (a:Nat):RG:=grpQ (runQ L (fuelQ L a) .unf a [])
structure TS where
  a:Nat
  V:List (List UInt8)
  G:List AggL
  C:List OpL
def tableM (L:List TokL) (a:Nat):Option TS :=
  match headM L a with
  | none=>none
  | some h =>
    if isW L h.1.a 1 kWHERE=true then
      if (groupAt L (h.1.a+1)).ok=true then some ⟨(groupAt L (h.1.a+1)).a,bif h.2 then starM (groupAt L (h.1.a+1)).C else h.1.V,h.1.G,(groupAt L (h.1.a+1)).C⟩ else none
    else none
def tailM (L:List TokL) (d:Bool) (t:TS):Option (QueryL×Nat) :=
  match groupM L t.a with
  | none=>none
  | some b =>
    match orderM L b.1 with
    | none=>none
    | some o =>
      match countM L o.1 kLIMIT (-1) with
      | none=>none
      | some l =>
        match countM L l.1 kOFFSET 0 with
        | none=>none
        | some f=>some (⟨false,d,t.V,t.G,decide (0<t.G.length)||decide (0<b.2.length),b.2,o.2,l.2,f.2,t.C⟩,f.1)
def selectM (L:List TokL) (a:Nat):Option (QueryL×Nat) :=
  match tableM L (stepA (isW L a 1 kDISTINCT) a) with
  | none=>none
  | some t=>tailM L (isW L a 1 kDISTINCT) t
def readM (L:List TokL):Option (QueryL×Nat) :=
  if isW L 0 1 kASK=true then
    if (groupAt L 1).ok=true then some (⟨true,false,[],[],false,[],[],-1,0,(groupAt L 1).C⟩,(groupAt L 1).a) else none
  else if isW L 0 1 kSELECT=true then selectM L 1 else none
def mustG (q:QueryL):Bool:=decide (0<q.G.length)||decide (0<q.B.length)
def namesQ (l:List (List UInt8)):Bool:=decide (l.length≤32)&&namesB [] l
def ofNameB (g:AggL):Bool:=nameL g.o||(g.o.isEmpty&&decide (g.k=1))
def aggB (g:AggL):Bool:=decide (1≤g.k)&&(decide (g.k≤4)&&ofNameB g)
def aggsQ (l:List AggL):Bool:=decide (l.length≤8)&&(l.all aggB&&namesQ (l.map AggL.m))
def keysQ (l:List KeyL):Bool:=decide (l.length≤32)&&l.all fun k=>nameL k.m
def countsQ (q:QueryL):Bool:=decide (-1≤q.lim)&&(decide (q.lim≤999999999)&&(decide (0≤q.off)&&decide (q.off≤999999999)))
def formedQ (q:QueryL):Bool:=countsQ q&&(decide (q.gr=mustG q)&&(namesQ q.V&&(namesQ q.B&&(aggsQ q.G&&keysQ q.O))))
def bareQ (q:QueryL):Bool:=q.V.isEmpty&&(q.G.isEmpty&&(q.B.isEmpty&&(q.O.isEmpty&&(!q.dist&&(!q.gr&&(decide (q.lim = -1)&&decide (q.off=0)))))))
def plainQ:List (List UInt8)→List AggL→List (List UInt8)×Bool
  | [],G=>([],G.isEmpty)
  | x::V,[]=>(x::(plainQ V []).1,(plainQ V []).2)
  | x::V,g::G=>if g.m=x then plainQ V G else (x::(plainQ V (g::G)).1,(plainQ V (g::G)).2)
def allIn (l I:List (List UInt8)):Bool:=l.all fun x=>decide (x∈I)
def placedQ (I:List (List UInt8)) (g:AggL):Bool:=(g.o.isEmpty||decide (g.o∈I))&&!decide (g.m∈I)
def scopedQ (q:QueryL) (I:List (List UInt8)):Bool :=
  !(q.V.isEmpty&&(!I.isEmpty||q.gr))&&((plainQ q.V q.G).2&&(allIn (plainQ q.V q.G).1 I&&(allIn q.B I&&(!(q.gr&&!allIn (plainQ q.V q.G).1 q.B)&&(q.G.all (placedQ I)&&q.O.all fun k=>decide (k.m∈q.V))))))
def checkQ (q:QueryL):Int :=
  if checkC q.C≠0 then checkC q.C
  else if q.ask=true then (if bareQ q=true then 0 else 2)
  else if formedQ q=true then (if scopedQ q (starM q.C)=true then 0 else 6) else 2
def parseQ (l:List UInt8):QueryL×Int :=
  if (lexS l).2.2≠0 then (noQ,(lexS l).2.2)
  else match readM (lexS l).1 with
    | none=>(noQ,2)
    | some q=>if q.2<(lexS l).1.length then (noQ,2) else if checkQ q.1≠0 then (noQ,checkQ q.1) else (q.1,0)
section
open Go.RowKit
theorem aggKind_no {t:TokL} (h:t.k≠1):aggKind t=0:=by unfold aggKind;rw [if_neg h]
theorem wtU {A X:Nat} {v:Value} {L:List TokL} {a b:Nat} {U U':QV} {C:List OpL} {cv:Value} {w w':World} (ht:WT X v L U' cv b w w') (h:QRd A X v L a U C cv w) (hP:U'.P=U.P):QRd A X v L b U' C cv w':=by
 (have hc:Ch (rdS X cv) (rdS X cv) w w':=⟨ht.ch.os,ht.ch.tape,ht.ch.output,ht.ch.size,fun k hk hS=>ht.ch.block k hk (fun e=>hS (.inl e)),fun _ h=>.inl h⟩);have hbe:=h.below hc;(refine⟨ht.blk,?_,h.low,h.toks.on hbe,h.good.on hbe,ht.le,fun k hk=>Nat.lt_of_lt_of_le (h.pl k (hP ▸ hk)) ht.ch.size⟩);have hap:=code_apart h.code h.blk;obtain⟨PC,h1,h2,h3⟩:=h.code;refine⟨PC,h1,⟨h2.1,?_⟩,fun p hp=>?_⟩
 ·rcases h2.2 with h0|⟨g,cap,cur,hv,hg,hh,r⟩
  ·exact .inl h0
  ·refine .inr ⟨g,cap,cur,hv,hg,?_,r⟩;(rw [ht.ch.block g (Array.getElem?_eq_some_iff.1 hh).1 (hap g (by rw [hv];rfl))]);exact hh
 ·have:=(h3 p hp).onP hc;intro w2 h2;exact this w2 ⟨h2.1,fun k hk hn=>h2.2 k hk (fun c=>hn (c.elim .inl (fun d=>.inr (hP ▸ d))))⟩
theorem aggKind_calls (t:TokL) (w:World):Calls Tryz.prog 215 #[t.v] w fun e w'=>e=.returned (.int .i64 (aggKind t))∧Below w.heap.size w w':=by
 obtain⟨k,x,⟨uk,ux,uy,uz⟩,ta⟩:=t;(simp only [TokL.v]);by_cases h1:k=1
 ·subst h1;by_cases hc:x=kCOUNT
  ·(have HA:=Hd (show aggKind ⟨1,x,⟨uk,ux,uy,uz⟩,ta⟩=1 from by unfold aggKind;rw [if_pos rfl,if_pos hc]));(have g1:((bs x).toList==[67,79,85,78,84])=true:=by rw [bs_toList];exact beq_iff_eq.2 hc);clear hc;(go_enter Tryz.func215,Tryz.ntmps215);go_wp2;go_ret;exact⟨by rw [HA.out];rfl,box_below _ _⟩
  ·(have g1:((bs x).toList==[67,79,85,78,84])=false:=by rw [bs_toList];exact beq_eq_false_iff_ne.2 hc);by_cases hs:x=kSUM
   ·(have HA:=Hd (show aggKind ⟨1,x,⟨uk,ux,uy,uz⟩,ta⟩=2 from by unfold aggKind;rw [if_pos rfl,if_neg hc,if_pos hs]));(have g2:((bs x).toList==[83,85,77])=true:=by rw [bs_toList];exact beq_iff_eq.2 hs);clear hc hs;(go_enter Tryz.func215,Tryz.ntmps215);go_wp2;go_ret;exact⟨by rw [HA.out];rfl,box_below _ _⟩
   ·(have g2:((bs x).toList==[83,85,77])=false:=by rw [bs_toList];exact beq_eq_false_iff_ne.2 hs);by_cases hm:x=kMIN
    ·(have HA:=Hd (show aggKind ⟨1,x,⟨uk,ux,uy,uz⟩,ta⟩=3 from by unfold aggKind;rw [if_pos rfl,if_neg hc,if_neg hs,if_pos hm]));(have g3:((bs x).toList==[77,73,78])=true:=by rw [bs_toList];exact beq_iff_eq.2 hm);clear hc hs hm;(go_enter Tryz.func215,Tryz.ntmps215);go_wp2;go_ret;exact⟨by rw [HA.out];rfl,box_below _ _⟩
    ·(have g3:((bs x).toList==[77,73,78])=false:=by rw [bs_toList];exact beq_eq_false_iff_ne.2 hm);by_cases hx:x=kMAX
     ·(have HA:=Hd (show aggKind ⟨1,x,⟨uk,ux,uy,uz⟩,ta⟩=4 from by unfold aggKind;rw [if_pos rfl,if_neg hc,if_neg hs,if_neg hm,if_pos hx]));(have g4:((bs x).toList==[77,65,88])=true:=by rw [bs_toList];exact beq_iff_eq.2 hx);clear hc hs hm hx;(go_enter Tryz.func215,Tryz.ntmps215);go_wp2;go_ret;exact⟨by rw [HA.out];rfl,box_below _ _⟩
     ·(have g4:((bs x).toList==[77,65,88])=false:=by rw [bs_toList];exact beq_eq_false_iff_ne.2 hx);(have HA:=Hd (show aggKind ⟨1,x,⟨uk,ux,uy,uz⟩,ta⟩=0 from by unfold aggKind;rw [if_pos rfl,if_neg hc,if_neg hs,if_neg hm,if_neg hx]));clear hc hs hm hx;(go_enter Tryz.func215,Tryz.ntmps215);go_wp2;go_ret;exact⟨by rw [HA.out];rfl,box_below _ _⟩
 ·have HA:=Hd (aggKind_no (t:=⟨k,x,⟨uk,ux,uy,uz⟩,ta⟩) h1);have g1:(k !=1)=true:=bne_iff_ne.2 h1;clear h1;(go_enter Tryz.func215,Tryz.ntmps215);go_wp2;go_ret;exact⟨by rw [HA.out];rfl,box_below _ _⟩
def OverT (X:Nat) (v:Value) (L:List TokL) (U:QV) (cv:Value) (r:Option (List UInt8×Nat)) (w:World) (e:Ending) (w':World):Prop :=
  match r with
  | none=>∃x b,e=.returned (.tuple #[.string x,.bool false])∧WT X v L U cv b w w'
  | some o=>e=.returned (.tuple #[.string (bs o.1),.bool true])∧WT X v L U cv o.2 w w'
theorem over_calls {A X:Nat} {v cv:Value} {L:List TokL} {a:Nat} {U:QV} {C:List OpL} {w:World} (h:QRd A X v L a U C cv w) (E:Env L) (k:Int):Calls Tryz.prog 216 #[.pointer (some ⟨X,0,none⟩),.int .i64 k] w (OverT X v L U cv (overM L k a) w):=by
 have H0:=Hd h;have hW0:=Hd (wt_on h (Below.refl _ _));(unfold overM);by_cases hk:k=0
 ·(rw [if_neg (fun c=>c.1 hk)]);subst hk;clear h E;(go_enter Tryz.func216,Tryz.ntmps216);go_wp2;(refine bodyPost_ret (v:=.tuple #[.string ⟨#[]⟩,.bool false]) (by simp [results,Tryz.results216,go_sem]) rfl ?_);exact⟨_,_,rfl,hW0.out⟩
 ·have g0:(k==0)=false:=beq_eq_false_iff_ne.2 hk;cases hO:isW L a 5 s_open with
  | false =>
    (rw [if_neg (fun c=>by cases c.2)]);(have HT1:=Hd (fun W (hW:QRd A X v L a U C cv W)=>wsign_calls hW E.len s_open false hO _ rfl));clear h E hO hk;(go_enter Tryz.func216,Tryz.ntmps216);(go_wp2_with fail);refine (HT1.out _ H0.out).mono ?_;rintro e w1 ⟨rfl,h1⟩;have H1:=Hd h1;clear h1;go_wp2;(refine bodyPost_ret (v:=.tuple #[.string ⟨#[]⟩,.bool false]) (by simp [results,Tryz.results216,go_sem]) rfl ?_);exact⟨_,_,rfl,H1.out⟩
  | true =>
    rw [if_pos ⟨hk,rfl⟩];(have HT1:=Hd (fun W (hW:QRd A X v L a U C cv W)=>wsign_calls hW E.len s_open true hO _ rfl));by_cases h1:k=1∧isW L (a+1) 5 s_star=true
    ·rw [if_pos h1];obtain⟨rfl,hS⟩:=h1;(have HT2:=Hd (fun W (hW:QRd A X v L (a+1) U C cv W)=>wsign_calls hW E.len s_star true hS _ rfl));cases hC:isW L (a+2) 5 s_close with
     | false =>
       (rw [if_neg (by decide)]);(have HT3:=Hd (fun W (hW:QRd A X v L (a+1+1) U C cv W)=>wsign_calls hW E.len s_close false hC _ rfl));clear h E hO hk hS hC;(go_enter Tryz.func216,Tryz.ntmps216);(go_wp2_with fail);refine (HT1.out _ H0.out).mono ?_;rintro e w1 ⟨rfl,h1⟩;have H1:=Hd h1;clear h1;(go_wp2_with fail);refine (HT2.out _ (H1.out.qrd H0.out)).mono ?_;rintro e w2 ⟨rfl,h2⟩;have H2:=Hd (H1.out.trans h2);clear h2;(go_wp2_with fail);refine (HT3.out _ (H2.out.qrd H0.out)).mono ?_;rintro e w3 ⟨rfl,h3⟩;have H3:=Hd (H2.out.trans h3);clear h3;go_wp2;(refine bodyPost_ret (v:=.tuple #[.string ⟨#[]⟩,.bool false]) (by simp [results,Tryz.results216,go_sem]) rfl ?_);exact⟨_,_,rfl,H3.out⟩
     | true =>
       rw [if_pos rfl];(have HT3:=Hd (fun W (hW:QRd A X v L (a+1+1) U C cv W)=>wsign_calls hW E.len s_close true hC _ rfl));clear h E hO hk hS hC;(go_enter Tryz.func216,Tryz.ntmps216);(go_wp2_with fail);refine (HT1.out _ H0.out).mono ?_;rintro e w1 ⟨rfl,h1⟩;have H1:=Hd h1;clear h1;(go_wp2_with fail);refine (HT2.out _ (H1.out.qrd H0.out)).mono ?_;rintro e w2 ⟨rfl,h2⟩;have H2:=Hd (H1.out.trans h2);clear h2;(go_wp2_with fail);refine (HT3.out _ (H2.out.qrd H0.out)).mono ?_;rintro e w3 ⟨rfl,h3⟩;have H3:=Hd (H2.out.trans h3);clear h3;go_wp2;(refine bodyPost_ret (v:=.tuple #[.string ⟨#[]⟩,.bool true]) (by simp [results,Tryz.results216,go_sem]) rfl ?_);exact⟨rfl,H3.out⟩
    ·rw [if_neg h1];(have HV:=Hd (fun W (hW:QRd A X v L (a+1) U C cv W)=>wvar_calls hW E.len (E.tok (a+1))));generalize hx:(tokAt L (a+1)).x=x at HV ⊢;clear hx;rcases (show (k=1∧isW L (a+1) 5 s_star=false)∨¬k=1 by by_cases c:k=1;exact .inl ⟨c,by cases d:isW L (a+1) 5 s_star with|false=>rfl|true=>exact absurd ⟨c,d⟩ h1⟩;exact .inr c) with ⟨rfl,hS⟩|h1'
     ·(have HT2:=Hd (fun W (hW:QRd A X v L (a+1) U C cv W)=>wsign_calls hW E.len s_star false hS _ rfl));clear hS;cases hV:isVar (tokAt L (a+1)) with
      | false =>
        (rw [if_neg (fun c=>by cases c.1)]);rw [hV] at HV;clear h E hO hk h1 hV;(go_enter Tryz.func216,Tryz.ntmps216);(go_wp2_with fail);refine (HT1.out _ H0.out).mono ?_;rintro e w1 ⟨rfl,h1⟩;have H1:=Hd h1;clear h1;(go_wp2_with fail);refine (HT2.out _ (H1.out.qrd H0.out)).mono ?_;rintro e w2 ⟨rfl,h2⟩;have H2:=Hd (H1.out.trans h2);clear h2;(go_wp2_with fail);refine (HV.out _ (H2.out.qrd H0.out)).mono ?_;rintro e w3 ⟨rfl,h3⟩;have H3:=Hd (H2.out.trans h3);clear h3;go_wp2;(refine bodyPost_ret (v:=.tuple #[.string (bs x),.bool false]) (by simp [results,Tryz.results216,go_sem]) rfl ?_);exact⟨_,_,rfl,H3.out⟩
      | true =>
        rw [hV] at HV;rw [nextA_at (isVar_lt hV)] at HV;cases hC:isW L (a+2) 5 s_close with
        | false =>
          (rw [if_neg (fun c=>by cases c.2)]);(have HT9:=Hd (fun W (hW:QRd A X v L (a+1+1) U C cv W)=>wsign_calls hW E.len s_close false hC _ rfl));clear h E hO hk h1 hV hC;(go_enter Tryz.func216,Tryz.ntmps216);(go_wp2_with fail);refine (HT1.out _ H0.out).mono ?_;rintro e w1 ⟨rfl,h1⟩;have H1:=Hd h1;clear h1;(go_wp2_with fail);refine (HT2.out _ (H1.out.qrd H0.out)).mono ?_;rintro e w2 ⟨rfl,h2⟩;have H2:=Hd (H1.out.trans h2);clear h2;(go_wp2_with fail);refine (HV.out _ (H2.out.qrd H0.out)).mono ?_;rintro e w3 ⟨rfl,h3⟩;have H3:=Hd (H2.out.trans h3);clear h3;(go_wp2_with fail);refine (HT9.out _ (H3.out.qrd H0.out)).mono ?_;rintro e w4 ⟨rfl,h4⟩;have H4:=Hd (H3.out.trans h4);clear h4;go_wp2;(refine bodyPost_ret (v:=.tuple #[.string (bs x),.bool false]) (by simp [results,Tryz.results216,go_sem]) rfl ?_);exact⟨_,_,rfl,H4.out⟩
        | true =>
          rw [if_pos ⟨rfl,rfl⟩];(have HT9:=Hd (fun W (hW:QRd A X v L (a+1+1) U C cv W)=>wsign_calls hW E.len s_close true hC _ rfl));clear h E hO hk h1 hV hC;(go_enter Tryz.func216,Tryz.ntmps216);(go_wp2_with fail);refine (HT1.out _ H0.out).mono ?_;rintro e w1 ⟨rfl,h1⟩;have H1:=Hd h1;clear h1;(go_wp2_with fail);refine (HT2.out _ (H1.out.qrd H0.out)).mono ?_;rintro e w2 ⟨rfl,h2⟩;have H2:=Hd (H1.out.trans h2);clear h2;(go_wp2_with fail);refine (HV.out _ (H2.out.qrd H0.out)).mono ?_;rintro e w3 ⟨rfl,h3⟩;have H3:=Hd (H2.out.trans h3);clear h3;(go_wp2_with fail);refine (HT9.out _ (H3.out.qrd H0.out)).mono ?_;rintro e w4 ⟨rfl,h4⟩;have H4:=Hd (H3.out.trans h4);clear h4;go_wp2;(refine bodyPost_ret (v:=.tuple #[.string (bs x),.bool true]) (by simp [results,Tryz.results216,go_sem]) rfl ?_);exact⟨rfl,H4.out⟩
     ·have g1:(k==1)=false:=beq_eq_false_iff_ne.2 h1';clear h1';cases hV:isVar (tokAt L (a+1)) with
      | false =>
        (rw [if_neg (fun c=>by cases c.1)]);rw [hV] at HV;clear h E hO hk h1 hV;(go_enter Tryz.func216,Tryz.ntmps216);(go_wp2_with fail);refine (HT1.out _ H0.out).mono ?_;rintro e w1 ⟨rfl,h1⟩;have H1:=Hd h1;clear h1;(go_wp2_with fail);refine (HV.out _ (H1.out.qrd H0.out)).mono ?_;rintro e w2 ⟨rfl,h2⟩;have H2:=Hd (H1.out.trans h2);clear h2;go_wp2;(refine bodyPost_ret (v:=.tuple #[.string (bs x),.bool false]) (by simp [results,Tryz.results216,go_sem]) rfl ?_);exact⟨_,_,rfl,H2.out⟩
      | true =>
        rw [hV] at HV;rw [nextA_at (isVar_lt hV)] at HV;cases hC:isW L (a+2) 5 s_close with
        | false =>
          (rw [if_neg (fun c=>by cases c.2)]);(have HT9:=Hd (fun W (hW:QRd A X v L (a+1+1) U C cv W)=>wsign_calls hW E.len s_close false hC _ rfl));clear h E hO hk h1 hV hC;(go_enter Tryz.func216,Tryz.ntmps216);(go_wp2_with fail);refine (HT1.out _ H0.out).mono ?_;rintro e w1 ⟨rfl,h1⟩;have H1:=Hd h1;clear h1;(go_wp2_with fail);refine (HV.out _ (H1.out.qrd H0.out)).mono ?_;rintro e w2 ⟨rfl,h2⟩;have H2:=Hd (H1.out.trans h2);clear h2;(go_wp2_with fail);refine (HT9.out _ (H2.out.qrd H0.out)).mono ?_;rintro e w3 ⟨rfl,h3⟩;have H3:=Hd (H2.out.trans h3);clear h3;go_wp2;(refine bodyPost_ret (v:=.tuple #[.string (bs x),.bool false]) (by simp [results,Tryz.results216,go_sem]) rfl ?_);exact⟨_,_,rfl,H3.out⟩
        | true =>
          rw [if_pos ⟨rfl,rfl⟩];(have HT9:=Hd (fun W (hW:QRd A X v L (a+1+1) U C cv W)=>wsign_calls hW E.len s_close true hC _ rfl));clear h E hO hk h1 hV hC;(go_enter Tryz.func216,Tryz.ntmps216);(go_wp2_with fail);refine (HT1.out _ H0.out).mono ?_;rintro e w1 ⟨rfl,h1⟩;have H1:=Hd h1;clear h1;(go_wp2_with fail);refine (HV.out _ (H1.out.qrd H0.out)).mono ?_;rintro e w2 ⟨rfl,h2⟩;have H2:=Hd (H1.out.trans h2);clear h2;(go_wp2_with fail);refine (HT9.out _ (H2.out.qrd H0.out)).mono ?_;rintro e w3 ⟨rfl,h3⟩;have H3:=Hd (H2.out.trans h3);clear h3;go_wp2;(refine bodyPost_ret (v:=.tuple #[.string (bs x),.bool true]) (by simp [results,Tryz.results216,go_sem]) rfl ?_);exact⟨rfl,H3.out⟩
def braM (L:List TokL) (a:Nat):Option (List UInt8×Nat) :=
  if isW L a 5 s_open=true∧isVar (tokAt L (a+1))=true∧isW L (a+2) 5 s_close=true then some ((tokAt L (a+1)).x,a+3) else none
theorem bra_calls {A X:Nat} {v cv:Value} {L:List TokL} {a:Nat} {U:QV} {C:List OpL} {w:World} (h:QRd A X v L a U C cv w) (E:Env L):Calls Tryz.prog 124 #[.pointer (some ⟨X,0,none⟩)] w (OverT X v L U cv (braM L a) w):=by
 have H0:=Hd h;(unfold braM);cases hO:isW L a 5 s_open with
 | false =>
   (rw [if_neg (fun c=>by cases c.1)]);(have HT1:=Hd (fun W (hW:QRd A X v L a U C cv W)=>wsign_calls hW E.len s_open false hO _ rfl));clear h E hO;(go_enter Tryz.func124,Tryz.ntmps124);(go_wp2_with fail);refine (HT1.out _ H0.out).mono ?_;rintro e w1 ⟨rfl,h1⟩;have H1:=Hd h1;clear h1;go_wp2;(refine bodyPost_ret (v:=.tuple #[.string ⟨#[]⟩,.bool false]) (by simp [results,Tryz.results124,go_sem]) rfl ?_);exact⟨_,_,rfl,H1.out⟩
 | true =>
   (have HT1:=Hd (fun W (hW:QRd A X v L a U C cv W)=>wsign_calls hW E.len s_open true hO _ rfl));(have HV:=Hd (fun W (hW:QRd A X v L (a+1) U C cv W)=>wvar_calls hW E.len (E.tok (a+1))));generalize hx:(tokAt L (a+1)).x=x at HV ⊢;clear hx;cases hV:isVar (tokAt L (a+1)) with
   | false =>
     (rw [if_neg (fun c=>by cases c.2.1)]);rw [hV] at HV;clear h E hO hV;(go_enter Tryz.func124,Tryz.ntmps124);(go_wp2_with fail);refine (HT1.out _ H0.out).mono ?_;rintro e w1 ⟨rfl,h1⟩;have H1:=Hd h1;clear h1;(go_wp2_with fail);refine (HV.out _ (H1.out.qrd H0.out)).mono ?_;rintro e w2 ⟨rfl,h2⟩;have H2:=Hd (H1.out.trans h2);clear h2;go_wp2;(refine bodyPost_ret (v:=.tuple #[.string (bs x),.bool false]) (by simp [results,Tryz.results124,go_sem]) rfl ?_);exact⟨_,_,rfl,H2.out⟩
   | true =>
     rw [hV] at HV;rw [nextA_at (isVar_lt hV)] at HV;cases hC:isW L (a+2) 5 s_close with
     | false =>
       (rw [if_neg (fun c=>by cases c.2.2)]);(have HT9:=Hd (fun W (hW:QRd A X v L (a+1+1) U C cv W)=>wsign_calls hW E.len s_close false hC _ rfl));clear h E hO hV hC;(go_enter Tryz.func124,Tryz.ntmps124);(go_wp2_with fail);refine (HT1.out _ H0.out).mono ?_;rintro e w1 ⟨rfl,h1⟩;have H1:=Hd h1;clear h1;(go_wp2_with fail);refine (HV.out _ (H1.out.qrd H0.out)).mono ?_;rintro e w2 ⟨rfl,h2⟩;have H2:=Hd (H1.out.trans h2);clear h2;(go_wp2_with fail);refine (HT9.out _ (H2.out.qrd H0.out)).mono ?_;rintro e w3 ⟨rfl,h3⟩;have H3:=Hd (H2.out.trans h3);clear h3;go_wp2;(refine bodyPost_ret (v:=.tuple #[.string (bs x),.bool false]) (by simp [results,Tryz.results124,go_sem]) rfl ?_);exact⟨_,_,rfl,H3.out⟩
     | true =>
       rw [if_pos ⟨rfl,rfl,rfl⟩];(have HT9:=Hd (fun W (hW:QRd A X v L (a+1+1) U C cv W)=>wsign_calls hW E.len s_close true hC _ rfl));clear h E hO hV hC;(go_enter Tryz.func124,Tryz.ntmps124);(go_wp2_with fail);refine (HT1.out _ H0.out).mono ?_;rintro e w1 ⟨rfl,h1⟩;have H1:=Hd h1;clear h1;(go_wp2_with fail);refine (HV.out _ (H1.out.qrd H0.out)).mono ?_;rintro e w2 ⟨rfl,h2⟩;have H2:=Hd (H1.out.trans h2);clear h2;(go_wp2_with fail);refine (HT9.out _ (H2.out.qrd H0.out)).mono ?_;rintro e w3 ⟨rfl,h3⟩;have H3:=Hd (H2.out.trans h3);clear h3;go_wp2;(refine bodyPost_ret (v:=.tuple #[.string (bs x),.bool true]) (by simp [results,Tryz.results124,go_sem]) rfl ?_);exact⟨rfl,H3.out⟩
end
end Go.Proofs.YtjpfoophipcglaaGreatDoor
