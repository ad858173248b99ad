/- A column, columns: the reader of a query. -/
import Derived.Test.YtjpfoophipcglaaGreatDoorKQOvers
import Derived.Test.YtjpfoophipcglaaGreatDoorKQElems
import Derived.Lib.SmallJoins
namespace Go.Proofs.YtjpfoophipcglaaGreatDoor
set_option maxRecDepth 100000
set_option maxHeartbeats 8000000
section
open Go.RowKit
def aggCells (g:AggL):List Value:=[.int .i64 g.k,.string (bs g.o),.string (bs g.m)]
def zeroAggV:Value:=.agg #[.int .i64 0,.string ⟨#[]⟩,.string ⟨#[]⟩]
theorem info_agg:(Tryz.prog.info? 46).map (fun i=>(i.zero,i.size,i.bytes))=some (some zeroAggV,3,40):=by kernel_rfl
theorem info_strQ:(Tryz.prog.info? 9).map (fun i=>(i.zero,i.size,i.bytes))=some (some (.string ⟨#[]⟩),1,16):=by kernel_rfl
class Rsv where
  P:Nat→Prop
def Uh [Rsv] (d:Bool) (vv av:Value):QV:=⟨.bool false,.bool d,vv,av,.bool false,(.slice none 0 0),(.slice none 0 0),.int .i64 (-1),.int .i64 0,Rsv.P⟩
def HR [Rsv] (X:Nat) (v:Value) (L:List TokL) (d:Bool) (s:CS) (w0 w:World):Prop :=
  ∃vv av,WT X v L (Uh d vv av) (.slice none 0 0) s.a w0 w∧w.ownsRow w0.heap.size 9 1 vv s.V.length (textCells s.V)∧w.ownsRow w0.heap.size 46 3 av s.G.length (s.G.flatMap aggCells)∧s.V.length≤s.a∧s.G.length≤s.a
def HT [Rsv] (A X:Nat) (v:Value) (L:List TokL) (d:Bool) (r:Option CS) (w0:World) (e:Ending) (w':World):Prop :=
  match r with
  | none=>e=.returned (.bool false)∧Below A w0 w'
  | some t=>e=.returned (.bool true)∧HR X v L d t w0 w'
def AggT [Rsv] (A X:Nat) (v:Value) (L:List TokL) (d:Bool) (s:CS) (r:Option (AggL×Nat)) (w0:World) (e:Ending) (w':World):Prop :=
  match r with
  | none=>e=.returned (.bool false)∧Below A w0 w'
  | some g=>e=.returned (.bool true)∧HR X v L d ⟨g.2,s.V++[g.1.m],s.G++[g.1]⟩ w0 w'
theorem wt_below {A X:Nat} {v:Value} {L:List TokL} {U:QV} {cv:Value} {b:Nat} {w w':World} (h:WT X v L U cv b w w') (hA:A≤X) (hX:X<w.heap.size):Below A w w':=h.ch.below (by omega) (fun k hk=>by omega)
theorem grown_oneD {w w3:World} {o:Obj} {row:Option Nat} (h:((w.alloc o).drew).grownBy w3 row):w.grownBy w3 row:=grown_one (o:=o) ⟨h.os,h.tape,h.output,h.size,h.block⟩
theorem row_grown {w w7:World} {B size n B' size' n':Nat} {e e':TypeId} {v v':Value} {xs xs':List Value} (h:w.ownsRow B e size v n xs) (h':w.ownsRow B' e' size' v' n' xs') (hg:w.grownBy w7 v'.ownBlock) (he:e≠e'):w7.ownsRow B e size v n xs :=
  row_at h fun g hgo=>hg.block g (h.lt g hgo).2 (fun c=>kind_apart2 h h' he g hgo c.symm)
theorem hr_addV [Rsv] {X N c7:Nat} {v vv av:Value} {a7:Option Addr} {L:List TokL} {d:Bool} {b:Nat} {V:List (List UInt8)} {G:List AggL} {x:List UInt8} {w0 w4 w7:World} (hX:X<w0.heap.size) (hw:WT X v L (Uh d vv av) (.slice none 0 0) b w0 w4) (hv:w4.ownsRow w0.heap.size 9 1 vv N (textCells V)) (hV:V.length=N) (ha:w4.ownsRow w0.heap.size 46 3 av G.length (G.flatMap aggCells)) (hown:w7.ownsRow w0.heap.size 9 1 (.slice a7 (N+1) c7) (N+1) (textCells V++[.string (bs x)])) (hg:w4.grownBy w7 vv.ownBlock) (h1:V.length+1≤b) (h2:G.length≤b):HR X v L d ⟨b,V++[x],G⟩ w0 (w7.setCell ⟨X,4,none⟩ (.slice a7 (N+1) c7)):=by
 (have hXv:∀g,vv.ownBlock=some g→g≠X:=fun g h=>by have:=(hv.lt g h).1;omega);have hbk:=grown_blk hg hw.blk hXv;(have hc7:=ch_grown hw.ch hg (fun g h=>(hv.lt g h).1));refine⟨.slice a7 (N+1) c7,av,⟨by simpa [rdCells,Uh] using blk_set hbk 4 (.slice a7 (N+1) c7),hc7.trans ch_setY,hw.le⟩,?_,?_,by rw [List.length_append,List.length_singleton];exact h1,h2⟩
 ·dsimp only;rw [List.length_append,List.length_singleton,hV,textCells_append];exact row_setY hown (fun g h=>by have:=(hown.lt g h).1;omega)
 ·exact row_setY (row_grown ha hv hg (by decide)) (fun g h=>by have:=(ha.lt g h).1;omega)
theorem hr_addG [Rsv] {X N c7:Nat} {v vv av:Value} {a7:Option Addr} {L:List TokL} {d:Bool} {b:Nat} {V:List (List UInt8)} {G:List AggL} {x:AggL} {w0 w4 w7:World} (hX:X<w0.heap.size) (hw:WT X v L (Uh d vv av) (.slice none 0 0) b w0 w4) (hv:w4.ownsRow w0.heap.size 9 1 vv V.length (textCells V)) (ha:w4.ownsRow w0.heap.size 46 3 av N (G.flatMap aggCells)) (hG:G.length=N) (hown:w7.ownsRow w0.heap.size 46 3 (.slice a7 (N+1) c7) (N+1) (G.flatMap aggCells++aggCells x)) (hg:w4.grownBy w7 av.ownBlock):WT X v L (Uh d vv (.slice a7 (N+1) c7)) (.slice none 0 0) b w0 (w7.setCell ⟨X,5,none⟩ (.slice a7 (N+1) c7))∧(w7.setCell ⟨X,5,none⟩ (.slice a7 (N+1) c7)).ownsRow w0.heap.size 9 1 vv V.length (textCells V)∧(w7.setCell ⟨X,5,none⟩ (.slice a7 (N+1) c7)).ownsRow w0.heap.size 46 3 (.slice a7 (N+1) c7) (G++[x]).length ((G++[x]).flatMap aggCells):=by
 (have hXv:∀g,av.ownBlock=some g→g≠X:=fun g h=>by have:=(ha.lt g h).1;omega);have hbk:=grown_blk hg hw.blk hXv;(have hc7:=ch_grown hw.ch hg (fun g h=>(ha.lt g h).1));refine⟨⟨by simpa [rdCells,Uh] using blk_set hbk 5 (.slice a7 (N+1) c7),hc7.trans ch_setY,hw.le⟩,?_,?_⟩
 ·exact row_setY (row_grown hv ha hg (by decide)) (fun g h=>by have:=(hv.lt g h).1;omega)
 ·rw [List.length_append,List.length_singleton,hG,flat_snoc];exact row_setY hown (fun g h=>by have:=(hown.lt g h).1;omega)
theorem aggregate_calls [Rsv] {A X:Nat} {v:Value} {L:List TokL} {a0:Nat} {U0:QV} {w0:World} (h0:QRd A X v L a0 U0 [] (.slice none 0 0) w0) (hP:U0.P=Rsv.P) (E:Env L) (d:Bool) (s:CS) (w:World) (hs:HR X v L d s w0 w):Calls Tryz.prog 163 #[.pointer (some ⟨X,0,none⟩)] w (AggT A X v L d s (aggM L s.a) w0):=by
 obtain⟨sa,V,G⟩:=s;obtain⟨vv,av,hw,hv,hav,hVa,hGa⟩:=hs;have HW0:=Hd hw;(have HQ:=Hd (fun (b:Nat) (w':World) (ht:WT X v L (Uh d vv av) (.slice none 0 0) b w0 w')=>wtU ht h0 hP.symm));have HV0:=Hd hv;have HG0:=Hd hav;have hXl:=blk_lt h0.blk;have hAX:=h0.low;have hsw:=hw.ch.size;have hLl:=E.len;have hsa:=hw.le;dsimp only at *;obtain⟨i0,hi,hz0,hz1,hz2⟩:=info_parts info_strQ;obtain⟨j0,ji,jz0,jz1,jz2⟩:=info_parts info_agg;(have HNX:=Hd (fun W (hW:QRd A X v L sa (Uh d vv av) [] (.slice none 0 0) W)=>wnext_calls hW E.len));(have HAK:=Hd (fun W=>aggKind_calls (tokAt L sa) W));(have hka:=fun (c:aggKind (tokAt L sa)≠0)=>show sa<L.length from tokAt_lt (fun e=>c (aggKind_no (by rw [e];decide))));obtain⟨R,hR⟩:∃R,aggM L sa=R:=⟨_,rfl⟩;have HR0:=Hd hR;rw [hR];clear hR;(unfold aggM at HR0);obtain⟨k,hk⟩:∃k,aggKind (tokAt L sa)=k:=⟨_,rfl⟩;rw [hk] at HAK hka HR0;(have HOV:=Hd (fun b W (hW:QRd A X v L b (Uh d vv av) [] (.slice none 0 0) W)=>over_calls hW E k));generalize tokAt L sa=t0 at HNX HAK;clear hk;cases hov:overM L k (sa+1) with
 | none =>
   (have HRR:=Hd (show none=R from by have:=HR0.out;rw [hov] at this;exact this));have HN2:=Hd (show ∀r,overM L k (nextA L sa)=r→r=none from fun r hr=>by
    rw [←hr];by_cases hk0:k=0
    ·unfold overM;rw [if_neg (fun c=>c.1 hk0)]
    ·rw [nextA_at (hka hk0)];exact hov)
   (have HOV2:=Hd (fun W (hW:QRd A X v L (nextA L sa) (Uh d vv av) [] (.slice none 0 0) W)=>HOV.out (nextA L sa) W hW));rw [HN2.out _ rfl] at HOV2;clear hov hka h0 hP E hv hav hw;(go_enter Tryz.func163,Tryz.ntmps163);(go_wp2_with fail);refine (HNX.out _ (HQ.out _ _ HW0.out)).mono ?_;rintro e w1 ⟨rfl,h1⟩;have HW1:=Hd (HW0.out.trans h1);clear h1;(go_wp2_with fail);refine (HAK.out _).mono ?_;rintro e w2 ⟨rfl,hb2⟩;have HW2:=Hd (HW1.out.upto hXl HW1.out.ch.size hb2);clear hb2;(go_wp2_with fail);refine (HOV2.out _ (HQ.out _ _ (HW2.out.upto hXl HW2.out.ch.size (box_below _ _)))).mono ?_;rintro e w3 ⟨x3,b3,rfl,h3⟩;have HW3:=Hd ((HW2.out.upto hXl HW2.out.ch.size (box_below _ _)).trans h3);clear h3;go_wp2;go_ret;rw [←HRR.out];(refine⟨rfl,(wt_below HW3.out hAX hXl).trans (Below.mono (B:=w3.heap.size) ?_ (by have:=HW3.out.ch.size;omega))⟩);repeat (with_reducible (first|exact Below.refl _ _|exact box_below _ _|refine Below.drew ?_|refine Below.setCell ?_ (by first|exact Nat.le_refl _|omega|(dsimp only;omega)|(simp;omega)) _|refine Below.alloc ?_ (by first|exact Nat.le_refl _|omega|(simp;done)|(simp;omega)) _))
 | some o =>
   obtain⟨ox,ob⟩:=o;(have hk0:k≠0:=fun c=>by unfold overM at hov;rw [if_neg (fun e=>e.1 c)] at hov;cases hov);have hsl:=hka hk0;rw [nextA_at hsl] at HNX;(have HOV2:=Hd (fun W (hW:QRd A X v L (sa+1) (Uh d vv av) [] (.slice none 0 0) W)=>HOV.out (sa+1) W hW));rw [hov] at HOV2;have hob:sa+4=ob:=by
    (unfold overM at hov);split at hov
    ·split at hov
     ·split at hov
      ·simp at hov;omega
      ·cases hov
     ·split at hov
      ·simp at hov;omega
      ·cases hov
    ·cases hov
   (try dsimp only at *);(have HWD:=Hd (fun K W (hW:QRd A X v L ob (Uh d vv av) [] (.slice none 0 0) W) (hK:isW L ob 1 kAS=K)=>wword_calls hW E.len kAS K hK _ rfl));(have HVR:=Hd (fun W (hW:QRd A X v L (ob+1) (Uh d vv av) [] (.slice none 0 0) W)=>wvar_calls hW E.len (E.tok (ob+1))));(have HR1:=Hd (show (if isW L ob 1 kAS=true∧isVar (tokAt L (ob+1))=true then some ((⟨k,ox,(tokAt L (ob+1)).x⟩:AggL),ob+2) else none)=R from by have:=HR0.out;rw [hov] at this;exact this));clear HR0;cases hK:isW L ob 1 kAS with
   | false =>
     (have HRR:=Hd (show none=R from by have:=HR1.out;rw [if_neg (fun c=>by rw [hK] at c;cases c.1)] at this;exact this));clear HR1;(have HT4:=Hd (fun W hW=>HWD.out false W hW hK));clear hov hka h0 hP E hv hav hw hK;(go_enter Tryz.func163,Tryz.ntmps163);(go_wp2_with fail);refine (HNX.out _ (HQ.out _ _ HW0.out)).mono ?_;rintro e w1 ⟨rfl,h1⟩;have HW1:=Hd (HW0.out.trans h1);have HV1:=Hd (wt_row h1 HV0.out hXl);have HG1:=Hd (wt_row h1 HG0.out hXl);(try have HY1:=Hd (h1.sameAt HY0.out hXY));clear h1;(go_wp2_with fail);refine (HAK.out _).mono ?_;rintro e w2 ⟨rfl,hb2⟩;have HW2:=Hd (HW1.out.upto hXl HW1.out.ch.size hb2);have HV2:=Hd (rowOn HV1.out hb2);have HG2:=Hd (rowOn HG1.out hb2);clear hb2;(have hXY:w2.heap.size≠X:=by have:=HW2.out.ch.size;omega);(have HVY:=Hd (fun g (hg:vv.ownBlock=some g)=>(show g≠w2.heap.size from by have:=(HV2.out.lt g hg).2;omega)));(have HGY:=Hd (fun g (hg:av.ownBlock=some g)=>(show g≠w2.heap.size from by have:=(HG2.out.lt g hg).2;omega)));have hbx:=box_below w2 (.cells #[.int .i64 k,.string ⟨#[]⟩,.string ⟨#[]⟩] 46);have HB2:=Hd (HW2.out.upto hXl HW2.out.ch.size hbx);have HBV:=Hd (rowOn HV2.out hbx);have HBG:=Hd (rowOn HG2.out hbx);have HBY:=Hd (blk_new w2 46 #[.int .i64 k,.string ⟨#[]⟩,.string ⟨#[]⟩]);clear hbx;(go_wp2_with fail);refine (HOV2.out _ (HQ.out _ _ HB2.out)).mono ?_;rintro e w3 ⟨rfl,h3⟩;have HW3:=Hd (HB2.out.trans h3);have HV3:=Hd (wt_row h3 HBV.out hXl);have HG3:=Hd (wt_row h3 HBG.out hXl);have HY3:=Hd (h3.sameAt HBY.out hXY);clear h3;(go_wp2_with fail);refine (HT4.out _ (HQ.out _ _ HW3.out)).mono ?_;rintro e w4 ⟨rfl,h4⟩;have HW4:=Hd (HW3.out.trans h4);have HV4:=Hd (wt_row h4 HV3.out hXl);have HG4:=Hd (wt_row h4 HG3.out hXl);(try have HY4:=Hd (h4.sameAt HY3.out hXY));clear h4;go_wp2;go_ret;rw [←HRR.out];(refine⟨rfl,(wt_below HW4.out hAX hXl).trans (Below.mono (B:=w4.heap.size) ?_ (by have:=HW4.out.ch.size;omega))⟩);repeat (with_reducible (first|exact Below.refl _ _|exact box_below _ _|refine Below.drew ?_|refine Below.setCell ?_ (by first|exact Nat.le_refl _|omega|(dsimp only;omega)|(simp;omega)) _|refine Below.alloc ?_ (by first|exact Nat.le_refl _|omega|(simp;done)|(simp;omega)) _))
   | true =>
     (have HT4:=Hd (fun W hW=>HWD.out true W hW hK));have hobl:=isW_lt hK;obtain⟨ok,hok⟩:∃ok,isVar (tokAt L (ob+1))=ok:=⟨_,rfl⟩;rw [hok] at HVR;have HR2:=Hd (show (if ok=true then some ((⟨k,ox,(tokAt L (ob+1)).x⟩:AggL),ob+2) else none)=R from by
      have:=HR1.out;rw [hK,hok] at this;rw [←this];cases ok with
      | true=>rw [if_pos rfl,if_pos ⟨rfl,rfl⟩]
      | false=>rw [if_neg (by decide),if_neg (fun c=>by cases c.2)])
     clear HR1;(have HNA:=Hd (fun (c:ok=true)=>nextA_at (isVar_lt (hok.trans c))));have hnb:ob+1≤nextA L (ob+1):=nextA_ge hobl;generalize (tokAt L (ob+1)).x=x at HVR HR2;obtain⟨nb,hnbe⟩:∃nb,nextA L (ob+1)=nb:=⟨_,rfl⟩;rw [hnbe] at HVR HNA hnb;obtain⟨N,hN⟩:∃N,V.length=N:=⟨_,rfl⟩;have HNV:=Hd hN;obtain⟨M,hM⟩:∃M,G.length=M:=⟨_,rfl⟩;have HNG:=Hd hM;rw [hN] at hVa;rw [hM] at hGa;clear hov hka h0 hP E hv hav hw hK hok hnbe hN hM;(go_enter Tryz.func163,Tryz.ntmps163);(go_wp2_with fail);refine (HNX.out _ (HQ.out _ _ HW0.out)).mono ?_;rintro e w1 ⟨rfl,h1⟩;have HW1:=Hd (HW0.out.trans h1);have HV1:=Hd (wt_row h1 HV0.out hXl);have HG1:=Hd (wt_row h1 HG0.out hXl);(try have HY1:=Hd (h1.sameAt HY0.out hXY));clear h1;(go_wp2_with fail);refine (HAK.out _).mono ?_;rintro e w2 ⟨rfl,hb2⟩;have HW2:=Hd (HW1.out.upto hXl HW1.out.ch.size hb2);have HV2:=Hd (rowOn HV1.out hb2);have HG2:=Hd (rowOn HG1.out hb2);clear hb2;(have hXY:w2.heap.size≠X:=by have:=HW2.out.ch.size;omega);(have HVY:=Hd (fun g (hg:vv.ownBlock=some g)=>(show g≠w2.heap.size from by have:=(HV2.out.lt g hg).2;omega)));(have HGY:=Hd (fun g (hg:av.ownBlock=some g)=>(show g≠w2.heap.size from by have:=(HG2.out.lt g hg).2;omega)));have hbx:=box_below w2 (.cells #[.int .i64 k,.string ⟨#[]⟩,.string ⟨#[]⟩] 46);have HB2:=Hd (HW2.out.upto hXl HW2.out.ch.size hbx);have HBV:=Hd (rowOn HV2.out hbx);have HBG:=Hd (rowOn HG2.out hbx);have HBY:=Hd (blk_new w2 46 #[.int .i64 k,.string ⟨#[]⟩,.string ⟨#[]⟩]);clear hbx;(go_wp2_with fail);refine (HOV2.out _ (HQ.out _ _ HB2.out)).mono ?_;rintro e w3 ⟨rfl,h3⟩;have HW3:=Hd (HB2.out.trans h3);have HV3:=Hd (wt_row h3 HBV.out hXl);have HG3:=Hd (wt_row h3 HBG.out hXl);have HY3:=Hd (h3.sameAt HBY.out hXY);clear h3;(go_wp2_with fail);refine (HT4.out _ (HQ.out _ _ HW3.out)).mono ?_;rintro e w4 ⟨rfl,h4⟩;have HW4:=Hd (HW3.out.trans h4);have HV4:=Hd (wt_row h4 HV3.out hXl);have HG4:=Hd (wt_row h4 HG3.out hXl);(try have HY4:=Hd (h4.sameAt HY3.out hXY));clear h4;(go_wp2_with fail);refine (HVR.out _ (HQ.out _ _ HW4.out)).mono ?_;rintro e w5 ⟨rfl,h5⟩;have HW5:=Hd (HW4.out.trans h5);have HV5:=Hd (wt_row h5 HV4.out hXl);have HG5:=Hd (wt_row h5 HG4.out hXl);(try have HY5:=Hd (h5.sameAt HY4.out hXY));clear h5;have hYl:=blk_lt HY5.out;have hs5:=HW5.out.ch.size;have yz0:=blk_cell HY5.out 0;have yz1:=blk_cell HY5.out 1;have yz2:=blk_cell HY5.out 2;(simp at yz0 yz1 yz2);(have yf:=fun i=>blk_free HY5.out i);(have HVX:=Hd (fun g (hg:vv.ownBlock=some g)=>(show g≠X from by have:=(HV5.out.lt g hg).1;omega)));(have HGX:=Hd (fun g (hg:av.ownBlock=some g)=>(show g≠X from by have:=(HG5.out.lt g hg).1;omega)));go_wp2;obtain⟨W6,hW6⟩:∃W6,W6=((w5.setCell ⟨w2.heap.size,1,none⟩ (.string (bs ox))).setCell ⟨w2.heap.size,2,none⟩ (.string (bs x))):=⟨_,rfl⟩;(have HW6:=Hd (show WT X v L (Uh d vv av) (.slice none 0 0) nb w0 W6 from by rw [hW6];exact HW5.out.upto hXl (Nat.le_refl _) (by have:=HW2.out.ch.size;repeat (with_reducible (first|exact Below.refl _ _|exact box_below _ _|refine Below.drew ?_|refine Below.setCell ?_ (by first|exact Nat.le_refl _|omega|(dsimp only;omega)|(simp;omega)) _|refine Below.alloc ?_ (by first|exact Nat.le_refl _|omega|(simp;done)|(simp;omega)) _)))));(have HV6:=Hd (show W6.ownsRow w0.heap.size 9 1 vv V.length (textCells V) from by rw [hW6];exact row_setY (row_setY HV5.out HVY.out) HVY.out));(have HG6:=Hd (show W6.ownsRow w0.heap.size 46 3 av M (G.flatMap aggCells) from by rw [hW6];exact row_setY (row_setY (by have:=HG5.out;rw [HNG.out] at this;exact this) HGY.out) HGY.out));(have hyb:Blk W6 w2.heap.size 46 #[.int .i64 k,.string (bs ox),.string (bs x)]:=by rw [hW6];simpa using blk_set (blk_set HY5.out 1 (.string (bs ox))) 2 (.string (bs x)));(have hs6:W6.heap.size=w5.heap.size:=by rw [hW6];simp);rw [←hW6];clear hW6 yz0 yz1 yz2 yf;have yc0:=blk_cell hyb 0;have yc1:=blk_cell hyb 1;have yc2:=blk_cell hyb 2;(simp at yc0 yc1 yc2);(have yf:=fun i=>blk_free hyb i);(have xc5:W6.cell? ⟨X,5,none⟩=some av:=by rw [blk_cell HW6.out.blk];rfl);(have xc4:W6.cell? ⟨X,4,none⟩=some vv:=by rw [blk_cell HW6.out.blk];rfl);(have xf:=fun i=>blk_free HW6.out.blk i);(have hXY2:¬X=w2.heap.size:=fun c=>hXY c.symm);(have hX5:X<W6.heap.size:=by omega);(have hY6:w2.heap.size<W6.heap.size:=by omega);(have hsW:w0.heap.size≤W6.heap.size:=by omega);clear hyb hs6;(go_region_law (refine step_append_lies _ (by rfl) (.tmp 45) (.tmp 47) 23 (by rfl) w0.heap.size 46 j0 zeroAggV 3 40 Tryz.underlying23 ji jz0 jz1 jz2 rfl (by decide) _ _ _ rfl (HG6.out.alloc _) ⟨W6.heap.size,0,none⟩ 1 1 [.int .i64 k,.string (bs ox),.string (bs x)] rfl rfl (news_gen _ _ _ (by simp)) (by intro u hu;simp at hu;rcases hu with rfl|rfl|rfl<;>rfl) (by decide) (by unfold maxLen;omega) (by omega) (by simp;omega) (W6.heap.size+1) (by simp) ?_;intro g7 c7 w7 hown7 hgrow7 hat7 hlt7;have hg0:=grown_oneD hgrow7;have HA7:=Hd (hr_addG (x:=⟨k,ox,x⟩) hXl HW6.out HV6.out HG6.out HNG.out hown7 hg0);have hbk7:=grown_blk hg0 HW6.out.blk HGX.out;have q5:w7.cell? ⟨X,5,none⟩=some av:=(by rw [blk_cell hbk7];rfl);have q4:w7.cell? ⟨X,4,none⟩=some vv:=(by rw [blk_cell hbk7];rfl);have qf:=(fun i=>blk_free hbk7 i);have hs7:=hg0.size;have hlt8:=hlt7;clear hgrow7 hat7 hlt7 hown7 hg0 hbk7));(all_goals have HV8:=Hd (show World.ownsRow _ w0.heap.size 9 1 vv N (textCells V) from by have:=HA7.out.2.1;rw [HNV.out] at this;exact this));(all_goals go_wp2_with (at_builtin;go_must (refine wpList_append_own _ rfl (.tmp 57) (.tmp 59) 22 rfl w0.heap.size 9 i0 (.string ⟨#[]⟩) 1 16 Tryz.underlying22 hi hz0 hz1 hz2 rfl (by decide) _ _ _ rfl (HV8.out.alloc _) ⟨w7.heap.size,0,none⟩ 1 1 [.string (bs x)] rfl rfl (news_gen _ _ _ (by simp)) (by intro u hu;simp at hu;subst hu;rfl) (by unfold maxLen;omega) (by omega) (by simp;omega) ?_;intro v9 w9 hown9 hgrow9 hnil9;clear hnil9;obtain⟨v6,c6,rfl⟩:=row_slice hown9;have hg9:=grown_one hgrow9;have HA9:=Hd (hr_addV hXl HA7.out.1 HV8.out HNV.out HA7.out.2.2 hown9 hg9 (by rw [HNV.out];omega) (by rw [List.length_append,List.length_singleton,HNG.out];omega));have hbk9:=grown_blk hg9 HA7.out.1.blk HVX.out;have p4:w9.cell? ⟨X,4,none⟩=some vv:=(by rw [blk_cell hbk9];rfl);have pf:=(fun i=>blk_free hbk9 i);clear hown9 hgrow9 hg9 hbk9)));(all_goals go_ret);all_goals
      have hR2:=HR2.out;cases ok with
      | false =>
        (rw [if_neg (by decide)] at hR2);rw [←hR2];obtain⟨_,_,hw9,_⟩:=HA9.out;exact⟨rfl,wt_below hw9 hAX hXl⟩
      | true =>
        rw [if_pos rfl] at hR2;rw [←hR2];have hA9:=HA9.out;(have hnn:=HNA.out rfl);exact⟨rfl,by rw [hnn] at hA9;exact hA9⟩
theorem column_calls [Rsv] {A X:Nat} {v:Value} {L:List TokL} {a0:Nat} {U0:QV} {w0:World} (h0:QRd A X v L a0 U0 [] (.slice none 0 0) w0) (hP:U0.P=Rsv.P) (E:Env L) (d:Bool) (s:CS) (w:World) (hs:HR X v L d s w0 w):Calls Tryz.prog 122 #[.pointer (some ⟨X,0,none⟩)] w (HT A X v L d (colM L s) w0):=by
 obtain⟨sa,V,G⟩:=s;obtain⟨vv,av,hw,hv,hav,hVa,hGa⟩:=hs;have HW0:=Hd hw;(have HQ:=Hd (fun (b:Nat) (w':World) (ht:WT X v L (Uh d vv av) (.slice none 0 0) b w0 w')=>wtU ht h0 hP.symm));have HV0:=Hd hv;have HG0:=Hd hav;have hXl:=blk_lt h0.blk;have hAX:=h0.low;have hsw:=hw.ch.size;have hLl:=E.len;have hsa:=hw.le;dsimp only at *;obtain⟨i0,hi,hz0,hz1,hz2⟩:=info_parts info_strQ;obtain⟨R,hR⟩:∃R,colM L ⟨sa,V,G⟩=R:=⟨_,rfl⟩;rw [hR];(unfold colM at hR);dsimp only at hR;cases hK:isW L sa 5 s_open with
 | true =>
   rw [if_pos hK] at hR;have hsl:=isW_lt hK;(have HT1:=Hd (fun W (hW:QRd A X v L sa (Uh d vv av) [] (.slice none 0 0) W)=>wsign_calls hW E.len s_open true hK _ rfl));(have HAG:=Hd (fun w1 h=>aggregate_calls h0 hP E d ⟨sa+1,V,G⟩ w1 h));dsimp only at HAG;cases hag:aggM L (sa+1) with
   | none =>
     rw [hag] at hR HAG;dsimp only at hR;have HRR:=Hd hR;clear h0 hP E hv hav hw hK hR hag;(go_enter Tryz.func122,Tryz.ntmps122);(go_wp2_with fail);refine (HT1.out _ (HQ.out _ _ HW0.out)).mono ?_;rintro e w1 ⟨rfl,h1⟩;have HW1:=Hd (HW0.out.trans h1);have HV1:=Hd (wt_row h1 HV0.out hXl);have HG1:=Hd (wt_row h1 HG0.out hXl);(try have HY1:=Hd (h1.sameAt HY0.out hXY));clear h1;(go_wp2_with fail);(refine (HAG.out w1 ⟨vv,av,HW1.out,HV1.out,HG1.out,by dsimp only;omega,by dsimp only;omega⟩).mono ?_);rintro e w2 ⟨rfl,h2⟩;have H2:=Hd h2;clear h2;go_wp2;go_ret;rw [←HRR.out];exact⟨rfl,H2.out⟩
   | some g =>
     rw [hag] at hR HAG;dsimp only at hR;obtain⟨C,hC⟩:∃C,isW L g.2 5 s_close=C:=⟨_,rfl⟩;rw [hC] at hR;have HRR:=Hd hR;(have HT3:=Hd (fun vv av W (hW:QRd A X v L g.2 (Uh d vv av) [] (.slice none 0 0) W)=>wsign_calls hW E.len s_close C hC _ rfl));(have HQ2:=Hd (fun vv av (b:Nat) (w':World) (ht:WT X v L (Uh d vv av) (.slice none 0 0) b w0 w')=>wtU ht h0 hP.symm));(have hgl:C=true→g.2<L.length:=fun c=>isW_lt (hC.trans c));clear h0 hP E hv hav hw hK hR hag hC;(go_enter Tryz.func122,Tryz.ntmps122);(go_wp2_with fail);refine (HT1.out _ (HQ.out _ _ HW0.out)).mono ?_;rintro e w1 ⟨rfl,h1⟩;have HW1:=Hd (HW0.out.trans h1);have HV1:=Hd (wt_row h1 HV0.out hXl);have HG1:=Hd (wt_row h1 HG0.out hXl);(try have HY1:=Hd (h1.sameAt HY0.out hXY));clear h1;(go_wp2_with fail);(refine (HAG.out w1 ⟨vv,av,HW1.out,HV1.out,HG1.out,by dsimp only;omega,by dsimp only;omega⟩).mono ?_);rintro e w2 ⟨rfl,vv2,av2,hw2,hv2,ha2,hVa2,hGa2⟩;dsimp only at hw2 hv2 ha2 hVa2 hGa2;have HW2:=Hd hw2;have HV2:=Hd hv2;have HG2:=Hd ha2;have HB2:=Hd hVa2;have HB3:=Hd hGa2;clear hw2 hv2 ha2 hVa2 hGa2;(go_wp2_with fail);refine (HT3.out vv2 av2 _ (HQ2.out vv2 av2 _ _ HW2.out)).mono ?_;rintro e w3 ⟨rfl,h3⟩;have HW3:=Hd (HW2.out.trans h3);have HV3:=Hd (wt_row h3 HV2.out hXl);have HG3:=Hd (wt_row h3 HG2.out hXl);clear h3;go_wp2;go_ret;have hR:=HRR.out;cases C with
     | false =>
       (rw [if_neg (by decide)] at hR);rw [←hR];exact⟨rfl,wt_below HW3.out hAX hXl⟩
     | true =>
       rw [if_pos rfl] at hR;rw [←hR];have e1:=HB2.out;have e2:=HB3.out;exact⟨rfl,vv2,av2,HW3.out,HV3.out,HG3.out,by dsimp only;omega,by dsimp only;omega⟩
 | false =>
   (rw [if_neg (by rw [hK];decide)] at hR);(have HT1:=Hd (fun W (hW:QRd A X v L sa (Uh d vv av) [] (.slice none 0 0) W)=>wsign_calls hW E.len s_open false hK _ rfl));(have HVR:=Hd (fun W (hW:QRd A X v L sa (Uh d vv av) [] (.slice none 0 0) W)=>wvar_calls hW E.len (E.tok sa)));obtain⟨ok,hok⟩:∃ok,isVar (tokAt L sa)=ok:=⟨_,rfl⟩;rw [hok] at HVR hR;(have HNA:=Hd (fun (c:ok=true)=>nextA_at (isVar_lt (hok.trans c))));(have HNL:=Hd (fun (c:ok=true)=>isVar_lt (hok.trans c)));generalize (tokAt L sa).x=x at HVR hR;obtain⟨nb,hnbe⟩:∃nb,nextA L sa=nb:=⟨_,rfl⟩;rw [hnbe] at HVR HNA;obtain⟨N,hN⟩:∃N,V.length=N:=⟨_,rfl⟩;have HNV:=Hd hN;have HRR:=Hd hR;rw [hN] at hVa;cases ok with
   | false =>
     (rw [if_neg (by decide)] at hR);(have hnb:nb≤L.length:=by rw [←hnbe];exact nextA_le _ _);have HR3:=Hd hR;clear h0 hP E hv hav hw hK hR hok hnbe hN HRR;(go_enter Tryz.func122,Tryz.ntmps122);(go_wp2_with fail);refine (HT1.out _ (HQ.out _ _ HW0.out)).mono ?_;rintro e w1 ⟨rfl,h1⟩;have HW1:=Hd (HW0.out.trans h1);have HV1:=Hd (wt_row h1 HV0.out hXl);have HG1:=Hd (wt_row h1 HG0.out hXl);(try have HY1:=Hd (h1.sameAt HY0.out hXY));clear h1;(go_wp2_with fail);refine (HVR.out _ (HQ.out _ _ HW1.out)).mono ?_;rintro e w2 ⟨rfl,h2⟩;have HW2:=Hd (HW1.out.trans h2);have HV2:=Hd (wt_row h2 HV1.out hXl);have HG2:=Hd (wt_row h2 HG1.out hXl);(try have HY2:=Hd (h2.sameAt HY1.out hXY));clear h2;(have HV8:=Hd (show w2.ownsRow w0.heap.size 9 1 vv N (textCells V) from by have:=HV2.out;rw [HNV.out] at this;exact this));have hs2:=HW2.out.ch.size;(have xc4:w2.cell? ⟨X,4,none⟩=some vv:=by rw [blk_cell HW2.out.blk];rfl);(have HVX:=Hd (fun g (hg:vv.ownBlock=some g)=>(show g≠X from by have:=(HV8.out.lt g hg).1;omega)));(go_wp2_with (at_builtin;go_must (refine wpList_append_own _ rfl (.tmp 29) (.tmp 31) 22 rfl w0.heap.size 9 i0 (.string ⟨#[]⟩) 1 16 Tryz.underlying22 hi hz0 hz1 hz2 rfl (by decide) _ _ _ rfl (HV8.out.alloc _) ⟨w2.heap.size,0,none⟩ 1 1 [.string (bs x)] rfl rfl (news_gen _ _ _ rfl) (by intro u hu;simp at hu;subst hu;rfl) (by unfold maxLen;omega) (by omega) (by simp;omega) ?_;intro v9 w9 hown9 hgrow9 hnil9;clear hnil9;obtain⟨v6,c6,rfl⟩:=row_slice hown9;have hg9:=grown_one hgrow9;have HA9:=Hd (grown_belowQ hg9 (fun q hq=>(HV8.out.lt q hq).1) hs2);have hbk9:=grown_blk hg9 HW2.out.blk HVX.out;have p4:w9.cell? ⟨X,4,none⟩=some vv:=(by rw [blk_cell hbk9];rfl);have pf:=(fun i=>blk_free hbk9 i);clear hown9 hgrow9 hg9 hbk9)));go_ret;rw [←HR3.out];refine⟨rfl,(wt_below HW2.out hAX hXl).trans ((Below.mono HA9.out (by omega)).trans (Below.setCell (p:=⟨X,4,none⟩) (Below.refl _ _) hAX _))⟩
   | true =>
     rw [if_pos rfl] at hR;(have hsl:=HNL.out rfl);(have hnb:nb=sa+1:=HNA.out rfl);subst hnb;have HR3:=Hd hR;clear h0 hP E hv hav hw hK hR hok hnbe hN HRR;(go_enter Tryz.func122,Tryz.ntmps122);(go_wp2_with fail);refine (HT1.out _ (HQ.out _ _ HW0.out)).mono ?_;rintro e w1 ⟨rfl,h1⟩;have HW1:=Hd (HW0.out.trans h1);have HV1:=Hd (wt_row h1 HV0.out hXl);have HG1:=Hd (wt_row h1 HG0.out hXl);(try have HY1:=Hd (h1.sameAt HY0.out hXY));clear h1;(go_wp2_with fail);refine (HVR.out _ (HQ.out _ _ HW1.out)).mono ?_;rintro e w2 ⟨rfl,h2⟩;have HW2:=Hd (HW1.out.trans h2);have HV2:=Hd (wt_row h2 HV1.out hXl);have HG2:=Hd (wt_row h2 HG1.out hXl);(try have HY2:=Hd (h2.sameAt HY1.out hXY));clear h2;(have HV8:=Hd (show w2.ownsRow w0.heap.size 9 1 vv N (textCells V) from by have:=HV2.out;rw [HNV.out] at this;exact this));have hs2:=HW2.out.ch.size;(have xc4:w2.cell? ⟨X,4,none⟩=some vv:=by rw [blk_cell HW2.out.blk];rfl);(have HVX:=Hd (fun g (hg:vv.ownBlock=some g)=>(show g≠X from by have:=(HV8.out.lt g hg).1;omega)));(go_wp2_with (at_builtin;go_must (refine wpList_append_own _ rfl (.tmp 29) (.tmp 31) 22 rfl w0.heap.size 9 i0 (.string ⟨#[]⟩) 1 16 Tryz.underlying22 hi hz0 hz1 hz2 rfl (by decide) _ _ _ rfl (HV8.out.alloc _) ⟨w2.heap.size,0,none⟩ 1 1 [.string (bs x)] rfl rfl (news_gen _ _ _ rfl) (by intro u hu;simp at hu;subst hu;rfl) (by unfold maxLen;omega) (by omega) (by simp;omega) ?_;intro v9 w9 hown9 hgrow9 hnil9;clear hnil9;obtain⟨v6,c6,rfl⟩:=row_slice hown9;have hg9:=grown_one hgrow9;have HA9:=Hd (hr_addV hXl HW2.out HV8.out HNV.out HG2.out hown9 hg9 (by rw [HNV.out];omega) (by omega));have hbk9:=grown_blk hg9 HW2.out.blk HVX.out;have p4:w9.cell? ⟨X,4,none⟩=some vv:=(by rw [blk_cell hbk9];rfl);have pf:=(fun i=>blk_free hbk9 i);clear hown9 hgrow9 hg9 hbk9)));go_ret;rw [←HR3.out];exact⟨rfl,HA9.out⟩
theorem over_goes {L:List TokL} {k:Int} {a:Nat} {o:List UInt8×Nat} (h:overM L k a=some o):o.2=a+3:=by
  unfold overM at h
  split at h
  · split at h
    · split at h
      · simp at h;rw [←h]
      · cases h
    · split at h
      · simp at h;rw [←h]
      · cases h
  · cases h
theorem agg_goes {L:List TokL} {a:Nat} {g:AggL×Nat} (h:aggM L a=some g):g.2=a+6:=by
  unfold aggM at h
  split at h
  · cases h
  · rename_i o ho
    have:=over_goes ho
    split at h
    · simp at h;rw [←h];dsimp only;omega
    · cases h
theorem col_goes {L:List TokL} {s t:CS} (h:colM L s=some t):s.a<t.a∧t.a≤L.length:=by
  unfold colM at h
  split at h
  · split at h
    · cases h
    · rename_i g hg
      have:=agg_goes hg
      split at h
      · rename_i hc
        have:=isW_lt hc
        simp at h;rw [←h];dsimp only;omega
      · cases h
  · split at h
    · rename_i hv
      have:=isVar_lt hv
      simp at h;rw [←h];dsimp only;omega
    · cases h
def ClsR [Rsv] (X:Nat) (v:Value) (L:List TokL) (d:Bool) (R:Option CS) (w0:World) (g:Nat) (m:Bool) (wr:World):Prop :=
  ∃s,HR X v L d s w0 wr∧(m=true→L.length+1≤s.a+g∧s.a≤L.length)∧(if m=true then colsM L g s=R else R=some s)
theorem columns_calls [Rsv] {A X:Nat} {v:Value} {L:List TokL} {a0:Nat} {U0:QV} {w0:World} (h0:QRd A X v L a0 U0 [] (.slice none 0 0) w0) (hP:U0.P=Rsv.P) (E:Env L) (d:Bool) (s:CS) (w:World) (hs:HR X v L d s w0 w) (hsa:s.a≤L.length):Calls Tryz.prog 80 #[.pointer (some ⟨X,0,none⟩)] w (HT A X v L d (colsM L (L.length+1) s) w0):=by
 (have HCO:=Hd (fun s w1 h=>column_calls h0 hP E d s w1 h));(have HIS:=Hd (fun vv av b K W (hW:QRd A X v L b (Uh d vv av) [] (.slice none 0 0) W) (hK:isW L b 1 kWHERE=K)=>qis_calls hW E.len 1 kWHERE K hK));(have HQ2:=Hd (fun vv av (b:Nat) (w':World) (ht:WT X v L (Uh d vv av) (.slice none 0 0) b w0 w')=>wtU ht h0 hP.symm));have hXl:=blk_lt h0.blk;have hAX:=h0.low;obtain⟨R,hR⟩:∃R,colsM L (L.length+1) s=R:=⟨_,rfl⟩;have HR:=Hd hR;rw [hR];have HS:=Hd hs;clear h0 hP E hs hR;(go_enter Tryz.func80,Tryz.ntmps80);go_wp2;go_loopg [3] (L.length+1) (fun g mv wr=>∃m,mv=.bool m∧Hid (ClsR X v L d R w0 g m wr))
 case atStart=>exact⟨true,rfl,Hd ⟨s,HS.out,fun _=>⟨by omega,hsa⟩,by rw [if_pos rfl];exact HR.out⟩⟩
 case round =>
  obtain⟨W1,rfl⟩:∃W1,W1=wr:=⟨_,rfl⟩;obtain⟨m,rfl,hrel⟩:=hrel;obtain⟨s1,hs1,hfu,hrun⟩:=hrel.out;have HS1:=Hd hs1;clear hs1 hrel;cases m with
  | false =>
    (rw [if_neg (by decide)] at hrun);have HRR:=Hd hrun;clear hrun;go_wp2;go_ret;rw [HRR.out];exact⟨rfl,HS1.out⟩
  | true =>
    (obtain⟨hf1,hf2⟩:=hfu rfl);(obtain⟨g,rfl⟩:∃g,gk=g+1:=⟨gk-1,by omega⟩);rw [if_pos rfl,colsM] at hrun;have HC:=Hd (HCO.out s1 _ HS1.out);cases hc:colM L s1 with
    | none =>
      rw [hc] at hrun HC;have HRR:=Hd hrun;clear hrun hc;(go_wp2_with fail);refine HC.out.mono ?_;rintro e w2 ⟨rfl,h2⟩;have H2:=Hd h2;clear h2;go_wp2;go_ret;rw [←HRR.out];exact⟨rfl,H2.out⟩
    | some t =>
      have hg:=col_goes hc;rw [hc] at hrun HC;dsimp only at hrun;obtain⟨K,hK⟩:∃K,isW L t.a 1 kWHERE=K:=⟨_,rfl⟩;(have HI:=Hd (fun vv av W hW=>HIS.out vv av t.a K W hW hK));rw [hK] at hrun;have HRR:=Hd hrun;clear hrun hc hK;(go_wp2_with fail);refine HC.out.mono ?_;rintro e w2 ⟨rfl,vv2,av2,hw2,hv2,ha2,hb2,hb3⟩;have HW2:=Hd hw2;have HV2:=Hd hv2;have HG2:=Hd ha2;have HB2:=Hd hb2;have HB3:=Hd hb3;clear hw2 hv2 ha2 hb2 hb3;(go_wp2_with fail);refine (HI.out vv2 av2 _ (HQ2.out vv2 av2 _ _ HW2.out)).mono ?_;rintro e w3 ⟨rfl,n,rfl⟩;have HX:=Hd (show ClsR X v L d R w0 g (!K) (w2.drewN n) from by
       (refine⟨t,⟨vv2,av2,HW2.out.upto hXl HW2.out.ch.size (below_draws _ n),rowOn HV2.out (below_draws _ n),rowOn HG2.out (below_draws _ n),HB2.out,HB3.out⟩,fun _=>by omega,?_⟩);have:=HRR.out;cases K with
       | true=>rw [if_pos rfl] at this;exact this.symm
       | false=>rw [if_neg (by decide)] at this;exact this)
      go_wp2;go_roundg g
      case measure=>omega
      case rel=>exact⟨!K,rfl,HX⟩
end
section
open Go.RowKit
def ErrG (A:Nat) (w:World):Prop:=∃e1 e2,w.cell? ⟨0,0,none⟩=some e1∧(e1=.nilIface∨∃te pe,e1=.iface te pe)∧w.cell? ⟨1,0,none⟩=some e2∧(e2=.nilIface∨∃te pe,e2=.iface te pe)∧0<A∧1<A
theorem ErrG.on {A:Nat} {w w':World} (h:ErrG A w) (hb:Below A w w'):ErrG A w':=by
  obtain⟨e1,e2,h1,h2,h3,h4,h5,h6⟩:=h
  exact⟨e1,e2,kpB hb h5 h1,h2,kpB hb h6 h3,h4,h5,h6⟩
theorem atoi_calls {A:Nat} (x:List UInt8) (hx:x.length≤100000) (w:World) (hg:ErrG A w):Calls Tryz.prog 86 #[.string (bs x)] w fun e w'=>∃ev,e=.returned (.tuple #[.int .i64 (numOf x),ev])∧Below w.heap.size w w':=by
 obtain⟨e1,e2,h1,h2,h3,h4,_,_⟩:=hg;(have hs:(bs x).size≤281474976710656:=by rw [bs_size];omega);rcases hz:Lib.atoiAll x with v|_|_
 ·(refine (Tryz.strconv_Atoi_ok (bs x) (Nat.le_trans hs (by decide)) v hz w).mono ?_);rintro e w' ⟨rfl,rfl|⟨t,rfl⟩⟩
  ·exact⟨_,by unfold numOf;rw [hz],Below.refl _ _⟩
  ·exact⟨_,by unfold numOf;rw [hz],Go.Joins.below_bytesWorld _ _ _ _ (Nat.le_refl _)⟩
 ·refine (Tryz.strconv_Atoi_syntax (bs x) hs hz e1 w h1 h2).mono ?_;rintro e w' ⟨N,rfl,_,_,hb⟩;exact⟨_,by unfold numOf;rw [hz],hb⟩
 ·refine (Tryz.strconv_Atoi_range (bs x) hs hz e2 w h3 h4).mono ?_;rintro e w' ⟨N,rfl,_,_,hb⟩;exact⟨_,by unfold numOf;rw [hz];rfl,hb⟩
theorem isKey_calls {A X:Nat} {v cv:Value} {L:List TokL} {a:Nat} {U:QV} {C:List OpL} {w:World} (h:QRd A X v L a U C cv w) (E:Env L):Calls Tryz.prog 83 #[.pointer (some ⟨X,0,none⟩)] w fun e w'=>e=.returned (.bool (isKeyW L a))∧Below w.heap.size w w':=by
 have H0:=Hd h;have HA:=Hd (qahead_calls h E.len);(have HI:=Hd (fun s K W (hW:QRd A X v L a U C cv W) (hK:isW L a 1 s=K)=>qis_calls hW E.len 1 s K hK));(have HK:=Hd (show isKeyW L a=(decide ((tokAt L a).k=2)||(isW L a 1 kASC||isW L a 1 kDESC)) from rfl));obtain⟨R,hR⟩:∃R,isKeyW L a=R:=⟨_,rfl⟩;rw [hR] at HK ⊢;obtain⟨P1,h1⟩:∃P,isW L a 1 kASC=P:=⟨_,rfl⟩;obtain⟨P2,h2⟩:∃P,isW L a 1 kDESC=P:=⟨_,rfl⟩;rw [h1,h2] at HK;(have HI1:=Hd (fun W hW=>HI.out kASC P1 W hW h1));(have HI2:=Hd (fun W hW=>HI.out kDESC P2 W hW h2));generalize tokAt L a=y at HA HK;obtain⟨yk,yx,⟨uk,ux,uy,uz⟩,ya⟩:=y;(simp only [TokL.v] at HA);(have hfld:∀W,(Instr.field 69 (.agg #[.int .i64 yk,.string (bs yx),.int .i64 uk,.string (bs ux),.string (bs uy),.string (bs uz),.int .i64 ya]) 0).run Tryz.prog W=.ok (.int .i64 yk) W:=fun _=>by kernel_rfl);clear h E hR h1 h2 HI;by_cases h2:yk=2
 ·subst h2;(go_enter Tryz.func83,Tryz.ntmps83);(go_wp2_with fail);refine HA.out.mono ?_;rintro e w1 ⟨rfl,hb1⟩;have HB1:=Hd hb1;clear hb1;go_wp2;go_ret;exact⟨by rw [HK.out];rfl,HB1.out⟩
 ·have g2:(yk==2)=false:=beq_eq_false_iff_ne.2 h2;(have HK2:=Hd (show R=(P1||P2) from by rw [HK.out];simp [h2]));clear h2 HK;cases P1 with
  | true =>
    (go_enter Tryz.func83,Tryz.ntmps83);(go_wp2_with fail);refine HA.out.mono ?_;rintro e w1 ⟨rfl,hb1⟩;have HB1:=Hd hb1;clear hb1;(go_wp2_with fail);refine (HI1.out _ (H0.out.on HB1.out)).mono ?_;rintro e w2 ⟨rfl,n,rfl⟩;go_wp2;go_ret;exact⟨by rw [HK2.out];rfl,below_drawn HB1.out n⟩
  | false =>
    (go_enter Tryz.func83,Tryz.ntmps83);(go_wp2_with fail);refine HA.out.mono ?_;rintro e w1 ⟨rfl,hb1⟩;have HB1:=Hd hb1;clear hb1;(go_wp2_with fail);refine (HI1.out _ (H0.out.on HB1.out)).mono ?_;rintro e w2 ⟨rfl,n,rfl⟩;(go_wp2_with fail);refine (HI2.out _ (H0.out.on (below_drawn HB1.out n))).mono ?_;rintro e w3 ⟨rfl,m,rfl⟩;go_wp2;go_ret;exact⟨by rw [HK2.out];rfl,below_drawn HB1.out (n+m)⟩
def KeyT (X:Nat) (v:Value) (L:List TokL) (U:QV) (cv:Value) (r:Option (KeyL×Nat)) (w:World) (e:Ending) (w':World):Prop :=
  match r with
  | none=>∃x y b,e=.returned (.tuple #[.agg #[.string x,.bool y],.bool false])∧WT X v L U cv b w w'
  | some k=>e=.returned (.tuple #[.agg #[.string (bs k.1.m),.bool k.1.d],.bool true])∧WT X v L U cv k.2 w w'
theorem keyM_bra {L:List TokL} {a:Nat} {D:Bool} (hD:isW L a 1 kDESC=D) (h:isW L a 1 kDESC=true∨isW L a 1 kASC=true):keyM L a=(braM L (a+1)).map fun o=>(⟨o.1,D⟩,o.2):=by
  unfold keyM braM
  rw [if_pos h,hD]
  by_cases hc:isW L (a+1) 5 s_open=true∧isVar (tokAt L (a+2))=true∧isW L (a+3) 5 s_close=true
  · rw [if_pos hc,if_pos hc];rfl
  · rw [if_neg hc,if_neg hc];rfl
theorem key_calls {A X:Nat} {v cv:Value} {L:List TokL} {a:Nat} {U:QV} {C:List OpL} {w:World} (h:QRd A X v L a U C cv w) (E:Env L):Calls Tryz.prog 84 #[.pointer (some ⟨X,0,none⟩)] w (KeyT X v L U cv (keyM L a) w):=by
 have H00:=Hd h;have hX:=blk_lt h.blk;have hbx:=box_below w (.cells #[.string ⟨#[]⟩,.bool false] 48);have H0:=Hd (h.on hbx);have H1:=Hd (wt_on h hbx);have HZ1:=Hd (blk_new w 48 #[.string ⟨#[]⟩,.bool false]);(have hzX:w.heap.size≠X:=by omega);(have HBR:=Hd (fun W (hW:QRd A X v L (a+1) U C cv W)=>bra_calls hW E));(have HVR:=Hd (fun W (hW:QRd A X v L a U C cv W)=>wvar_calls hW E.len (E.tok a)));obtain⟨R,hR⟩:∃R,keyM L a=R:=⟨_,rfl⟩;rw [hR];clear hbx;cases hD:isW L a 1 kDESC with
 | true =>
   (have HT2:=Hd (fun W (hW:QRd A X v L a U C cv W)=>wword_calls hW E.len kDESC true hD _ rfl));rw [keyM_bra hD (.inl hD)] at hR;cases hb:braM L (a+1) with
   | none =>
     rw [hb] at hR HBR;(have HRR:=Hd (show none=R from hR));clear h E hb hR hD HVR;(go_enter Tryz.func84,Tryz.ntmps84);(go_wp2_with fail);refine (HT2.out _ (H1.out.qrd H00.out)).mono ?_;rintro e w2 ⟨rfl,h2⟩;have H2:=Hd (H1.out.trans h2);have HZ2:=Hd (h2.sameAt HZ1.out hzX);clear h2;(go_wp2_with fail);refine (HBR.out _ (H2.out.qrd H00.out)).mono ?_;rintro e w3 ⟨x,b,rfl,h3⟩;have H3:=Hd (H2.out.trans h3);have HZ3:=Hd (h3.sameAt HZ2.out hzX);clear h3;(have zf:=fun i=>blk_free HZ3.out i);have zc0:=blk_cell HZ3.out 0;have zc1:=blk_cell HZ3.out 1;(simp at zc0 zc1);go_wp2;(refine bodyPost_ret (v:=.tuple #[.agg #[.string x,.bool true],.bool false]) (by simp [results,Tryz.results84,go_sem,zc0,zc1]) rfl ?_);rw [←HRR.out];exact⟨_,_,_,rfl,H3.out.upto hX (Nat.le_refl _) (by repeat (with_reducible (first|exact Below.refl _ _|exact box_below _ _|refine Below.drew ?_|refine Below.setCell ?_ (by first|exact Nat.le_refl _|omega|(dsimp only;omega)|(simp;omega)) _|refine Below.alloc ?_ (by first|exact Nat.le_refl _|omega|(simp;done)|(simp;omega)) _)))⟩
   | some o =>
     rw [hb] at hR HBR;obtain⟨ox,ob⟩:=o;(have HRR:=Hd (show some ((⟨ox,true⟩:KeyL),ob)=R from hR));clear h E hb hR hD HVR;(go_enter Tryz.func84,Tryz.ntmps84);(go_wp2_with fail);refine (HT2.out _ (H1.out.qrd H00.out)).mono ?_;rintro e w2 ⟨rfl,h2⟩;have H2:=Hd (H1.out.trans h2);have HZ2:=Hd (h2.sameAt HZ1.out hzX);clear h2;(go_wp2_with fail);refine (HBR.out _ (H2.out.qrd H00.out)).mono ?_;rintro e w3 ⟨rfl,h3⟩;have H3:=Hd (H2.out.trans h3);have HZ3:=Hd (h3.sameAt HZ2.out hzX);clear h3;(have zf:=fun i=>blk_free HZ3.out i);have zc0:=blk_cell HZ3.out 0;have zc1:=blk_cell HZ3.out 1;(simp at zc0 zc1);go_wp2;(refine bodyPost_ret (v:=.tuple #[.agg #[.string (bs ox),.bool true],.bool true]) (by simp [results,Tryz.results84,go_sem,zc0,zc1]) rfl ?_);rw [←HRR.out];exact⟨rfl,H3.out.upto hX (Nat.le_refl _) (by repeat (with_reducible (first|exact Below.refl _ _|exact box_below _ _|refine Below.drew ?_|refine Below.setCell ?_ (by first|exact Nat.le_refl _|omega|(dsimp only;omega)|(simp;omega)) _|refine Below.alloc ?_ (by first|exact Nat.le_refl _|omega|(simp;done)|(simp;omega)) _)))⟩
 | false =>
   (have HT2:=Hd (fun W (hW:QRd A X v L a U C cv W)=>wword_calls hW E.len kDESC false hD _ rfl));cases hA:isW L a 1 kASC with
   | true =>
     (have HT3:=Hd (fun W (hW:QRd A X v L a U C cv W)=>wword_calls hW E.len kASC true hA _ rfl));rw [keyM_bra hD (.inr hA)] at hR;cases hb:braM L (a+1) with
     | none =>
       rw [hb] at hR HBR;(have HRR:=Hd (show none=R from hR));clear h E hb hR hD hA HVR;(go_enter Tryz.func84,Tryz.ntmps84);(go_wp2_with fail);refine (HT2.out _ (H1.out.qrd H00.out)).mono ?_;rintro e w2 ⟨rfl,h2⟩;have H2:=Hd (H1.out.trans h2);have HZ2:=Hd (h2.sameAt HZ1.out hzX);clear h2;(go_wp2_with fail);refine (HT3.out _ (H2.out.qrd H00.out)).mono ?_;rintro e w3 ⟨rfl,h3⟩;have H3:=Hd (H2.out.trans h3);have HZ3:=Hd (h3.sameAt HZ2.out hzX);clear h3;(go_wp2_with fail);refine (HBR.out _ (H3.out.qrd H00.out)).mono ?_;rintro e w4 ⟨x,b,rfl,h4⟩;have H4:=Hd (H3.out.trans h4);have HZ4:=Hd (h4.sameAt HZ3.out hzX);clear h4;(have zf:=fun i=>blk_free HZ4.out i);have zc0:=blk_cell HZ4.out 0;have zc1:=blk_cell HZ4.out 1;(simp at zc0 zc1);go_wp2;(refine bodyPost_ret (v:=.tuple #[.agg #[.string x,.bool false],.bool false]) (by simp [results,Tryz.results84,go_sem,zc0,zc1]) rfl ?_);rw [←HRR.out];exact⟨_,_,_,rfl,H4.out.upto hX (Nat.le_refl _) (by repeat (with_reducible (first|exact Below.refl _ _|exact box_below _ _|refine Below.drew ?_|refine Below.setCell ?_ (by first|exact Nat.le_refl _|omega|(dsimp only;omega)|(simp;omega)) _|refine Below.alloc ?_ (by first|exact Nat.le_refl _|omega|(simp;done)|(simp;omega)) _)))⟩
     | some o =>
       rw [hb] at hR HBR;obtain⟨ox,ob⟩:=o;(have HRR:=Hd (show some ((⟨ox,false⟩:KeyL),ob)=R from hR));clear h E hb hR hD hA HVR;(go_enter Tryz.func84,Tryz.ntmps84);(go_wp2_with fail);refine (HT2.out _ (H1.out.qrd H00.out)).mono ?_;rintro e w2 ⟨rfl,h2⟩;have H2:=Hd (H1.out.trans h2);have HZ2:=Hd (h2.sameAt HZ1.out hzX);clear h2;(go_wp2_with fail);refine (HT3.out _ (H2.out.qrd H00.out)).mono ?_;rintro e w3 ⟨rfl,h3⟩;have H3:=Hd (H2.out.trans h3);have HZ3:=Hd (h3.sameAt HZ2.out hzX);clear h3;(go_wp2_with fail);refine (HBR.out _ (H3.out.qrd H00.out)).mono ?_;rintro e w4 ⟨rfl,h4⟩;have H4:=Hd (H3.out.trans h4);have HZ4:=Hd (h4.sameAt HZ3.out hzX);clear h4;(have zf:=fun i=>blk_free HZ4.out i);have zc0:=blk_cell HZ4.out 0;have zc1:=blk_cell HZ4.out 1;(simp at zc0 zc1);go_wp2;(refine bodyPost_ret (v:=.tuple #[.agg #[.string (bs ox),.bool false],.bool true]) (by simp [results,Tryz.results84,go_sem,zc0,zc1]) rfl ?_);rw [←HRR.out];exact⟨rfl,H4.out.upto hX (Nat.le_refl _) (by repeat (with_reducible (first|exact Below.refl _ _|exact box_below _ _|refine Below.drew ?_|refine Below.setCell ?_ (by first|exact Nat.le_refl _|omega|(dsimp only;omega)|(simp;omega)) _|refine Below.alloc ?_ (by first|exact Nat.le_refl _|omega|(simp;done)|(simp;omega)) _)))⟩
   | false =>
     (have HT3:=Hd (fun W (hW:QRd A X v L a U C cv W)=>wword_calls hW E.len kASC false hA _ rfl));(unfold keyM at hR);(rw [if_neg (fun c=>c.elim (fun d=>by rw [hD] at d;cases d) (fun d=>by rw [hA] at d;cases d))] at hR);obtain⟨ok,hok⟩:∃ok,isVar (tokAt L a)=ok:=⟨_,rfl⟩;rw [hok] at hR HVR;(have HNA:=Hd (fun (c:ok=true)=>nextA_at (isVar_lt (hok.trans c))));generalize (tokAt L a).x=x at hR HVR;have HRR:=Hd hR;clear h E hR hD hA HBR hok;(go_enter Tryz.func84,Tryz.ntmps84);(go_wp2_with fail);refine (HT2.out _ (H1.out.qrd H00.out)).mono ?_;rintro e w2 ⟨rfl,h2⟩;have H2:=Hd (H1.out.trans h2);have HZ2:=Hd (h2.sameAt HZ1.out hzX);clear h2;(go_wp2_with fail);refine (HT3.out _ (H2.out.qrd H00.out)).mono ?_;rintro e w3 ⟨rfl,h3⟩;have H3:=Hd (H2.out.trans h3);have HZ3:=Hd (h3.sameAt HZ2.out hzX);clear h3;(go_wp2_with fail);refine (HVR.out _ (H3.out.qrd H00.out)).mono ?_;rintro e w4 ⟨rfl,h4⟩;have H4:=Hd (H3.out.trans h4);have HZ4:=Hd (h4.sameAt HZ3.out hzX);clear h4;(have zf:=fun i=>blk_free HZ4.out i);have zc0:=blk_cell HZ4.out 0;have zc1:=blk_cell HZ4.out 1;(simp at zc0 zc1);go_wp2;(refine bodyPost_ret (v:=.tuple #[.agg #[.string (bs x),.bool false],.bool ok]) (by simp [results,Tryz.results84,go_sem,zc0,zc1]) rfl ?_);have hR:=HRR.out;cases ok with
     | false =>
       (rw [if_neg (by decide)] at hR);rw [←hR];exact⟨_,_,_,rfl,H4.out.upto hX (Nat.le_refl _) (by repeat (with_reducible (first|exact Below.refl _ _|exact box_below _ _|refine Below.drew ?_|refine Below.setCell ?_ (by first|exact Nat.le_refl _|omega|(dsimp only;omega)|(simp;omega)) _|refine Below.alloc ?_ (by first|exact Nat.le_refl _|omega|(simp;done)|(simp;omega)) _)))⟩
     | true =>
       rw [if_pos rfl] at hR;rw [←hR];have H5:=H4.out;rw [HNA.out rfl] at H5;exact⟨rfl,H5.upto hX (Nat.le_refl _) (by repeat (with_reducible (first|exact Below.refl _ _|exact box_below _ _|refine Below.drew ?_|refine Below.setCell ?_ (by first|exact Nat.le_refl _|omega|(dsimp only;omega)|(simp;omega)) _|refine Below.alloc ?_ (by first|exact Nat.le_refl _|omega|(simp;done)|(simp;omega)) _)))⟩
theorem set_same {α:Type} {a:Array α} {i:Nat} {x:α} (h:a[i]?=some x):a.setIfInBounds i x=a:=by
  apply Array.ext
  · simp
  · intro j h1 h2
    rw [Array.getElem_setIfInBounds]
    split
    · rename_i e
      subst e
      rw [Array.getElem?_eq_getElem h2] at h
      exact (Option.some.inj h).symm
    · rfl
def CntT (A X:Nat) (v:Value) (L:List TokL) (U:QV) (cv:Value) (i:Nat) (r:Option (Nat×Int)) (w:World) (e:Ending) (w':World):Prop :=
  match r with
  | none=>e=.returned (.bool false)∧Below A w w'
  | some r=>e=.returned (.bool true)∧Blk w' X 44 ((rdCells v r.1 U cv).setIfInBounds i (.int .i64 r.2))∧Ch (fun k=>k=X) (fun k=>k=X) w w'∧r.1≤L.length
theorem cnt_below {A X:Nat} {v:Value} {L:List TokL} {a b:Nat} {U:QV} {C:List OpL} {cv:Value} {w w':World} (h:QRd A X v L a U C cv w) (ht:WT X v L U cv b w w'):Below A w w':=ht.ch.below h.size (fun k hk=>by rw [hk];exact h.low)
theorem count_calls {A X:Nat} {v cv:Value} {L:List TokL} {a:Nat} {U:QV} {C:List OpL} {w:World} (h:QRd A X v L a U C cv w) (E:Env L) (s:List UInt8) (i:Nat) (d:Int) (hE:ErrG A w) (hd:∀b:Nat,(rdCells v b U cv)[i]?=some (.int .i64 d)):Calls Tryz.prog 36 #[.pointer (some ⟨X,0,none⟩),.string (bs s),.pointer (some ⟨X,i,none⟩)] w (CntT A X v L U cv i (countM L a s d) w):=by
 have H0:=Hd h;have HCELL:=Hd hd;have HEE:=Hd hE;obtain⟨R,hR⟩:∃R,countM L a s d=R:=⟨_,rfl⟩;rw [hR];(unfold countM at hR);cases hK:isW L a 1 s with
 | false =>
   (rw [if_neg (by rw [hK];decide)] at hR);have HRR:=Hd hR;(have HT1:=Hd (fun W (hW:QRd A X v L a U C cv W)=>wword_calls hW E.len s false hK _ rfl));have hle:=h.le;clear h E hR hK hE hd;(go_enter Tryz.func36,Tryz.ntmps36);(go_wp2_with fail);refine (HT1.out _ H0.out).mono ?_;rintro e w1 ⟨rfl,h1⟩;have H1:=Hd h1;clear h1;go_wp2;go_ret;rw [←HRR.out];refine⟨rfl,?_,H1.out.ch,hle⟩;have hb:=H1.out.blk;dsimp only;rw [set_same (HCELL.out a)];exact hb
 | true =>
   rw [if_pos hK] at hR;have hal:=isW_lt hK;(have HT1:=Hd (fun W (hW:QRd A X v L a U C cv W)=>wword_calls hW E.len s true hK _ rfl));(have HD:=Hd (fun W (hW:QRd A X v L (a+1) U C cv W)=>wdig_calls hW E.len (E.tok (a+1))));(have HAT:=Hd (fun W hg=>atoi_calls (A:=A) (tokAt L (a+1)).x (E.small (a+1)) W hg));obtain⟨ok,hok⟩:∃ok,isDig (tokAt L (a+1))=ok:=⟨_,rfl⟩;rw [hok] at hR HD;(have HNA:=Hd (fun (c:ok=true)=>nextA_at (isDig_lt (hok.trans c))));(have HNL:=Hd (fun (c:ok=true)=>isDig_lt (hok.trans c)));generalize (tokAt L (a+1)).x=x at hR HD HAT;have HRR:=Hd hR;have hX:=blk_lt h.blk;clear h E hR hK hE hd hok;(go_enter Tryz.func36,Tryz.ntmps36);(go_wp2_with fail);refine (HT1.out _ H0.out).mono ?_;rintro e w1 ⟨rfl,h1⟩;have H1:=Hd h1;clear h1;(go_wp2_with fail);refine (HD.out _ (H1.out.qrd H0.out)).mono ?_;rintro e w2 ⟨rfl,h2⟩;have H2:=Hd (H1.out.trans h2);clear h2;(go_wp2_with fail);refine (HAT.out _ (HEE.out.on (cnt_below H0.out H2.out))).mono ?_;rintro e w3 ⟨ev,rfl,hb3⟩;have H3:=Hd (H2.out.upto hX H2.out.ch.size hb3);clear hb3;have hbk:=H3.out.blk;(have xf:=fun i=>blk_free H3.out.blk i);(have xc:w3.cell? ⟨X,i,none⟩=some (.int .i64 d):=by rw [blk_cell hbk];exact HCELL.out _);clear hbk;go_wp2;go_ret;have hR:=HRR.out;cases ok with
   | false =>
     (rw [if_neg (by decide)] at hR);rw [←hR];exact⟨rfl,(cnt_below H0.out H3.out).trans ((Below.refl _ _).setCell (p:=⟨X,i,none⟩) H0.out.low _)⟩
   | true =>
     rw [if_pos rfl] at hR;rw [←hR];have hb3:=H3.out.blk;rw [HNA.out rfl] at hb3;exact⟨rfl,blk_set hb3 i (.int .i64 (numOf x)),H3.out.ch.trans ch_setY,HNL.out rfl⟩
end
section
open Go.RowKit
def Ut [Rsv] (d:Bool) (vv av:Value) (gr:Bool) (gv ov:Value) (lim off:Int):QV:=⟨.bool false,.bool d,vv,av,.bool gr,gv,ov,.int .i64 lim,.int .i64 off,Rsv.P⟩
theorem mustG_calls (c0 c1 c4 c7 c8:Value) (a2 a3 a5 a6 a9:Option Addr) (n2 k2 n3 k3 n5 k5 n6 k6 n9 k9:Nat) (w:World):Calls Tryz.prog 39 #[.agg #[c0,c1,.slice a2 n2 k2,.slice a3 n3 k3,c4,.slice a5 n5 k5,.slice a6 n6 k6,c7,c8,.slice a9 n9 k9]] w fun e w'=>e=.returned (.bool (decide (0<n3)||decide (0<n5)))∧Below w.heap.size w w':=by
 by_cases h3:0<n3
 ·(have g1:decide ((0:Int)<(n3:Int))=true:=decide_eq_true (by omega));(have g2:decide (0<n3)=true:=decide_eq_true h3);rw [g2];(go_enter Tryz.func39,Tryz.ntmps39);go_wp2;go_ret;exact⟨rfl,box_below _ _⟩
 ·(have g1:decide ((0:Int)<(n3:Int))=false:=decide_eq_false (by omega));(have g2:decide (0<n3)=false:=decide_eq_false h3);rw [g2];by_cases h5:0<n5
  ·(have g3:decide ((0:Int)<(n5:Int))=true:=decide_eq_true (by omega));(have g4:decide (0<n5)=true:=decide_eq_true h5);rw [g4];clear h3 h5;(go_enter Tryz.func39,Tryz.ntmps39);go_wp2;go_ret;exact⟨rfl,box_below _ _⟩
  ·(have g3:decide ((0:Int)<(n5:Int))=false:=decide_eq_false (by omega));(have g4:decide (0<n5)=false:=decide_eq_false h5);rw [g4];clear h3 h5;(go_enter Tryz.func39,Tryz.ntmps39);go_wp2;go_ret;exact⟨rfl,box_below _ _⟩
def GrgT [Rsv] (A X:Nat) (v:Value) (L:List TokL) (d:Bool) (vv av:Value) (nA:Nat) (cv:Value) (r:Option (Nat×List (List UInt8))) (w:World) (e:Ending) (w':World):Prop :=
  match r with
  | none=>e=.returned (.bool false)∧Below A w w'
  | some r=>e=.returned (.bool true)∧∃a5 c5,WT X v L (Ut d vv av (decide (0<nA)||decide (0<r.2.length)) (.slice a5 r.2.length c5) (.slice none 0 0) (-1) 0) cv r.1 w w'∧w'.ownsRow w.heap.size 9 1 (.slice a5 r.2.length c5) r.2.length (textCells r.2)
def VarR [Rsv] (X:Nat) (v:Value) (L:List TokL) (d:Bool) (vv av:Value) (cv:Value) (R:Option (Nat×List (List UInt8))) (w:World) (g:Nat) (m:Bool) (wr:World):Prop :=
  ∃(b:Nat) (B:List (List UInt8)) (gv:Value),WT X v L (Ut d vv av false gv (.slice none 0 0) (-1) 0) cv b w wr∧wr.ownsRow w.heap.size 9 1 gv B.length (textCells B)∧B.length≤b∧(m=true→L.length+1≤b+g)∧(if m=true then varsM L g b B=R else (B.length=0∧R=none)∨(0<B.length∧R=some (b,B)))
theorem gv_add [Rsv] {X N c7:Nat} {v gv vv av cv:Value} {a7:Option Addr} {L:List TokL} {d:Bool} {b:Nat} {B:List (List UInt8)} {x:List UInt8} {w0 w4 w7:World} (hX:X<w0.heap.size) (hw:WT X v L (Ut d vv av false gv (.slice none 0 0) (-1) 0) cv b w0 w4) (hv:w4.ownsRow w0.heap.size 9 1 gv N (textCells B)) (hown:w7.ownsRow w0.heap.size 9 1 (.slice a7 (N+1) c7) (N+1) (textCells B++[.string (bs x)])) (hg:w4.grownBy w7 gv.ownBlock):WT X v L (Ut d vv av false (.slice a7 (N+1) c7) (.slice none 0 0) (-1) 0) cv b w0 (w7.setCell ⟨X,7,none⟩ (.slice a7 (N+1) c7))∧(w7.setCell ⟨X,7,none⟩ (.slice a7 (N+1) c7)).ownsRow w0.heap.size 9 1 (.slice a7 (N+1) c7) (N+1) (textCells (B++[x])):=by
 (have hXv:∀g,gv.ownBlock=some g→g≠X:=fun g h=>by have:=(hv.lt g h).1;omega);have hbk:=grown_blk hg hw.blk hXv;(have hc7:=ch_grown hw.ch hg (fun g h=>(hv.lt g h).1));(refine⟨⟨by simpa [rdCells,Ut] using blk_set hbk 7 (.slice a7 (N+1) c7),hc7.trans ch_setY,hw.le⟩,?_⟩);rw [textCells_append];exact row_setY hown (fun g h=>by have:=(hown.lt g h).1;omega)
theorem grouping_calls [Rsv] {A X n1 n2 n9 c1 c2 c9:Nat} {v:Value} {a1 a2 a9:Option Addr} {L:List TokL} {a:Nat} {C:List OpL} {w:World} (d:Bool) (h:QRd A X v L a (Ut d (.slice a1 n1 c1) (.slice a2 n2 c2) false (.slice none 0 0) (.slice none 0 0) (-1) 0) C (.slice a9 n9 c9) w) (E:Env L):Calls Tryz.prog 34 #[.pointer (some ⟨X,0,none⟩)] w (GrgT A X v L d (.slice a1 n1 c1) (.slice a2 n2 c2) n2 (.slice a9 n9 c9) (groupM L a) w):=by
 have H0:=Hd h;have hX:=blk_lt h.blk;have hlow:=h.low;have hle:=h.le;have hL:=E.len;(have HQ:=Hd (fun gv (b:Nat) (w':World) (ht:WT X v L (Ut d (.slice a1 n1 c1) (.slice a2 n2 c2) false gv (.slice none 0 0) (-1) 0) (.slice a9 n9 c9) b w w')=>wtU ht h rfl));(have HWD:=Hd (fun s K b c U W (hW:QRd A X v L b U C (.slice a9 n9 c9) W) (hK:isW L b 1 s=K) (hb:stepA K b=c)=>wword_calls hW E.len s K hK c hb));(have HVR:=Hd (fun b U W (hW:QRd A X v L b U C (.slice a9 n9 c9) W)=>wvar_calls hW E.len (E.tok b)));(have HAH:=Hd (fun b U W (hW:QRd A X v L b U C (.slice a9 n9 c9) W)=>qahead_calls hW E.len));(have HMG:=Hd (fun a5 n5 k5 W=>mustG_calls (.bool false) (.bool d) (.bool false) (.int .i64 (-1)) (.int .i64 0) a1 a2 a5 none a9 n1 c1 n2 c2 n5 k5 0 0 n9 c9 W));(have hfld:∀yk yx uk ux uy uz ya W,(Instr.field 69 (.agg #[.int .i64 yk,.string (bs yx),.int .i64 uk,.string (bs ux),.string (bs uy),.string (bs uz),.int .i64 ya]) 0).run Tryz.prog W=.ok (.int .i64 yk) W:=fun _ _ _ _ _ _ _ _=>by kernel_rfl);obtain⟨i0,hi,hz0,hz1,hz2⟩:=info_parts info_strQ;obtain⟨R,hR⟩:∃R,groupM L a=R:=⟨_,rfl⟩;rw [hR];(unfold groupM at hR);cases hK:isW L a 1 kGROUP with
 | false =>
   (rw [if_neg (by rw [hK];decide)] at hR);have HRR:=Hd hR;have HT1:=Hd (HWD.out kGROUP false a a _ w h hK rfl);have HMG0:=Hd (HMG.out none 0 0);clear h E hR hK HWD hfld;(go_enter Tryz.func34,Tryz.ntmps34);(go_wp2_with fail);refine HT1.out.mono ?_;rintro e w1 ⟨rfl,h1⟩;have H1:=Hd h1;have hb1:=h1.blk;have x2:=bq hb1 2 (v:=.bool false);have x3:=bq hb1 3 (v:=.bool d);have x4:=bq hb1 4 (v:=.slice a1 n1 c1);have x5:=bq hb1 5 (v:=.slice a2 n2 c2);have x6:=bq hb1 6 (v:=.bool false);have x7:=bq hb1 7 (v:=.slice none 0 0);have x8:=bq hb1 8 (v:=.slice none 0 0);have x9:=bq hb1 9 (v:=.int .i64 (-1));have x10:=bq hb1 10 (v:=.int .i64 0);have x11:=bq hb1 11 (v:=.slice a9 n9 c9);(have xf:=fun i=>blk_free hb1 i);have hX1:=blk_lt hb1;clear h1 hb1;(go_wp2_with fail);refine (HMG0.out _).mono ?_;rintro e w2 ⟨rfl,hb2⟩;have hbk:=blk_on H1.out.blk hb2 hX1;have y6:=bq hbk 6 (v:=.bool false);(have yf:=fun i=>blk_free hbk i);have HB2:=Hd hb2;clear hb2 hbk;go_wp2;go_ret;rw [←HRR.out];have H2:=H1.out.upto hX H1.out.ch.size HB2.out;refine⟨rfl,none,0,⟨by simpa [rdCells,Ut] using blk_set H2.blk 6 (.bool (decide (0<n2))),H2.ch.trans ch_setY,H2.le⟩,World.ownsRow_nil _ _ _ _⟩
 | true =>
   rw [if_pos hK] at hR;have hal:=isW_lt hK;have HT1:=Hd (HWD.out kGROUP true a (a+1) _ w h hK rfl);obtain⟨B0,hB0⟩:∃B0,isW L (a+1) 1 kBY=B0:=⟨_,rfl⟩;rw [hB0] at hR;(have HT2:=Hd (fun U W (hW:QRd A X v L (a+1) U C (.slice a9 n9 c9) W)=>HWD.out kBY B0 (a+1) _ U W hW hB0 rfl));have HRR:=Hd hR;clear h E hR hK HWD hB0;(go_enter Tryz.func34,Tryz.ntmps34);(go_wp2_with fail);refine HT1.out.mono ?_;rintro e w1 ⟨rfl,h1⟩;have H1:=Hd h1;clear h1;(go_wp2_with fail);refine (HT2.out _ _ (HQ.out _ _ _ H1.out)).mono ?_;rintro e w2 ⟨rfl,h2⟩;have H2:=Hd (H1.out.trans h2);clear h2;go_wp2;go_loopg [4] (L.length+1) (fun g mv wr=>∃m,mv=.bool m∧Hid (VarR X v L d (.slice a1 n1 c1) (.slice a2 n2 c2) (.slice a9 n9 c9) R w g m wr))
   case atStart =>
    (refine⟨B0,rfl,Hd ⟨stepA B0 (a+1),[],_,H2.out,World.ownsRow_nil _ _ _ _,Nat.zero_le _,fun _=>by omega,?_⟩⟩);have hR:=HRR.out;cases B0 with
    | true=>rw [if_pos rfl] at hR;rw [if_pos rfl];exact hR
    | false=>rw [if_neg (by decide)] at hR;rw [if_neg (by decide)];exact .inl ⟨rfl,hR.symm⟩
   case round =>
    obtain⟨W1,rfl⟩:∃W1,W1=wr:=⟨_,rfl⟩;obtain⟨m,rfl,hrel⟩:=hrel;obtain⟨b,B,gv,hw1,hv1,hBb,hfu,hrun⟩:=hrel.out;obtain⟨v5,c5,rfl⟩:=row_slice hv1;have HW1:=Hd hw1;have HO1:=Hd hv1;obtain⟨N,hN⟩:∃N,B.length=N:=⟨_,rfl⟩;rw [hN] at HW1 HO1 hBb;have HN:=Hd hN;have hbl:=hw1.le;clear hw1 hv1 hrel;cases m with
    | false =>
      (rw [if_neg (by decide)] at hrun);rw [hN] at hrun;clear hN hfu;have hb1:=HW1.out.blk;have x2:=bq hb1 2 (v:=.bool false);have x3:=bq hb1 3 (v:=.bool d);have x4:=bq hb1 4 (v:=.slice a1 n1 c1);have x5:=bq hb1 5 (v:=.slice a2 n2 c2);have x6:=bq hb1 6 (v:=.bool false);have x7:=bq hb1 7 (v:=.slice v5 N c5);have x8:=bq hb1 8 (v:=.slice none 0 0);have x9:=bq hb1 9 (v:=.int .i64 (-1));have x10:=bq hb1 10 (v:=.int .i64 0);have x11:=bq hb1 11 (v:=.slice a9 n9 c9);(have xf:=fun i=>blk_free hb1 i);have hX1:=blk_lt hb1;clear hb1;rcases hrun with ⟨hz,hr⟩|⟨hz,hr⟩
      ·(have g1:((N:Int)==0)=true:=beq_iff_eq.2 (by omega));have HRN:=Hd hr;clear hz hr;go_wp2;go_ret;rw [HRN.out];exact⟨rfl,wt_below HW1.out hlow hX⟩
      ·(have g1:((N:Int)==0)=false:=beq_eq_false_iff_ne.2 (by omega));have HRN:=Hd hr;have HZ:=Hd hz;have HMG1:=Hd (HMG.out v5 N c5);clear hz hr;(go_wp2_with fail);refine (HMG1.out _).mono ?_;rintro e w3 ⟨rfl,hb3⟩;have hbk:=blk_on HW1.out.blk hb3 hX1;have y6:=bq hbk 6 (v:=.bool false);(have yf:=fun i=>blk_free hbk i);have HB3:=Hd hb3;clear hb3 hbk;go_wp2;go_ret;rw [HRN.out];have H3:=HW1.out.upto hX HW1.out.ch.size HB3.out;refine⟨rfl,v5,c5,?_⟩;dsimp only;rw [HN.out];refine⟨⟨by simpa [rdCells,Ut] using blk_set H3.blk 6 (.bool (decide (0<n2)||decide (0<N))),H3.ch.trans ch_setY,H3.le⟩,row_setY (rowOn HO1.out HB3.out) (fun g hg=>by have:=(HO1.out.lt g hg).1;omega)⟩
    | true =>
      (have hfl:=hfu rfl);(obtain⟨g,rfl⟩:∃g,gk=g+1:=⟨gk-1,by omega⟩);rw [if_pos rfl,varsM] at hrun;clear hfu;obtain⟨ok,hok⟩:∃ok,isVar (tokAt L b)=ok:=⟨_,rfl⟩;(have HV:=Hd (fun U W (hW:QRd A X v L b U C (.slice a9 n9 c9) W)=>HVR.out b U W hW));rw [hok] at hrun HV;(have HNA:=Hd (fun (c:ok=true)=>nextA_at (isVar_lt (hok.trans c))));(have HNL:=Hd (fun (c:ok=true)=>isVar_lt (hok.trans c)));generalize (tokAt L b).x=x at hrun HV;clear hok;cases ok with
      | false =>
        (rw [if_neg (by decide)] at hrun);have HRN:=Hd hrun;clear hrun hN;(go_wp2_with fail);refine (HV.out _ _ (HQ.out _ _ _ HW1.out)).mono ?_;rintro e w2 ⟨rfl,h2⟩;have HW2:=Hd (HW1.out.trans h2);clear h2;go_wp2;go_ret;rw [←HRN.out];exact⟨rfl,wt_below HW2.out hlow hX⟩
      | true =>
        rw [if_pos rfl] at hrun;(have hsl:=HNL.out rfl);rw [HNA.out rfl] at HV;(have HA:=Hd (fun U W (hW:QRd A X v L (b+1) U C (.slice a9 n9 c9) W)=>HAH.out (b+1) U W hW));generalize tokAt L (b+1)=y at HA hrun;obtain⟨yk,yx,⟨uk,ux,uy,uz⟩,ya⟩:=y;(simp only [TokL.v] at HA);dsimp only at hrun;have HRN:=Hd hrun;clear hrun hN HNA HNL;(go_wp2_with fail);refine (HV.out _ _ (HQ.out _ _ _ HW1.out)).mono ?_;rintro e w2 ⟨rfl,h2⟩;have HW2:=Hd (HW1.out.trans h2);have HO2:=Hd (wt_row h2 HO1.out hX);clear h2;have hs2:=HW2.out.ch.size;(have HNX:=Hd (fun g (hg:(Value.slice v5 N c5).ownBlock=some g)=>(show g≠X from by have:=(HO2.out.lt g hg).1;omega)));have xc7:=bq HW2.out.blk 7 (v:=.slice v5 N c5);(have xf:=fun i=>blk_free HW2.out.blk i);(go_wp2_with (at_builtin;go_must (refine wpList_append_own _ rfl (.tmp 38) (.tmp 40) 22 rfl w.heap.size 9 i0 (.string ⟨#[]⟩) 1 16 Tryz.underlying22 hi hz0 hz1 hz2 rfl (by decide) _ _ _ rfl (HO2.out.alloc _) ⟨w2.heap.size,0,none⟩ 1 1 [.string (bs x)] rfl rfl (news_gen _ _ _ rfl) (by intro u hu;simp at hu;subst hu;rfl) (by unfold maxLen;omega) (by omega) (by simp;omega) ?_;intro v7 w7 hown7 hgrow7 hnil7;clear hnil7;obtain⟨v6,c6,rfl⟩:=row_slice hown7;have HO7:=Hd hown7;have HG7:=Hd (grown_one hgrow7);have hbk7:=grown_blk HG7.out HW2.out.blk HNX.out;have HBK7:=Hd hbk7;have q7:w7.cell? ⟨X,7,none⟩=some (.slice v5 N c5):=(by rw [blk_cell hbk7];rfl);have qf:=(fun i=>blk_free hbk7 i);clear hown7 hgrow7 hbk7)));have HA7:=Hd (gv_add hX HW2.out HO2.out HO7.out HG7.out);(go_wp2_with fail);refine (HA.out _ _ (HQ.out _ _ _ HA7.out.1)).mono ?_;rintro e w8 ⟨rfl,hb8⟩;have HW8:=Hd (HA7.out.1.upto hX HA7.out.1.ch.size hb8);have HO8:=Hd (rowOn HA7.out.2 hb8);clear hb8;have HX:=Hd (show VarR X v L d (.slice a1 n1 c1) (.slice a2 n2 c2) (.slice a9 n9 c9) R w g (yk==2) w8 from by
         refine⟨b+1,B++[x],_,HW8.out,?_,?_,fun _=>by omega,?_⟩
         ·rw [List.length_append,List.length_singleton,HN.out];exact HO8.out
         ·rw [List.length_append,List.length_singleton,HN.out];omega
         ·have hr:=HRN.out;by_cases hy:yk=2
          ·rw [if_pos hy] at hr;rw [if_pos (beq_iff_eq.2 hy)];exact hr
          ·rw [if_neg hy] at hr;(rw [if_neg (fun c=>hy (beq_iff_eq.1 c))]);exact .inr ⟨by rw [List.length_append,List.length_singleton];omega,hr.symm⟩)
        go_wp2;go_roundg g
        case measure=>omega
        case rel=>exact⟨_,rfl,HX⟩
end
section
open Go.RowKit
def keyCells (k:KeyL):List Value:=[.string (bs k.m),.bool k.d]
def zeroKeyV:Value:=.agg #[.string ⟨#[]⟩,.bool false]
theorem info_key:(Tryz.prog.info? 48).map (fun i=>(i.zero,i.size,i.bytes))=some (some zeroKeyV,2,24):=by kernel_rfl
def OrdT [Rsv] (A X:Nat) (v:Value) (L:List TokL) (d:Bool) (vv av:Value) (gr:Bool) (gv cv:Value) (r:Option (Nat×List KeyL)) (w:World) (e:Ending) (w':World):Prop :=
  match r with
  | none=>e=.returned (.bool false)∧Below A w w'
  | some r=>e=.returned (.bool true)∧∃a6 c6,WT X v L (Ut d vv av gr gv (.slice a6 r.2.length c6) (-1) 0) cv r.1 w w'∧w'.ownsRow w.heap.size 48 2 (.slice a6 r.2.length c6) r.2.length (r.2.flatMap keyCells)
def OrdR [Rsv] (X:Nat) (v:Value) (L:List TokL) (d:Bool) (vv av:Value) (gr:Bool) (gv cv:Value) (R:Option (Nat×List KeyL)) (w:World) (g:Nat) (m:Bool) (wr:World):Prop :=
  ∃(b:Nat) (O:List KeyL) (ov:Value),WT X v L (Ut d vv av gr gv ov (-1) 0) cv b w wr∧wr.ownsRow w.heap.size 48 2 ov O.length (O.flatMap keyCells)∧O.length≤b∧(m=true→L.length+1≤b+g)∧(if m=true then keysM L g b O=R else (O.length=0∧R=none)∨(0<O.length∧R=some (b,O)))
theorem ov_add [Rsv] {X N c7:Nat} {v gv vv av ov cv:Value} {a7:Option Addr} {L:List TokL} {d gr:Bool} {b:Nat} {O:List KeyL} {x:KeyL} {w0 w4 w7:World} (hX:X<w0.heap.size) (hw:WT X v L (Ut d vv av gr gv ov (-1) 0) cv b w0 w4) (hv:w4.ownsRow w0.heap.size 48 2 ov N (O.flatMap keyCells)) (hown:w7.ownsRow w0.heap.size 48 2 (.slice a7 (N+1) c7) (N+1) (O.flatMap keyCells++keyCells x)) (hg:w4.grownBy w7 ov.ownBlock):WT X v L (Ut d vv av gr gv (.slice a7 (N+1) c7) (-1) 0) cv b w0 (w7.setCell ⟨X,8,none⟩ (.slice a7 (N+1) c7))∧(w7.setCell ⟨X,8,none⟩ (.slice a7 (N+1) c7)).ownsRow w0.heap.size 48 2 (.slice a7 (N+1) c7) (N+1) ((O++[x]).flatMap keyCells):=by
 (have hXv:∀g,ov.ownBlock=some g→g≠X:=fun g h=>by have:=(hv.lt g h).1;omega);have hbk:=grown_blk hg hw.blk hXv;(have hc7:=ch_grown hw.ch hg (fun g h=>(hv.lt g h).1));(refine⟨⟨by simpa [rdCells,Ut] using blk_set hbk 8 (.slice a7 (N+1) c7),hc7.trans ch_setY,hw.le⟩,?_⟩);rw [flat_snoc];exact row_setY hown (fun g h=>by have:=(hown.lt g h).1;omega)
theorem key_goes {L:List TokL} {a:Nat} {k:KeyL×Nat} (h:keyM L a=some k):a<k.2∧k.2≤L.length:=by
  unfold keyM at h
  split at h
  · split at h
    · rename_i hc
      have:=isW_lt hc.2.2
      simp at h;rw [←h];dsimp only;omega
    · cases h
  · split at h
    · rename_i hv
      have:=isVar_lt hv
      simp at h;rw [←h];dsimp only;omega
    · cases h
theorem ordering_calls [Rsv] {A X:Nat} {v vv av gv cv:Value} {L:List TokL} {a:Nat} {C:List OpL} {w:World} (d gr:Bool) (h:QRd A X v L a (Ut d vv av gr gv (.slice none 0 0) (-1) 0) C cv w) (E:Env L):Calls Tryz.prog 35 #[.pointer (some ⟨X,0,none⟩)] w (OrdT A X v L d vv av gr gv cv (orderM L a) w):=by
 have H0:=Hd h;have hX:=blk_lt h.blk;have hlow:=h.low;have hle:=h.le;have hL:=E.len;(have HQ:=Hd (fun ov (b:Nat) (w':World) (ht:WT X v L (Ut d vv av gr gv ov (-1) 0) cv b w w')=>wtU ht h rfl));(have HWD:=Hd (fun s K b c U W (hW:QRd A X v L b U C cv W) (hK:isW L b 1 s=K) (hb:stepA K b=c)=>wword_calls hW E.len s K hK c hb));(have HKY:=Hd (fun b U W (hW:QRd A X v L b U C cv W)=>key_calls hW E));(have HIK:=Hd (fun b U W (hW:QRd A X v L b U C cv W)=>isKey_calls hW E));obtain⟨j0,ji,jz0,jz1,jz2⟩:=info_parts info_key;obtain⟨R,hR⟩:∃R,orderM L a=R:=⟨_,rfl⟩;rw [hR];(unfold orderM at hR);cases hK:isW L a 1 kORDER with
 | false =>
   (rw [if_neg (by rw [hK];decide)] at hR);have HRR:=Hd hR;have HT1:=Hd (HWD.out kORDER false a a _ w h hK rfl);clear h E hR hK HWD;(go_enter Tryz.func35,Tryz.ntmps35);(go_wp2_with fail);refine HT1.out.mono ?_;rintro e w1 ⟨rfl,h1⟩;have H1:=Hd h1;clear h1;go_wp2;go_ret;rw [←HRR.out];exact⟨rfl,none,0,H1.out,World.ownsRow_nil _ _ _ _⟩
 | true =>
   rw [if_pos hK] at hR;have hal:=isW_lt hK;have HT1:=Hd (HWD.out kORDER true a (a+1) _ w h hK rfl);obtain⟨B0,hB0⟩:∃B0,isW L (a+1) 1 kBY=B0:=⟨_,rfl⟩;rw [hB0] at hR;(have HT2:=Hd (fun U W (hW:QRd A X v L (a+1) U C cv W)=>HWD.out kBY B0 (a+1) _ U W hW hB0 rfl));have HRR:=Hd hR;clear h E hR hK HWD hB0;(go_enter Tryz.func35,Tryz.ntmps35);(go_wp2_with fail);refine HT1.out.mono ?_;rintro e w1 ⟨rfl,h1⟩;have H1:=Hd h1;clear h1;(go_wp2_with fail);refine (HT2.out _ _ (HQ.out _ _ _ H1.out)).mono ?_;rintro e w2 ⟨rfl,h2⟩;have H2:=Hd (H1.out.trans h2);clear h2;go_wp2;go_loopg [3] (L.length+1) (fun g mv wr=>∃m,mv=.bool m∧Hid (OrdR X v L d vv av gr gv cv R w g m wr))
   case atStart =>
    (refine⟨B0,rfl,Hd ⟨stepA B0 (a+1),[],_,H2.out,World.ownsRow_nil _ _ _ _,Nat.zero_le _,fun _=>by omega,?_⟩⟩);have hR:=HRR.out;cases B0 with
    | true=>rw [if_pos rfl] at hR;rw [if_pos rfl];exact hR
    | false=>rw [if_neg (by decide)] at hR;rw [if_neg (by decide)];exact .inl ⟨rfl,hR.symm⟩
   case round =>
    obtain⟨W1,rfl⟩:∃W1,W1=wr:=⟨_,rfl⟩;obtain⟨m,rfl,hrel⟩:=hrel;obtain⟨b,O,ov,hw1,hv1,hBb,hfu,hrun⟩:=hrel.out;obtain⟨v5,c5,rfl⟩:=row_slice hv1;have HW1:=Hd hw1;have HO1:=Hd hv1;obtain⟨N,hN⟩:∃N,O.length=N:=⟨_,rfl⟩;rw [hN] at HW1 HO1 hBb;have HN:=Hd hN;have hbl:=hw1.le;clear hw1 hv1 hrel;cases m with
    | false =>
      (rw [if_neg (by decide)] at hrun);rw [hN] at hrun;clear hN hfu;have hb1:=HW1.out.blk;have x8:=bq hb1 8 (v:=.slice v5 N c5);(have xf:=fun i=>blk_free hb1 i);clear hb1;rcases hrun with ⟨hz,hr⟩|⟨hz,hr⟩
      ·(have g1:decide (0<N)=false:=decide_eq_false (by omega));have HRN:=Hd hr;clear hz hr;go_wp2;go_ret;rw [HRN.out];exact⟨rfl,wt_below HW1.out hlow hX⟩
      ·(have g1:decide (0<N)=true:=decide_eq_true (by omega));have HRN:=Hd hr;clear hz hr;go_wp2;go_ret;rw [HRN.out];refine⟨rfl,v5,c5,?_⟩;dsimp only;rw [HN.out];exact⟨HW1.out,HO1.out⟩
    | true =>
      (have hfl:=hfu rfl);(obtain⟨g,rfl⟩:∃g,gk=g+1:=⟨gk-1,by omega⟩);rw [if_pos rfl,keysM] at hrun;clear hfu;(have HK:=Hd (fun U W (hW:QRd A X v L b U C cv W)=>HKY.out b U W hW));cases hk:keyM L b with
      | none =>
        rw [hk] at hrun HK;have HRN:=Hd hrun;clear hrun hN hk;(go_wp2_with fail);refine (HK.out _ _ (HQ.out _ _ _ HW1.out)).mono ?_;rintro e w2 ⟨x,y,b2,rfl,h2⟩;have HW2:=Hd (HW1.out.trans h2);clear h2;go_wp2;go_ret;rw [←HRN.out];(refine⟨rfl,(wt_below HW2.out hlow hX).trans (Below.mono (B:=w2.heap.size) ?_ (by have:=HW2.out.ch.size;have:=hlow;omega))⟩);repeat (with_reducible (first|exact Below.refl _ _|exact box_below _ _|refine Below.drew ?_|refine Below.setCell ?_ (by first|exact Nat.le_refl _|omega|(dsimp only;omega)|(simp;omega)) _|refine Below.alloc ?_ (by first|exact Nat.le_refl _|omega|(simp;done)|(simp;omega)) _))
      | some k =>
        have hkg:=key_goes hk;rw [hk] at hrun HK;obtain⟨⟨km,kd⟩,kb⟩:=k;dsimp only at hrun hkg;obtain⟨K,hKw⟩:∃K,isKeyW L kb=K:=⟨_,rfl⟩;(have HI:=Hd (fun U W (hW:QRd A X v L kb U C cv W)=>HIK.out kb U W hW));rw [hKw] at HI hrun;have HRN:=Hd hrun;clear hrun hN hk hKw;(go_wp2_with fail);refine (HK.out _ _ (HQ.out _ _ _ HW1.out)).mono ?_;rintro e w2 ⟨rfl,h2⟩;have HW2:=Hd (HW1.out.trans h2);have HO2:=Hd (wt_row h2 HO1.out hX);clear h2;have hs2:=HW2.out.ch.size;have xc8:=bq HW2.out.blk 8 (v:=.slice v5 N c5);(have xf:=fun i=>blk_free HW2.out.blk i);go_wp2;obtain⟨W6,hW6⟩:∃W6,W6=w2.alloc (.cells #[.string (bs km),.bool kd] 48):=⟨_,rfl⟩;(have HW6:=Hd (show WT X v L (Ut d vv av gr gv (.slice v5 N c5) (-1) 0) cv kb w W6 from by rw [hW6];exact HW2.out.upto hX HW2.out.ch.size (box_below _ _)));(have HO6:=Hd (show W6.ownsRow w.heap.size 48 2 (.slice v5 N c5) N (O.flatMap keyCells) from by rw [hW6];exact rowOn HO2.out (box_below _ _)));(have hyb:Blk W6 w2.heap.size 48 #[.string (bs km),.bool kd]:=by rw [hW6];exact blk_new _ _ _);(have hs6:W6.heap.size=w2.heap.size+1:=by rw [hW6];simp);rw [←hW6];clear hW6 xc8 xf;have yc0:=blk_cell hyb 0;have yc1:=blk_cell hyb 1;(simp at yc0 yc1);(have yf:=fun i=>blk_free hyb i);have xc8:=bq HW6.out.blk 8 (v:=.slice v5 N c5);(have xf:=fun i=>blk_free HW6.out.blk i);(have hXY2:¬X=w2.heap.size:=by omega);(have hXY3:¬w2.heap.size=X:=by omega);(have hX5:X<W6.heap.size:=by omega);(have hY6:w2.heap.size<W6.heap.size:=by omega);(have hsW:w.heap.size≤W6.heap.size:=by omega);(have HNX:=Hd (fun g (hg:(Value.slice v5 N c5).ownBlock=some g)=>(show g≠X from by have:=(HO6.out.lt g hg).1;omega)));clear hyb hs6;(go_region_law (refine step_append_lies _ (by rfl) (.tmp 30) (.tmp 32) 24 (by rfl) w.heap.size 48 j0 zeroKeyV 2 24 Tryz.underlying24 ji jz0 jz1 jz2 rfl (by decide) _ _ _ rfl (HO6.out.alloc _) ⟨W6.heap.size,0,none⟩ 1 1 [.string (bs km),.bool kd] rfl rfl (news_gen _ _ _ (by simp)) (by intro u hu;simp at hu;rcases hu with rfl|rfl<;>rfl) (by decide) (by unfold maxLen;omega) (by omega) (by simp;omega) (W6.heap.size+1) (by simp) ?_;intro g7 c7 w7 hown7 hgrow7 hat7 hlt7;have hg0:=grown_oneD hgrow7;have HA7:=Hd (ov_add (x:=⟨km,kd⟩) hX HW6.out HO6.out hown7 hg0);have hbk7:=grown_blk hg0 HW6.out.blk HNX.out;have q8:w7.cell? ⟨X,8,none⟩=some (.slice v5 N c5):=(by rw [blk_cell hbk7];rfl);have qf:=(fun i=>blk_free hbk7 i);have hs7:=hg0.size;have hlt8:=hlt7;clear hgrow7 hat7 hlt7 hown7 hg0 hbk7));all_goals
         (go_wp2_with fail);refine (HI.out _ _ (HQ.out _ _ _ HA7.out.1)).mono ?_;rintro e w8 ⟨rfl,hb8⟩;have HW8:=Hd (HA7.out.1.upto hX HA7.out.1.ch.size hb8);have HO8:=Hd (rowOn HA7.out.2 hb8);clear hb8;have HX:=Hd (show OrdR X v L d vv av gr gv cv R w g K w8 from by
          refine⟨kb,O++[⟨km,kd⟩],_,HW8.out,?_,?_,fun _=>by omega,?_⟩
          ·rw [List.length_append,List.length_singleton,HN.out];exact HO8.out
          ·rw [List.length_append,List.length_singleton,HN.out];omega
          ·have hr:=HRN.out;cases K with
           | true=>rw [if_pos rfl] at hr;rw [if_pos rfl];exact hr
           | false=>rw [if_neg (by decide)] at hr;rw [if_neg (by decide)];exact .inr ⟨by rw [List.length_append,List.length_singleton];omega,hr.symm⟩)
         go_wp2;go_roundg g
         case measure=>omega
         case rel=>exact⟨_,rfl,HX⟩
end
end Go.Proofs.YtjpfoophipcglaaGreatDoor
