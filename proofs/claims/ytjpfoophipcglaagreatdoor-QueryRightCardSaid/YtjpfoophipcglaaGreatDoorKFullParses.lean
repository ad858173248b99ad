/- The signs ahead of a simple one, a level's signs, a chain, a function's arguments: the reader, for every words. -/
import Derived.Test.YtjpfoophipcglaaGreatDoorKFullWords
namespace Go.Proofs.YtjpfoophipcglaaGreatDoor
set_option maxRecDepth 100000
set_option maxHeartbeats 8000000
section
open Go.RowKit
theorem signedR_of (A X:Nat) (v:Value) (L:List TokL) (hL:L.length≤100000) (hx:∀t∈L,TokOk t) (hlow:LowC) (F:Nat) (IS:∀g,g<F→SignedR A X v L g) (IA:∀g,g<F→ArgsR A X v L g) (ID:∀g,g<F→DisjR A X v L g):SignedR A X v L F:=by
 intro a P r pv w hq h;obtain⟨f,rfl⟩:∃f,F=f+1:=by
  cases F with
  | zero=>cases hq
  | succ f=>exact⟨f,rfl⟩
 rw [runM] at hq;by_cases hK:signK L a 4 5=0
 ·rw [if_pos hK] at hq;(have HT:=Hd (takeSign_calls A X v pv L a P 4 5 w h hL (by decide) (by decide) 0 a hK rfl));(have HS:=Hd (fun p W (hr:Rd A X v L a P p W)=>simpleR_calls A X v L hL hx hlow f (IA f (by omega)) (ID f (by omega)) a P r p W hq hr));clear h hx hq hK IS IA ID hlow;(go_enter Tryz.func276,Tryz.ntmps276);(go_wp2_with fail);refine HT.out.mono ?_;rintro e w1 ⟨rfl,p1,h1,hb1,hs1⟩;have H1:=Hd h1;have HB1:=Hd hb1;have HS1:=Hd hs1;clear h1 hb1 hs1;(go_wp2_with fail);refine (HS.out p1 _ H1.out).mono ?_;intro e w2 hr2;replace hr2:=res_trans HB1.out HS1.out hr2;cases r with
  | none =>
    obtain⟨rfl,hb2⟩:=hr2;have HB2:=Hd hb2;clear hb2;go_wp2;go_ret;exact⟨rfl,HB2.out⟩
  | some q =>
    obtain⟨rfl,hr9⟩:=hr2;have HR2:=Hd hr9;clear hr9;go_wp2;go_ret;exact⟨rfl,HR2.out⟩
 ·rw [if_neg hK] at hq;obtain⟨K,hKe⟩:∃K,signK L a 4 5=K:=⟨_,rfl⟩;rw [hKe] at hq hK;(have HT:=Hd (takeSign_calls A X v pv L a P 4 5 w h hL (by decide) (by decide) K (a+1) hKe (if_neg hK)));(have gK:((K:Int)==0)=false:=beq_eq_false_iff_ne.2 (by omega));rcases bindR_some hq with ⟨hd,rfl⟩|⟨⟨a2,P2⟩,hd,hq2⟩
  ·(have HD:=Hd (fun p W (hr:Rd A X v L (a+1) P p W)=>IS f (by omega) (a+1) P none p W hd hr));clear h hx hq hK IS IA ID hlow hd hKe;(go_enter Tryz.func276,Tryz.ntmps276);(go_wp2_with fail);refine HT.out.mono ?_;rintro e w1 ⟨rfl,p1,h1,hb1,hs1⟩;have H1:=Hd h1;have HB1:=Hd hb1;clear h1 hb1 hs1;(go_wp2_with fail);refine (HD.out p1 _ H1.out).mono ?_;rintro e w2 ⟨rfl,hb2⟩;have HB2:=Hd (HB1.out.trans hb2);clear hb2;go_wp2;go_ret;exact⟨rfl,HB2.out⟩
  ·have hsl:=run_slack L f _ _ _ hd;(unfold Slack at hsl);dsimp only at hsl hq2;have hPa:=h.most.1;(have hlt:P2.length<a2:=by omega);(have HD:=Hd (fun p W (hr:Rd A X v L (a+1) P p W)=>IS f (by omega) (a+1) P (some (a2,P2)) p W hd hr));(obtain rfl:some (a2,P2++[signPart K])=r:=by simpa [okR,putR] using hq2);(have HA:Hid (∀W p2,Rd A X v L a2 P2 p2 W→Calls Tryz.prog 285 #[.pointer (some ⟨X,0,none⟩),.agg #[.int .i64 K,.int .i64 0,.string ⟨#[]⟩,.string ⟨#[]⟩,.string ⟨#[]⟩,.string ⟨#[]⟩,.int .i64 0]] W fun e w'=>e=.returned (.tuple #[])∧RdT A X v L p2 (a2,P2++[signPart K]) W w'):=Hd fun W p2 hW=>add_calls A X v p2 L a2 P2 (signPart K) W hW hL hlt);clear h hx hq hK IS IA ID hlow hd hKe hsl hq2 hPa hlt;(go_enter Tryz.func276,Tryz.ntmps276);(go_wp2_with fail);refine HT.out.mono ?_;rintro e w1 ⟨rfl,p1,h1,hb1,hs1⟩;have H1:=Hd h1;have HB1:=Hd hb1;have HS1:=Hd hs1;clear h1 hb1 hs1;(go_wp2_with fail);refine (HD.out p1 _ H1.out).mono ?_;rintro e w2 ⟨rfl,p2,h2,hb2,hs2⟩;have H2:=Hd h2;have HB2:=Hd (HB1.out.trans hb2);have HS2:=Hd (HS1.out.trans hs2);clear h2 hb2 hs2;(go_wp2_with fail);refine (HA.out _ p2 H2.out).mono ?_;rintro e w3 ⟨rfl,hr3⟩;have HR3:=Hd (rdt_trans HB2.out HS2.out hr3);clear hr3;go_wp2;go_ret;exact⟨rfl,HR3.out⟩
def GatF (A X:Nat) (v:Value) (L:List TokL) (pv:Value) (i:Nat) (r:Option StL) (W0:World) (g:Nat) (wr:World):Prop :=
  ∃(a:Nat) (P:List PartL) (p:Value),runM L g (.gather i) (a,P)=some r∧Rd A X v L a P p wr∧Below A W0 wr∧Step X pv p W0 wr
theorem gatherR_of (A X:Nat) (v:Value) (L:List TokL) (hL:L.length≤100000) (F:Nat) (IC:∀g,g<F→ChainR A X v L g):GatherR A X v L F:=by
 intro i a P r pv w hi hq h;have hlm:=lev_most hi;(have HTAKE:Hid (∀W a P p K b,Rd A X v L a P p W→signK L a (lev i).1 (lev i).2.1=K→(if K=0 then a else a+1)=b→Calls Tryz.prog 283 #[.pointer (some ⟨X,0,none⟩),.int .i64 (lev i).1,.int .i64 (lev i).2.1] W fun e w'=>e=.returned (.int .i64 K)∧RdT A X v L p (b,P) W w'):=Hd fun W a P p K b hW hK hb=>takeSign_calls A X v p L a P _ _ W hW hL hlm.1 hlm.2 K b hK hb);(have HRUN:Hid (∀g a P,runM L (g+1) (.gather i) (a,P)=if signK L a (lev i).1 (lev i).2.1=0 then okR (a,P) else bindR (runM L g (.chain (i+1)) (a+1,P)) fun r=>if (lev i).2.2=true then okR (putR r (signPart (signK L a (lev i).1 (lev i).2.1))) else runM L g (.gather i) (putR r (signPart (signK L a (lev i).1 (lev i).2.1)))):=Hd fun g a P=>by rw [runM]);obtain⟨lf,hlf⟩:∃lf,(lev i).1=lf:=⟨_,rfl⟩;obtain⟨lt,hlt⟩:∃lt,(lev i).2.1=lt:=⟨_,rfl⟩;obtain⟨lo,hlo⟩:∃lo,(lev i).2.2=lo:=⟨_,rfl⟩;rw [hlf,hlt] at HTAKE;rw [hlf,hlt,hlo] at HRUN;rw [hlf,hlt,hlo];have hA:=h.size;obtain⟨n1,n2⟩:=rd_new h (Nat.le_refl _);have H0:=Hd h;have HQ:=Hd hq;have HIC:=Hd IC;clear hlf hlt hlo hlm h hq IC;(go_enter Tryz.func277,Tryz.ntmps277);go_wp2;have HB0:=Hd (blk_new w 285 #[.int .i64 lf,.int .i64 lt,.bool lo]);have HW0:=Hd (box_below w (.cells #[.int .i64 lf,.int .i64 lt,.bool lo] 285));have HR0:=Hd (H0.out.alloc (.cells #[.int .i64 lf,.int .i64 lt,.bool lo] 285));go_loopg [] F (fun g wr=>Hid (GatF A X v L pv i r (w.alloc (.cells #[.int .i64 lf,.int .i64 lt,.bool lo] 285)) g wr)∧g≤F)
 case atStart=>exact⟨Hd ⟨a,P,pv,HQ.out,HR0.out,Below.refl _ _,step_on (Below.refl _ _)⟩,Nat.le_refl _⟩
 case round =>
  obtain⟨W1,rfl⟩:∃W1,W1=wr:=⟨_,rfl⟩;obtain⟨hrel,hgF⟩:=hrel;obtain⟨a,P,p,hg,hr,hb,hs⟩:=hrel.out;have HBK:=Hd (step_blk hs HB0.out n1 n2);(have HPRE:=Hd (fun (r:StL) (w':World) (h:RdT A X v L p r W1 w')=>rdt_trans (HW0.out.mono hA) (step_on HW0.out) (rdt_trans hb hs h)));(have HPB:=Hd (fun (w':World) (h:Below A W1 w')=>(HW0.out.mono hA).trans (hb.trans h)));have q0:=bq HBK.out 0;have q1:=bq HBK.out 1;obtain⟨g,rfl⟩:∃g,gk=g+1:=by
   cases gk with
   | zero=>cases hg
   | succ g=>exact⟨g,rfl⟩
  rw [HRUN.out] at hg;have HSB:=Hd hs;have HBB:=Hd hb;obtain⟨n3,n4⟩:w.heap.size≠X∧p.ownBlock≠some w.heap.size:=⟨n1,fun c=>by
   have hs:=HSB.out;rcases hs.own with e|e
   ·exact n2 (e ▸ c)
   ·have:=e _ c;simp at this;omega⟩
  by_cases hK:signK L a lf lt=0
  ·rw [if_pos hK] at hg;(obtain rfl:some (a,P)=r:=by simpa [okR] using hg);have HT:=Hd (HTAKE.out W1 a P p 0 a hr hK rfl);clear hs hb hr hg hK hrel n3 n4;(go_wp2_with fail);refine HT.out.mono ?_;rintro e w1 ⟨rfl,hr1⟩;have HR:=Hd (HPRE.out _ _ hr1);clear hr1;go_wp2;go_ret;exact⟨rfl,HR.out⟩
  ·rw [if_neg hK] at hg;obtain⟨K,hKe⟩:∃K,signK L a lf lt=K:=⟨_,rfl⟩;rw [hKe] at hK hg;have HT:=Hd (HTAKE.out W1 a P p K (a+1) hr hKe (if_neg hK));(have gz:((K:Int)==0)=false:=beq_eq_false_iff_ne.2 (by omega));(have i1:((i:Int)+1)=((i+1:Nat):Int):=by omega);rcases bindR_some hg with ⟨hd,rfl⟩|⟨⟨a',P'⟩,hd,hq2⟩
   ·(have HC:=Hd (fun W p1 hW=>HIC.out g (by omega) (i+1) (a+1) P none p1 W (by omega) hd hW));rw [←i1] at HC;clear hs hb hr hg hK hrel hKe hd i1 n3 n4;(go_wp2_with fail);refine HT.out.mono ?_;rintro e w1 ⟨rfl,p1,h1,hb1,hs1⟩;have H1:=Hd h1;have HB1:=Hd hb1;clear h1 hb1 hs1;(go_wp2_with fail);refine (HC.out _ p1 H1.out).mono ?_;rintro e w2 ⟨rfl,hb2⟩;have HB2:=Hd (HPB.out _ (HB1.out.trans hb2));clear hb2;go_wp2;go_ret;exact⟨rfl,HB2.out⟩
   ·have hsl:=run_slack L g _ _ _ hd;(unfold Slack at hsl);dsimp only at hsl hq2;have hPa:=hr.most.1;(have hlt2:P'.length<a':=by omega);(have HC:=Hd (fun W p1 hW=>HIC.out g (by omega) (i+1) (a+1) P (some (a',P')) p1 W (by omega) hd hW));(have HA:Hid (∀W p2,Rd A X v L a' P' p2 W→Calls Tryz.prog 285 #[.pointer (some ⟨X,0,none⟩),.agg #[.int .i64 K,.int .i64 0,.string ⟨#[]⟩,.string ⟨#[]⟩,.string ⟨#[]⟩,.string ⟨#[]⟩,.int .i64 0]] W fun e w'=>e=.returned (.tuple #[])∧RdT A X v L p2 (a',P'++[signPart K]) W w'):=Hd fun W p2 hW=>add_calls A X v p2 L a' P' (signPart K) W hW hL hlt2);have HQ2:=Hd hq2;rw [←i1] at HC;clear hs hb hr hg hK hrel hKe hd hq2 hsl hlt2 hPa i1;(go_wp2_with fail);refine HT.out.mono ?_;rintro e w1 ⟨rfl,p1,h1,hb1,hs1⟩;have H1:=Hd h1;have HB1:=Hd hb1;have HS1:=Hd hs1;clear h1 hb1 hs1;(go_wp2_with fail);refine (HC.out _ p1 H1.out).mono ?_;rintro e w2 ⟨rfl,p2,h2,hb2,hs2⟩;have H2:=Hd h2;have HB2:=Hd (HB1.out.trans hb2);have HS2:=Hd (HS1.out.trans hs2);clear h2 hb2 hs2;(go_wp2_with fail);refine (HA.out _ p2 H2.out).mono ?_;rintro e w3 ⟨rfl,p3,h3,hb3,hs3⟩;have H3:=Hd h3;have HB3:=Hd (HB2.out.trans hb3);have HS3:=Hd (HS2.out.trans hs3);have hbk3:=step_blk HS3.out HBK.out n3 n4;have r2:=bq hbk3 2;clear h3 hb3 hs3 hbk3 n3 n4 q0 q1;cases lo with
    | true =>
      (have hE:some (a',P'++[signPart K])=r:=by have:=HQ2.out;simpa [okR,putR] using this);subst hE;have HR:=Hd (HPRE.out _ _ ⟨p3,H3.out,HB3.out,HS3.out⟩);go_wp2;go_ret;exact⟨rfl,HR.out⟩
    | false =>
      (have HG:=Hd (show runM L g (.gather i) (a',P'++[signPart K])=some r from by have:=HQ2.out;simpa [putR] using this));go_wp2;go_roundg g
      case measure=>omega
      case rel=>exact⟨Hd ⟨a',P'++[signPart K],p3,HG.out,H3.out,HBB.out.trans HB3.out,HSB.out.trans HS3.out⟩,by omega⟩
end
section
open Go.RowKit
def ChF (A X:Nat) (v:Value) (L:List TokL) (f n:Nat) (pv:Value) (r:Option StL) (W0:World) (g:Nat) (iv:Value) (wr:World):Prop :=
  ∃(a:Nat) (P:List PartL) (p:Value),iv=.int .i64 ((n+g:Nat)-1:Int)∧levsR (fun i=>runM L f (.gather i)) n g (a,P)=some r∧Rd A X v L a P p wr∧Below A W0 wr∧Step X pv p W0 wr
theorem chainR_of (A X:Nat) (v:Value) (L:List TokL) (F:Nat) (IS:∀g,g<F→SignedR A X v L g) (IG:∀g,g<F→GatherR A X v L g):ChainR A X v L F:=by
 intro n a P r pv w hn hq h;obtain⟨f,rfl⟩:∃f,F=f+1:=by
  cases F with
  | zero=>cases hq
  | succ f=>exact⟨f,rfl⟩
 rw [runM] at hq;rcases bindR_some hq with ⟨hd,rfl⟩|⟨⟨a1,P1⟩,hd,hq2⟩
 ·(have HS:=Hd (IS f (by omega) a P none pv w hd h));clear h hq hd IS IG;(go_enter Tryz.func271,Tryz.ntmps271);(go_wp2_with fail);refine HS.out.mono ?_;rintro e w1 ⟨rfl,hb1⟩;have HB1:=Hd hb1;clear hb1;go_wp2;go_ret;exact⟨rfl,HB1.out⟩
 ·(have HS:=Hd (IS f (by omega) a P (some (a1,P1)) pv w hd h));(have HG:=Hd (fun i a P r p W hi hq hr=>IG f (by omega) i a P r p W hi hq hr));have HQ:=Hd hq2;clear h hq hd IS IG hq2;(go_enter Tryz.func271,Tryz.ntmps271);(go_wp2_with fail);refine HS.out.mono ?_;rintro e w1 ⟨rfl,p1,h1,hb1,hs1⟩;have H1:=Hd h1;have HB1:=Hd hb1;have HS1:=Hd hs1;clear h1 hb1 hs1;go_wp2;go_loopg [5] (5-n) (fun g iv wr=>Hid (ChF A X v L f n p1 r w1 g iv wr)∧g≤5-n)
  case atStart=>exact⟨Hd ⟨a1,P1,p1,by congr 1;omega,HQ.out,H1.out,Below.refl _ _,step_on (Below.refl _ _)⟩,Nat.le_refl _⟩
  case round =>
   obtain⟨W1,rfl⟩:∃W1,W1=wr:=⟨_,rfl⟩;obtain⟨hrel,hg5⟩:=hrel;obtain⟨a2,P2,p2,rfl,hlv,hr,hb,hs⟩:=hrel.out;have H2:=Hd hr;have HB2:=Hd hb;have HS2:=Hd hs;cases gk with
   | zero =>
     (obtain rfl:some (a2,P2)=r:=by simpa [levsR,okR] using hlv);(have g1:¬((n:Int)≤(n+0:Nat)-1):=by omega);(have HR:=Hd (rdt_trans HB1.out HS1.out (show RdT A X v L p1 (a2,P2) w1 W1 from ⟨p2,H2.out,HB2.out,HS2.out⟩)));clear hlv hr hb hs hrel;go_wp2;go_ret;exact⟨rfl,HR.out⟩
   | succ g =>
     rw [levsR] at hlv;(have hi:n+g<5:=by omega);have gd:=hr.good;have l0:=gd.lv0 (n+g) hi;have l1:=gd.lv1 (n+g) hi;have l2:=gd.lv2 (n+g) hi;(have HCC:=Hd (fun r (hq:runM L f (.gather (n+g)) (a2,P2)=some r)=>HG.out (n+g) a2 P2 r p2 W1 hi hq hr));obtain⟨lf,hlf⟩:∃lf,(lev (n+g)).1=lf:=⟨_,rfl⟩;obtain⟨lt,hlt⟩:∃lt,(lev (n+g)).2.1=lt:=⟨_,rfl⟩;obtain⟨lo,hlo⟩:∃lo,(lev (n+g)).2.2=lo:=⟨_,rfl⟩;rw [hlf,hlt,hlo] at HCC;rw [hlf] at l0;rw [hlt] at l1;rw [hlo] at l2;obtain⟨m,hm⟩:∃m,n+g=m:=⟨_,rfl⟩;rw [hm] at l0 l1 l2 HCC hi hlv;have HM:=Hd hm;(have e1:((n+(g+1):Nat):Int)-1=(m:Int):=by omega);rw [e1];(have g1:(n:Int)≤(m:Int):=by omega);(have g2:(m:Int)<5:=by omega);(have g0:(0:Int)≤(m:Int):=by omega);rcases bindR_some hlv with ⟨hd,rfl⟩|⟨⟨a3,P3⟩,hd,hlv2⟩
     ·have HC:=Hd (HCC.out none hd);clear hlv hr hb hs hrel hd gd hlf hlt hlo hm e1;(go_wp2_with fail);refine HC.out.mono ?_;rintro e w2 ⟨rfl,hb3⟩;have HB3:=Hd (HB1.out.trans (HB2.out.trans hb3));clear hb3;go_wp2;go_ret;exact⟨rfl,HB3.out⟩
     ·have HC:=Hd (HCC.out (some (a3,P3)) hd);have HLV:=Hd hlv2;clear hlv hlv2 hr hb hs hrel hd gd hlf hlt hlo hm e1;(go_wp2_with fail);refine HC.out.mono ?_;rintro e w2 ⟨rfl,p3,h3,hb3,hs3⟩;have H3:=Hd h3;have HB3:=Hd (HB2.out.trans hb3);have HS3:=Hd (HS2.out.trans hs3);clear h3 hb3 hs3;go_wp2;go_roundg g
      case measure=>omega
      case rel=>exact⟨Hd ⟨a3,P3,p3,by have:=HM.out;go_num,HLV.out,H3.out,HB3.out,HS3.out⟩,by omega⟩
theorem disjR_of {A X:Nat} {v:Value} {L:List TokL} {F:Nat} (IC:ChainR A X v L F):DisjR A X v L F:=by
 intro a P r pv w hq h;(have HC:Hid (Calls Tryz.prog 271 #[.pointer (some ⟨X,0,none⟩),.int .i64 0] w (FResT A X v L pv r w)):=Hd (IC 0 a P r pv w (by omega) hq h));clear h hq IC;(go_enter Tryz.func249,Tryz.ntmps249);(go_wp2_with fail);refine HC.out.mono ?_;intro e w2 hr2;cases r with
 | none =>
   obtain⟨rfl,hb2⟩:=hr2;have HB2:=Hd hb2;clear hb2;go_wp2;go_ret;exact⟨rfl,HB2.out⟩
 | some q =>
   obtain⟨rfl,hr9⟩:=hr2;have HR2:=Hd hr9;clear hr9;go_wp2;go_ret;exact⟨rfl,HR2.out⟩
def ArgF (A X:Nat) (v:Value) (L:List TokL) (kind:Nat) (pv:Value) (r:Option StL) (W0:World) (g n:Nat) (wr:World):Prop :=
  ∃(a:Nat) (P:List PartL) (p:Value),runM L g (.args kind n) (a,P)=some r∧P.length<a∧Rd A X v L a P p wr∧Below A W0 wr∧Step X pv p W0 wr
end
section
open Go.RowKit
def ArgE (A X:Nat) (v:Value) (L:List TokL) (kind:Nat) (pv:Value) (r:Option StL) (W0:World) (n:Nat) (wr:World):Prop :=
  ∃(a:Nat) (P:List PartL) (p:Value),argsEnd L kind n (a,P)=some r∧P.length<a∧Rd A X v L a P p wr∧Below A W0 wr∧Step X pv p W0 wr
theorem argsR_of (A X:Nat) (v:Value) (L:List TokL) (hL:L.length≤100000) (F:Nat) (hF:F≤1000000) (ID:∀g,g<F→DisjR A X v L g):ArgsR A X v L F:=by
 intro kind a P r pv w hk18 hk26 hPa hq h;have HID:=Hd ID;have HQ:=Hd hq;have H0:=Hd h;clear ID hq h;(go_enter Tryz.func299,Tryz.ntmps299);go_wp2;go_loopg [5,6] F (fun g nv mv wr=>∃(n:Nat) (m:Bool),nv=.int .i64 n∧mv=.bool m∧g≤F∧n≤1000000∧(m=true→n+g≤F)∧Hid (if m=true then ArgF A X v L kind pv r w g n wr else ArgE A X v L kind pv r w n wr))
 case atStart=>exact⟨0,true,rfl,rfl,Nat.le_refl _,Nat.zero_le _,fun _=>by omega,Hd (by rw [if_pos rfl];exact⟨a,P,pv,HQ.out,hPa,H0.out,Below.refl _ _,step_on (Below.refl _ _)⟩)⟩
 case round =>
  obtain⟨W1,rfl⟩:∃W1,W1=wr:=⟨_,rfl⟩;obtain⟨n,m,rfl,rfl,hgF,hn5,hng,hrel⟩:=hrel;cases m with
  | true =>
    (have hng':=hng rfl);obtain⟨a,P,p,hg,hPa,hr,hb,hs⟩:=(if_pos rfl).mp hrel.out;(have HPRE:=Hd (fun (q:StL) (w':World) (h:RdT A X v L p q W1 w')=>rdt_trans hb hs h));(have HPB:=Hd (fun (w':World) (h:Below A W1 w')=>hb.trans h));have HBB:=Hd hb;have HSB:=Hd hs;obtain⟨g,rfl⟩:∃g,gk=g+1:=by
     cases gk with
     | zero=>cases hg
     | succ g=>exact⟨g,rfl⟩
    rw [runM] at hg;rcases bindR_some hg with ⟨hd,rfl⟩|⟨⟨a2,P2⟩,hd,hq2⟩
    ·(have HD:=Hd (HID.out g (by omega) a P none p W1 hd hr));clear hg hd hPa hr hb hs hrel;(go_wp2_with fail);refine HD.out.mono ?_;rintro e w2 ⟨rfl,hb2⟩;have HB2:=Hd (HPB.out _ hb2);clear hb2;go_wp2;go_ret;exact⟨rfl,HB2.out⟩
    ·(have HD:=Hd (HID.out g (by omega) a P (some (a2,P2)) p W1 hd hr));have hsl:=run_slack L g _ _ _ hd;(unfold Slack at hsl);dsimp only at hsl hq2;obtain⟨K,hK⟩:∃K,isSign L a2 commaS=K:=⟨_,rfl⟩;rw [hK] at hq2;(have HTK:=Hd (fun b p W (hr:Rd A X v L a2 P2 p W) (h2:(if K=true then a2+1 else a2)=b)=>take_calls A X v p L a2 P2 commaS W hr hL K b hK h2));(have hP2:P2.length<a2:=by omega);clear hg hd hr hb hs hrel hK;(go_wp2_with fail);refine HD.out.mono ?_;rintro e w2 ⟨rfl,p2,h2',hb2',hs2'⟩;have H2:=Hd h2';have HB2:=Hd hb2';have HS2:=Hd hs2';clear h2' hb2' hs2';(go_wp2_with fail);refine (HTK.out _ p2 _ H2.out rfl).mono ?_;rintro e w3 ⟨rfl,p3,h3',hb3',hs3'⟩;have H3:=Hd h3';have HB3:=Hd (HBB.out.trans (HB2.out.trans hb3'));have HS3:=Hd (HSB.out.trans (HS2.out.trans hs3'));have HQ2:=Hd hq2;clear h3' hb3' hs3' hq2;go_wp2;go_roundg g
     case measure=>omega
     case rel =>
      (refine⟨n+1,K,by go_num,rfl,by omega,by omega,fun _=>by omega,Hd ?_⟩);have hq3:=HQ2.out;cases K with
      | true =>
        rw [if_pos rfl] at hq3 ⊢;exact⟨a2+1,P2,p3,hq3,by omega,H3.out,HB3.out,HS3.out⟩
      | false =>
        (rw [if_neg (by decide)] at hq3 ⊢);exact⟨a2,P2,p3,hq3,hP2,H3.out,HB3.out,HS3.out⟩
  | false =>
    (obtain⟨a,P,p,hend,hPa,hr,hb,hs⟩:=(if_neg (by decide)).mp hrel.out);(have HPRE:=Hd (fun (q:StL) (w':World) (h:RdT A X v L p q W1 w')=>rdt_trans hb hs h));(have HPB:=Hd (fun (w':World) (h:Below A W1 w')=>hb.trans h));have HR1:=Hd hr;(unfold argsEnd funPart at hend);dsimp only at hend;by_cases hk:kind=26
    ·subst hk;(rw [if_pos rfl,show ((26:Nat):Int)=26 from rfl] at hend);(have HADD:Hid (∀W,Rd A X v L a P p W→Calls Tryz.prog 285 #[.pointer (some ⟨X,0,none⟩),.agg #[.int .i64 26,.int .i64 0,.string ⟨#[]⟩,.string ⟨#[]⟩,.string ⟨#[]⟩,.string ⟨#[]⟩,.int .i64 n]] W fun e w'=>e=.returned (.tuple #[])∧RdT A X v L p (a,P++[⟨26,noTerm,[],n⟩]) W w'):=Hd fun W hW=>add_calls A X v p L a P ⟨26,noTerm,[],n⟩ W hW hL hPa);(have HND:Hid (∀W,Calls Tryz.prog 225 #[.agg #[.int .i64 26,.int .i64 0,.string ⟨#[]⟩,.string ⟨#[]⟩,.string ⟨#[]⟩,.string ⟨#[]⟩,.int .i64 n]] W fun e w'=>e=.returned (.int .i64 (needM ⟨26,noTerm,[],n⟩))∧Below W.heap.size W w'):=Hd fun W=>Needs_calls ⟨26,noTerm,[],n⟩ W);(have HTK:=Hd (fun K b p Q W (hr:Rd A X v L a Q p W) (h1:isSign L a closeS=K) (h2:(if K=true then a+1 else a)=b)=>take_calls A X v p L a Q closeS W hr hL K b h1 h2));obtain⟨nn,hnn⟩:∃nn,needM ⟨26,noTerm,[],n⟩=nn:=⟨_,rfl⟩;obtain⟨K,hK⟩:∃K,isSign L a closeS=K:=⟨_,rfl⟩;rw [hnn] at HND hend;rw [hK] at hend;have HRR:=Hd hend;obtain⟨n1,n2⟩:=rd_new hr (Nat.le_refl _);have HKK:=Hd hK;clear hnn hend hr hb hs hrel hK;(go_wp2_with fail);refine (HADD.out _ (HR1.out.on ?_)).mono ?_
     ·repeat (with_reducible (first|exact Below.refl _ _|exact box_below _ _|refine Below.setCell ?_ (by first|exact Nat.le_refl _|omega|(simp;omega)) _|refine Below.alloc ?_ (by first|exact Nat.le_refl _|omega|(simp;omega)) _))
     rintro e w2 ⟨rfl,p2,h2',hb2',hs2'⟩;(have hcy:=fun i=>World.cell?_of_block (a:=⟨W1.heap.size,i,none⟩) (hs2'.block W1.heap.size (by simp) n1 n2));(have hz2:W1.heap.size<w2.heap.size:=Nat.lt_of_lt_of_le (by simp) hs2'.size);have H2:=Hd h2';(have HB2:=Hd (show Below A W1 w2 from Below.trans (Below.mono (by repeat (with_reducible (first|exact Below.refl _ _|exact box_below _ _|refine Below.setCell ?_ (by first|exact Nat.le_refl _|omega|(simp;omega)) _|refine Below.alloc ?_ (by first|exact Nat.le_refl _|omega|(simp;omega)) _))) HR1.out.size) hb2'));(have HS2:=Hd (show Step X p p2 W1 w2 from Step.trans (step_on (by repeat (with_reducible (first|exact Below.refl _ _|exact box_below _ _|refine Below.setCell ?_ (by first|exact Nat.le_refl _|omega|(simp;omega)) _|refine Below.alloc ?_ (by first|exact Nat.le_refl _|omega|(simp;omega)) _)))) hs2'));clear h2' hb2' hs2' n1 n2;by_cases hnz:nn=(n:Int)
     ·have gn:(nn==(n:Int))=true:=beq_iff_eq.2 hnz;cases K with
      | false =>
        (obtain rfl:none=r:=by have:=HRR.out;rw [if_neg (fun c=>by cases c.2)] at this;simpa [failR] using this);clear hnz;(go_wp2_with fail);refine (HND.out _).mono ?_;rintro e w3 ⟨rfl,hb3⟩;have HB3:=Hd hb3;clear hb3;(go_wp2_with fail);refine (HTK.out false a p2 _ _ (H2.out.on HB3.out) HKK.out rfl).mono ?_;rintro e w4 ⟨rfl,hr4⟩;have HB4:=Hd (HPB.out _ (HB2.out.trans ((HB3.out.mono H2.out.size).trans (rdt_below hr4))));clear hr4;go_wp2;go_ret;exact⟨rfl,HB4.out⟩
      | true =>
        (obtain rfl:some (a+1,P++[⟨26,noTerm,[],n⟩])=r:=by have:=HRR.out;rw [if_pos ⟨hnz,rfl⟩] at this;simpa [okR] using this);clear hnz;(go_wp2_with fail);refine (HND.out _).mono ?_;rintro e w3 ⟨rfl,hb3⟩;have HB3:=Hd hb3;clear hb3;(go_wp2_with fail);refine (HTK.out true (a+1) p2 _ _ (H2.out.on HB3.out) HKK.out rfl).mono ?_;rintro e w4 ⟨rfl,hr4⟩;have HR4:=Hd (HPRE.out _ _ (rdt_trans HB2.out HS2.out (rdt_ons H2.out HB3.out hr4)));clear hr4;go_wp2;go_ret;exact⟨rfl,HR4.out⟩
     ·have gn:(nn==(n:Int))=false:=beq_eq_false_iff_ne.2 hnz;(obtain rfl:none=r:=by have:=HRR.out;rw [if_neg (fun c=>hnz c.1)] at this;simpa [failR] using this);clear hnz;(go_wp2_with fail);refine (HND.out _).mono ?_;rintro e w3 ⟨rfl,hb3⟩;have HB3:=Hd (HPB.out _ (HB2.out.trans (hb3.mono H2.out.size)));clear hb3;go_wp2;go_ret;exact⟨rfl,HB3.out⟩
    ·(have gk26:((kind:Int)==26)=false:=beq_eq_false_iff_ne.2 (by omega));rw [if_neg hk] at hend;(have HADD:Hid (∀W,Rd A X v L a P p W→Calls Tryz.prog 285 #[.pointer (some ⟨X,0,none⟩),.agg #[.int .i64 kind,.int .i64 0,.string ⟨#[]⟩,.string ⟨#[]⟩,.string ⟨#[]⟩,.string ⟨#[]⟩,.int .i64 0]] W fun e w'=>e=.returned (.tuple #[])∧RdT A X v L p (a,P++[⟨kind,noTerm,[],0⟩]) W w'):=Hd fun W hW=>add_calls A X v p L a P ⟨kind,noTerm,[],0⟩ W hW hL hPa);(have HND:Hid (∀W,Calls Tryz.prog 225 #[.agg #[.int .i64 kind,.int .i64 0,.string ⟨#[]⟩,.string ⟨#[]⟩,.string ⟨#[]⟩,.string ⟨#[]⟩,.int .i64 0]] W fun e w'=>e=.returned (.int .i64 (needM ⟨kind,noTerm,[],0⟩))∧Below W.heap.size W w'):=Hd fun W=>Needs_calls ⟨kind,noTerm,[],0⟩ W);(have HTK:=Hd (fun K b p Q W (hr:Rd A X v L a Q p W) (h1:isSign L a closeS=K) (h2:(if K=true then a+1 else a)=b)=>take_calls A X v p L a Q closeS W hr hL K b h1 h2));obtain⟨nn,hnn⟩:∃nn,needM ⟨kind,noTerm,[],0⟩=nn:=⟨_,rfl⟩;obtain⟨K,hK⟩:∃K,isSign L a closeS=K:=⟨_,rfl⟩;rw [hnn] at HND hend;rw [hK] at hend;have HRR:=Hd hend;obtain⟨n1,n2⟩:=rd_new hr (Nat.le_refl _);have HKK:=Hd hK;clear hnn hend hr hb hs hrel hK;(go_wp2_with fail);refine (HADD.out _ (HR1.out.on ?_)).mono ?_
     ·repeat (with_reducible (first|exact Below.refl _ _|exact box_below _ _|refine Below.setCell ?_ (by first|exact Nat.le_refl _|omega|(simp;omega)) _|refine Below.alloc ?_ (by first|exact Nat.le_refl _|omega|(simp;omega)) _))
     rintro e w2 ⟨rfl,p2,h2',hb2',hs2'⟩;(have hcy:=fun i=>World.cell?_of_block (a:=⟨W1.heap.size,i,none⟩) (hs2'.block W1.heap.size (by simp) n1 n2));(have hz2:W1.heap.size<w2.heap.size:=Nat.lt_of_lt_of_le (by simp) hs2'.size);have H2:=Hd h2';(have HB2:=Hd (show Below A W1 w2 from Below.trans (Below.mono (by repeat (with_reducible (first|exact Below.refl _ _|exact box_below _ _|refine Below.setCell ?_ (by first|exact Nat.le_refl _|omega|(simp;omega)) _|refine Below.alloc ?_ (by first|exact Nat.le_refl _|omega|(simp;omega)) _))) HR1.out.size) hb2'));(have HS2:=Hd (show Step X p p2 W1 w2 from Step.trans (step_on (by repeat (with_reducible (first|exact Below.refl _ _|exact box_below _ _|refine Below.setCell ?_ (by first|exact Nat.le_refl _|omega|(simp;omega)) _|refine Below.alloc ?_ (by first|exact Nat.le_refl _|omega|(simp;omega)) _)))) hs2'));clear h2' hb2' hs2' n1 n2;by_cases hnz:nn=(n:Int)
     ·have gn:(nn==(n:Int))=true:=beq_iff_eq.2 hnz;cases K with
      | false =>
        (obtain rfl:none=r:=by have:=HRR.out;rw [if_neg (fun c=>by cases c.2)] at this;simpa [failR] using this);clear hnz;(go_wp2_with fail);refine (HND.out _).mono ?_;rintro e w3 ⟨rfl,hb3⟩;have HB3:=Hd hb3;clear hb3;(go_wp2_with fail);refine (HTK.out false a p2 _ _ (H2.out.on HB3.out) HKK.out rfl).mono ?_;rintro e w4 ⟨rfl,hr4⟩;have HB4:=Hd (HPB.out _ (HB2.out.trans ((HB3.out.mono H2.out.size).trans (rdt_below hr4))));clear hr4;go_wp2;go_ret;exact⟨rfl,HB4.out⟩
      | true =>
        (obtain rfl:some (a+1,P++[⟨kind,noTerm,[],0⟩])=r:=by have:=HRR.out;rw [if_pos ⟨hnz,rfl⟩] at this;simpa [okR] using this);clear hnz;(go_wp2_with fail);refine (HND.out _).mono ?_;rintro e w3 ⟨rfl,hb3⟩;have HB3:=Hd hb3;clear hb3;(go_wp2_with fail);refine (HTK.out true (a+1) p2 _ _ (H2.out.on HB3.out) HKK.out rfl).mono ?_;rintro e w4 ⟨rfl,hr4⟩;have HR4:=Hd (HPRE.out _ _ (rdt_trans HB2.out HS2.out (rdt_ons H2.out HB3.out hr4)));clear hr4;go_wp2;go_ret;exact⟨rfl,HR4.out⟩
     ·have gn:(nn==(n:Int))=false:=beq_eq_false_iff_ne.2 hnz;(obtain rfl:none=r:=by have:=HRR.out;rw [if_neg (fun c=>hnz c.1)] at this;simpa [failR] using this);clear hnz;(go_wp2_with fail);refine (HND.out _).mono ?_;rintro e w3 ⟨rfl,hb3⟩;have HB3:=Hd (HPB.out _ (HB2.out.trans (hb3.mono H2.out.size)));clear hb3;go_wp2;go_ret;exact⟨rfl,HB3.out⟩
end
section
open Go.RowKit
theorem run_all (A X:Nat) (v:Value) (L:List TokL) (hL:L.length≤100000) (hx:∀t∈L,TokOk t) (hlow:LowC):∀N,N≤1000001→∀g,g<N→ChainR A X v L g∧GatherR A X v L g∧SignedR A X v L g∧ArgsR A X v L g
  | 0,_,_,h=>absurd h (Nat.not_lt_zero _)
  | N+1,hN,g,h=>by
    have ih:=run_all A X v L hL hx hlow N (by omega)
    rcases Nat.lt_or_ge g N with h1|h1
    · exact ih g h1
    · obtain rfl:g=N:=by omega
      have ID:∀f,f<g→DisjR A X v L f:=fun f hf=>disjR_of (ih f hf).1
      exact⟨chainR_of A X v L g (fun f hf=>(ih f hf).2.2.1) (fun f hf=>(ih f hf).2.1),gatherR_of A X v L hL g (fun f hf=>(ih f hf).1),signedR_of A X v L hL hx hlow g (fun f hf=>(ih f hf).2.2.1) (fun f hf=>(ih f hf).2.2.2) ID,argsR_of A X v L hL g (by omega) ID⟩
def ParseT (q:List PartL×Nat×Int) (w:World) (e:Ending) (w':World):Prop :=
  ∃pv,e=.returned (.tuple #[pv,.int .i64 q.2.1,.int .i64 q.2.2])∧w'.ownsRow w.heap.size 157 7 pv q.1.length (partCells q.1)∧Below w.heap.size w w'
theorem rd_begin {v:Value} {L:List TokL} {w:World} {a:Nat} (ha:a≤L.length) (ht:TokS w.heap.size v L w) (hg:Good w.heap.size w):Rd w.heap.size w.heap.size v L a [] (.slice none 0 0) (w.alloc (.cells #[v,.int .i64 a,.slice none 0 0] 256)) :=
  ⟨blk_new _ _ _,World.ownsRow_nil _ _ _ _,Nat.le_refl _,ht.on (box_below _ _),hg.on (box_below _ _),⟨Nat.zero_le _,ha⟩⟩
theorem ParseA_calls (v:Value) (L:List TokL) (hL:L.length≤100000) (hx:∀t∈L,TokOk t) (hlow:LowC) (a:Nat) (ha:a≤L.length) (q:List PartL×Nat×Int) (w:World) (hq:parseM L a=some q) (ht:TokS w.heap.size v L w) (hg:Good w.heap.size w):Calls Tryz.prog 211 #[v,.int .i64 a] w (ParseT q w):=by
 have HS:=Hd (rd_begin ha ht hg);obtain⟨g,cap,rfl,hgl,hcap,_⟩:=ht.row;obtain⟨N,hN⟩:∃N,L.length=N:=⟨_,rfl⟩;have HN:=Hd hN;(have HD:=Hd (fun r pv W (h1:runM L (8*L.length+16) (.chain 0) (a,[])=some r) hr=>disjR_of (run_all w.heap.size w.heap.size (.slice (some ⟨g,0,none⟩) L.length cap) L hL hx hlow 1000001 (Nat.le_refl _) (8*L.length+16) (by omega)).1 a [] r pv W h1 hr));(have g1:decide ((a:Int)<0)=false:=decide_eq_false (by omega));(have g2:decide ((N:Int)<(a:Int))=false:=decide_eq_false (by omega));(have g3:¬N<a:=by omega);(unfold parseM at hq);clear ht hg hx hlow;rw [hN] at HS hcap hL;split at hq
 ·cases hq
 ·rename_i hrun;(obtain rfl:([],0,2)=q:=by simpa using hq);(have HDD:=Hd (fun pv W hr=>HD.out none pv W hrun hr));clear hq hrun HD;(go_enter Tryz.func211,Tryz.ntmps211);rw [hN] at HDD ⊢;clear hN;(go_wp2_with fail);refine (HDD.out _ _ HS.out).mono ?_;rintro e w1 ⟨rfl,hb1⟩;have HB:=Hd ((box_below w _).trans hb1);clear hb1;go_wp2;refine bodyPost_ret (v:=.tuple #[.slice none 0 0,.int .i64 0,.int .i64 2]) (by simp [results,Tryz.results211,go_sem]) rfl ⟨_,rfl,World.ownsRow_nil _ _ _ _,HB.out⟩
 ·rename_i q1 hrun;obtain⟨qa,qP⟩:=q1;(have HDD:=Hd (fun pv W hr=>HD.out (some (qa,qP)) pv W hrun hr));dsimp only at hq;clear hrun HD;(go_enter Tryz.func211,Tryz.ntmps211);rw [hN] at HDD ⊢;clear hN;(go_wp2_with fail);refine (HDD.out _ _ HS.out).mono ?_;rintro e w1 ⟨rfl,p1,h1,hb1,_⟩;have hrow:=h1.row;obtain⟨d0,d1,d2⟩:=h1.cells;obtain⟨m1,m2⟩:=h1.most;rw [HN.out] at m2;obtain⟨v5,c5,rfl⟩:=row_slice hrow;have HB:=Hd ((box_below w _).trans hb1);dsimp only at d1 d2 m1 m2;have HR:=Hd hrow;obtain⟨M,hM⟩:∃M,qP.length=M:=⟨_,rfl⟩;have HM:=Hd hM;rw [hM] at d2 m1 hq;clear h1 hb1 hrow hM;by_cases h256:256<M
  ·rw [if_pos h256] at hq;(obtain rfl:([],0,3)=q:=by simpa using hq);(have g4:(256:Int)<(M:Int):=by omega);clear hq h256;go_wp2;refine bodyPost_ret (v:=.tuple #[.slice none 0 0,.int .i64 0,.int .i64 3]) (by simp [results,Tryz.results211,go_sem]) rfl ⟨_,rfl,World.ownsRow_nil _ _ _ _,HB.out⟩
  ·rw [if_neg h256] at hq;(obtain rfl:(qP,qa,0)=q:=by simpa using hq);(have g4:¬(256:Int)<(M:Int):=by omega);clear hq h256;go_wp2;(go_quiet (fail));go_wp2;(refine bodyPost_ret (v:=.tuple #[.slice v5 M c5,.int .i64 qa,.int .i64 0]) (by simp [results,Tryz.results211,go_sem]) rfl ?_);refine⟨_,rfl,?_,below_drawn HB.out _⟩;have:=HR.out;rw [HM.out] at this;(rw [show ((qP,qa,0):List PartL×Nat×Int).1.length=M from HM.out]);exact rowOn this (below_draws _ _)
end
section
open Go.RowKit
theorem low_c:LowC:=fun W=>by
  constructor
  · have:=Tryz.strings_ToLower_ascii ⟨#[84,82,85,69]⟩ W (by show 4≤140737488355328;omega) (by intro j b h;match j,h with|0,h=>(simp at h;subst h;decide)|1,h=>(simp at h;subst h;decide)|2,h=>(simp at h;subst h;decide)|3,h=>(simp at h;subst h;decide)|j+4,h=>(simp at h))
    exact this
  · have:=Tryz.strings_ToLower_ascii ⟨#[70,65,76,83,69]⟩ W (by show 5≤140737488355328;omega) (by intro j b h;match j,h with|0,h=>(simp at h;subst h;decide)|1,h=>(simp at h;subst h;decide)|2,h=>(simp at h;subst h;decide)|3,h=>(simp at h;subst h;decide)|4,h=>(simp at h;subst h;decide)|j+5,h=>(simp at h))
    exact this
end
end Go.Proofs.YtjpfoophipcglaaGreatDoor
