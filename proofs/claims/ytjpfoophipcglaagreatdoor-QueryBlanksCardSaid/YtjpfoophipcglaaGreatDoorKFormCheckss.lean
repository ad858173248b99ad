/- How many results a part needs: package formula's Needs and the document's, for every part. -/
import Derived.Test.YtjpfoophipcglaaGreatDoorKTermChecks
import Derived.Deep.LoopGhost
import Derived.Test.YtjpfoophipcglaaGreatDoorKScopePlains
namespace Go.Proofs.YtjpfoophipcglaaGreatDoor
set_option maxRecDepth 100000
set_option maxHeartbeats 8000000
section
open Go.RowKit
theorem need_other {k:Int} (h:k<1∨26<k):needK k = -1:=by
  unfold needK
  rw [if_neg (by omega),if_neg (by omega),if_neg (by omega),if_neg (by omega)]
theorem kind_cases (k:Int):(k<1∨26<k)∨k=26∨k=1∨k=2∨k=3∨k=4∨k=5∨k=6∨k=7∨k=8∨k=9∨k=10∨k=11∨k=12∨k=13∨k=14∨k=15∨k=16∨k=17∨k=18∨k=19∨k=20∨k=21∨k=22∨k=23∨k=24∨k=25:=by omega
theorem not_kind {k:Int} (h:k<1∨26<k) (j:Int) (h1:1≤j) (h2:j≤26):(k==j)=false:=beq_eq_false_iff_ne.2 (by omega)
theorem coal_calls (c:Int) (w:World):Calls Tryz.prog 258 #[.int .i64 c] w fun e w'=>e=.returned (.int .i64 (coalN c))∧w'=w:=by
 by_cases h1:1≤c
 ·by_cases h2:c≤16
  ·(have HC:=Hd (show coalN c=c by unfold coalN;rw [if_pos ⟨h1,h2⟩]));(have g1:¬c<1:=by omega);(have g2:¬16<c:=by omega);(go_enter Tryz.func258,Tryz.ntmps258);go_wp2;go_ret;exact⟨by rw [HC.out];rfl,rfl⟩
  ·(have HC:=Hd (show coalN c = -1 by unfold coalN;rw [if_neg (by omega)]));(have g1:¬c<1:=by omega);(have g2:16<c:=by omega);(go_enter Tryz.func258,Tryz.ntmps258);go_wp2;go_ret;exact⟨by rw [HC.out];rfl,rfl⟩
 ·(have HC:=Hd (show coalN c = -1 by unfold coalN;rw [if_neg (by omega)]));(have g1:c<1:=by omega);(go_enter Tryz.func258,Tryz.ntmps258);go_wp2;go_ret;exact⟨by rw [HC.out];rfl,rfl⟩
theorem Needs_calls (p:PartL) (w:World):Calls Tryz.prog 225 #[p.v] w fun e w'=>e=.returned (.int .i64 (needM p))∧Below w.heap.size w w':=by
 obtain⟨k,⟨tk,tx,ty,tz⟩,m,c⟩:=p;(simp only [PartL.v]);by_cases h26:k=26
 ·subst h26;(have HN:=Hd (show needM ⟨26,⟨tk,tx,ty,tz⟩,m,c⟩=coalN c by unfold needM;rfl));(go_enter Tryz.func225,Tryz.ntmps225);(go_wp2_with fail);refine (coal_calls c _).mono ?_;rintro e w1 ⟨rfl,hw1⟩;(have hb1:Below w.heap.size w w1:=by rw [hw1];exact box_below _ _);clear hw1;go_wp2;go_ret;exact⟨by rw [HN.out];rfl,hb1⟩
 ·by_cases hc:c=0
  ·subst hc;(have HN:=Hd (show needM ⟨k,⟨tk,tx,ty,tz⟩,m,0⟩=needK k by unfold needM;rw [if_neg h26];rfl));rcases kind_cases k with h|h|h|h|h|h|h|h|h|h|h|h|h|h|h|h|h|h|h|h|h|h|h|h|h|h|h
   ·have HO:=Hd (need_other h);(have H:=Hd (fun j h1 h2=>not_kind h j h1 h2));(have n1:=H.out 1 (by decide) (by decide));(have n2:=H.out 2 (by decide) (by decide));(have n3:=H.out 3 (by decide) (by decide));(have n4:=H.out 4 (by decide) (by decide));(have n5:=H.out 5 (by decide) (by decide));(have n6:=H.out 6 (by decide) (by decide));(have n7:=H.out 7 (by decide) (by decide));(have n8:=H.out 8 (by decide) (by decide));(have n9:=H.out 9 (by decide) (by decide));(have n10:=H.out 10 (by decide) (by decide));(have n11:=H.out 11 (by decide) (by decide));(have n12:=H.out 12 (by decide) (by decide));(have n13:=H.out 13 (by decide) (by decide));(have n14:=H.out 14 (by decide) (by decide));(have n15:=H.out 15 (by decide) (by decide));(have n16:=H.out 16 (by decide) (by decide));(have n17:=H.out 17 (by decide) (by decide));(have n18:=H.out 18 (by decide) (by decide));(have n19:=H.out 19 (by decide) (by decide));(have n20:=H.out 20 (by decide) (by decide));(have n21:=H.out 21 (by decide) (by decide));(have n22:=H.out 22 (by decide) (by decide));(have n23:=H.out 23 (by decide) (by decide));(have n24:=H.out 24 (by decide) (by decide));(have n25:=H.out 25 (by decide) (by decide));(have n26:=H.out 26 (by decide) (by decide));clear h h26;(go_enter Tryz.func225,Tryz.ntmps225);go_wp2;go_ret;exact⟨by rw [HN.out,HO.out];rfl,box_below _ _⟩
   ·exact absurd h h26
   all_goals
    subst h;clear h26;(go_enter Tryz.func225,Tryz.ntmps225);go_wp2;go_ret;exact⟨by rw [HN.out];rfl,box_below _ _⟩
  ·(have HN:=Hd (show needM ⟨k,⟨tk,tx,ty,tz⟩,m,c⟩ = -1 by unfold needM;rw [if_neg h26];exact if_neg hc));have g1:(k==26)=false:=beq_eq_false_iff_ne.2 h26;have g2:(c==0)=false:=beq_eq_false_iff_ne.2 hc;clear h26 hc;(go_enter Tryz.func225,Tryz.ntmps225);go_wp2;go_ret;exact⟨by rw [HN.out];rfl,box_below _ _⟩
end
section
open Go.RowKit
theorem fields_term:(Tryz.prog.fieldsOf 67).toList=[{ name:= "Kind",type:=3,offset:=0,embedded:=false,tag:= "",pkgPath:= "",byteOffset:=0 },{ name:= "Text",type:=9,offset:=1,embedded:=false,tag:= "",pkgPath:= "",byteOffset:=8 },{ name:= "Type",type:=9,offset:=2,embedded:=false,tag:= "",pkgPath:= "",byteOffset:=24 },{ name:= "Lang",type:=9,offset:=3,embedded:=false,tag:= "",pkgPath:= "",byteOffset:=40 }]:=by kernel_rfl
theorem eq_termz (d:Nat) (a:TermL) (w:World):(Op.equalIn (d+2) 67 (.agg #[.int .i64 a.k,.string (bs a.x),.string (bs a.y),.string (bs a.z)]) (.agg #[.int .i64 0,.string ⟨#[]⟩,.string ⟨#[]⟩,.string ⟨#[]⟩])).run Tryz.prog w=.ok (zeroT a) w:=by
 (rw [run_equalIn_agg w (d+1) 67 _ _ Tryz.underlying67 (by kernel_rfl),fields_term]);have e1:(Op.equalIn (d+1) 3 (.int .i64 a.k) (.int .i64 0)).run Tryz.prog w=.ok (a.k==0) w:=run_equalIn_int w d 3 .i64 .i64 _ _ Tryz.underlying3;have e2:∀s:List UInt8,(Op.equalIn (d+1) 9 (.string (bs s)) (.string ⟨#[]⟩)).run Tryz.prog w=.ok (s.isEmpty) w:=fun s=>by
  have:=run_equalIn_string (P:=Tryz.prog) w d 9 (bs s) ⟨#[]⟩ Tryz.underlying9;(rw [this,bs_toList,show (⟨#[]⟩:ByteArray).toList=([]:List UInt8) from bs_toList []]);cases s<;>rfl
 (unfold zeroT);(have e3:decide (a.k=0)=(a.k==0):=by rw [Bool.eq_iff_iff];simp);rw [e3];(have p1:∀(cs:Array Value) (off:Nat) (v:Value),cs[off]?=some v→(part 3 cs off).run Tryz.prog w=.ok v w:=fun cs off v h=>by simp [part,h,Tryz.isAgg3,go_sem]);(have p2:∀(cs:Array Value) (off:Nat) (v:Value),cs[off]?=some v→(part 9 cs off).run Tryz.prog w=.ok v w:=fun cs off v h=>by simp [part,h,Tryz.isAgg9,go_sem]);(have a0:=p1 #[.int .i64 a.k,.string (bs a.x),.string (bs a.y),.string (bs a.z)] 0 (.int .i64 a.k) rfl);(have a1:=p2 #[.int .i64 a.k,.string (bs a.x),.string (bs a.y),.string (bs a.z)] 1 (.string (bs a.x)) rfl);(have a2:=p2 #[.int .i64 a.k,.string (bs a.x),.string (bs a.y),.string (bs a.z)] 2 (.string (bs a.y)) rfl);(have a3:=p2 #[.int .i64 a.k,.string (bs a.x),.string (bs a.y),.string (bs a.z)] 3 (.string (bs a.z)) rfl);(have b0:=p1 #[.int .i64 0,.string ⟨#[]⟩,.string ⟨#[]⟩,.string ⟨#[]⟩] 0 (.int .i64 0) rfl);(have b1:=p2 #[.int .i64 0,.string ⟨#[]⟩,.string ⟨#[]⟩,.string ⟨#[]⟩] 1 (.string ⟨#[]⟩) rfl);(have b2:=p2 #[.int .i64 0,.string ⟨#[]⟩,.string ⟨#[]⟩,.string ⟨#[]⟩] 2 (.string ⟨#[]⟩) rfl);(have b3:=p2 #[.int .i64 0,.string ⟨#[]⟩,.string ⟨#[]⟩,.string ⟨#[]⟩] 3 (.string ⟨#[]⟩) rfl);(simp only [Op.eqFields,Sem.run_ite,Sem.run_bind,a0,a1,a2,a3,b0,b1,b2,b3,Result.andThen_ok,e1,e2,Sem.run_pure]);cases (a.k==0)<;>cases a.x.isEmpty<;>cases a.y.isEmpty<;>cases a.z.isEmpty<;>simp
theorem eql_termz (a:TermL) (w:World):(binOp .eql 67 (.agg #[.int .i64 a.k,.string (bs a.x),.string (bs a.y),.string (bs a.z)]) (.agg #[.int .i64 0,.string ⟨#[]⟩,.string ⟨#[]⟩,.string ⟨#[]⟩])).run Tryz.prog w=.ok (.bool (zeroT a)) w:=by
  rw [run_eql_struct]
  have:=eq_termz 9998 a w
  rw [this];rfl
end
section
open Go.RowKit
def TermOk (t:TermL):Prop:=t.x.length≤maxLen∧t.y.length≤maxLen∧t.z.length≤maxLen
def PartL.ok (p:PartL):Prop:=TermOk p.t∧p.m.length≤maxLen
theorem isValue_calls (t:TermL) (ht:TermOk t) (w:World):Calls Tryz.prog 259 #[t.v] w fun e w'=>e=.returned (.bool (valueT t))∧Below w.heap.size w w':=by
 (have HC:Hid (∀W,Calls Tryz.prog 130 #[.agg #[.int .i64 t.k,.string (bs t.x),.string (bs t.y),.string (bs t.z)]] W fun e w'=>e=.returned (.int .i64 (formZ (rightL t.k t.x t.y t.z)))∧Below W.heap.size W w'):=Hd fun W=>Check_calls t.k (bs t.x) (bs t.y) (bs t.z) W ht.1 ht.2.1 ht.2.2);clear ht;obtain⟨k,x,y,z⟩:=t;dsimp only at HC;(simp only [TermL.v]);by_cases hk:k=1∨k=2
 ·(have HV:=Hd (show valueT ⟨k,x,y,z⟩=rightL k x y z by unfold valueT;rcases hk with rfl|rfl<;>simp));obtain⟨R,hR⟩:∃R,rightL k x y z=R:=⟨_,rfl⟩;rw [hR] at HC HV;clear hR;(rcases hk with rfl|rfl);all_goals
   cases R <;>
   ( go_enter Tryz.func259,Tryz.ntmps259
     (go_wp2_with fail);refine (HC.out _).mono ?_;rintro e w1 ⟨rfl,hb1⟩;(replace hb1:=(box_below w _).trans (hb1.mono (by simp)));(simp only [formZ]);go_wp2;go_ret;exact⟨by rw [HV.out];rfl,hb1⟩)
 ·(have HV:=Hd (show valueT ⟨k,x,y,z⟩=false by unfold valueT;simp only [not_or] at hk;rw [decide_eq_false hk.1,decide_eq_false hk.2];rfl));(have g1:(k==1)=false:=beq_eq_false_iff_ne.2 (by omega));(have g2:(k==2)=false:=beq_eq_false_iff_ne.2 (by omega));clear hk;(go_enter Tryz.func259,Tryz.ntmps259);go_wp2;go_ret;exact⟨by rw [HV.out];rfl,box_below _ _⟩
theorem fRight_calls (p:PartL) (hp:p.ok) (w:World):Calls Tryz.prog 226 #[p.v] w fun e w'=>e=.returned (.bool (rightM p))∧Below w.heap.size w w':=by
 (have HV:=Hd (fun W=>isValue_calls p.t hp.1 W));(have HN:=Hd (fun W=>IsName_calls (bs p.m) W hp.2));clear hp;obtain⟨k,⟨tk,tx,ty,tz⟩,m,c⟩:=p;(simp only [TermL.v,bs_data] at HV HN);(simp only [PartL.v]);have HB:=Hd (bs_toList m);by_cases h1:k=1
 ·subst h1;(have HR:=Hd (show rightM ⟨1,⟨tk,tx,ty,tz⟩,m,c⟩=(valueT ⟨tk,tx,ty,tz⟩&&m.isEmpty) by unfold rightM;rfl));obtain⟨R,hR⟩:∃R,valueT ⟨tk,tx,ty,tz⟩=R:=⟨_,rfl⟩;rw [hR] at HV HR;clear hR;(go_enter Tryz.func226,Tryz.ntmps226);(go_wp2_with fail);refine (HV.out _).mono ?_;rintro e w1 ⟨rfl,hb1⟩;obtain⟨hc,hf⟩:=bcell hb1;(have hB:=Hd ((box_below w _).trans (hb1.mono (by simp))));clear hb1;cases R <;>
  ( go_wp2
    go_ret;refine⟨?_,hB.out⟩;rw [HR.out];first|rfl|(show Ending.returned (.bool (bs m).toList.isEmpty)=_;rw [HB.out];rfl))
 ·have g1:(k==1)=false:=beq_eq_false_iff_ne.2 h1;(have heq:=fun W=>eql_termz ⟨tk,tx,ty,tz⟩ W);dsimp only at heq;obtain⟨N,hN⟩:∃N,nameL m=N:=⟨_,rfl⟩;obtain⟨Z,hZ⟩:∃Z,zeroT ⟨tk,tx,ty,tz⟩=Z:=⟨_,rfl⟩;rw [hN] at HN;rw [hZ] at heq;by_cases h2:k=2∨k=3
  ·(have HR:=Hd (show rightM ⟨k,⟨tk,tx,ty,tz⟩,m,c⟩=(N&&Z) by unfold rightM;rw [if_neg h1,if_pos h2,←hN,←hZ]));clear hN h1 g1 HV hZ;(rcases h2 with rfl|rfl);all_goals
    (go_enter Tryz.func226,Tryz.ntmps226);(go_wp2_with fail);refine (HN.out _).mono ?_;rintro e w1 ⟨rfl,hb1⟩;obtain⟨hc,hf⟩:=bcell hb1;(have hB:=Hd ((box_below w _).trans (hb1.mono (by simp))));clear hb1;cases N<;>cases Z <;>
    ( go_wp2
      go_ret;exact⟨by rw [HR.out];rfl,hB.out⟩)
  ·(have HR:=Hd (show rightM ⟨k,⟨tk,tx,ty,tz⟩,m,c⟩=(m.isEmpty&&Z) by unfold rightM;rw [if_neg h1,if_neg h2,←hZ]));(have g2:(k==2)=false:=beq_eq_false_iff_ne.2 (by omega));(have g3:(k==3)=false:=beq_eq_false_iff_ne.2 (by omega));clear hN h1 h2 HV hZ HN;cases m with
   | nil =>
     (have ge:(bs []).toList.isEmpty=true:=by rw [bs_toList];rfl);cases Z <;>
     ( go_enter Tryz.func226,Tryz.ntmps226
       go_wp2;go_ret;exact⟨by rw [HR.out];rfl,box_below _ _⟩)
   | cons u v =>
     (have ge:(bs (u::v)).toList.isEmpty=false:=by rw [bs_toList];rfl);(go_enter Tryz.func226,Tryz.ntmps226);go_wp2;go_ret;exact⟨by rw [HR.out];rfl,box_below _ _⟩
end
section
open Go.RowKit
def CellsP (w:World) (g o:Nat) (p:PartL):Prop :=
  w.cell? ⟨g,o,none⟩=some (.int .i64 p.k)∧w.cell? ⟨g,o+1,none⟩=some (.int .i64 p.t.k)∧w.cell? ⟨g,o+2,none⟩=some (.string (bs p.t.x))∧w.cell? ⟨g,o+3,none⟩=some (.string (bs p.t.y)) ∧
  w.cell? ⟨g,o+4,none⟩=some (.string (bs p.t.z))∧w.cell? ⟨g,o+5,none⟩=some (.string (bs p.m))∧w.cell? ⟨g,o+6,none⟩=some (.int .i64 p.c)
theorem CellsP.on {w w':World} {g o B:Nat} {p:PartL} (h:CellsP w g o p) (hb:Below B w w') (hg:g<B):CellsP w' g o p:=by
  obtain⟨c0,c1,c2,c3,c4,c5,c6⟩:=h
  exact⟨kpB hb hg c0,kpB hb hg c1,kpB hb hg c2,kpB hb hg c3,kpB hb hg c4,kpB hb hg c5,kpB hb hg c6⟩
structure ArgP (w:World) (a:Option Addr) (n c:Nat) (L:List PartL):Prop where
  len:L.length=n
  cap:n≤c
  most:c≤maxLen
  cells:0<n→∃g o,a=some ⟨g,o,none⟩∧g<w.heap.size∧∀j (h:j<L.length),CellsP w g (o+j*7) L[j]
theorem ArgP.on {w w':World} {a:Option Addr} {n c:Nat} {L:List PartL} (h:ArgP w a n c L) (hb:Below w.heap.size w w'):ArgP w' a n c L:=by
  refine⟨h.len,h.cap,h.most,fun h0=>?_⟩
  obtain⟨g,o,ha,hg,hc⟩:=h.cells h0
  exact⟨g,o,ha,Nat.lt_of_lt_of_le hg hb.size,fun j hj=>(hc j hj).on hb hg⟩
theorem chk_drop {L:List PartL} {k:Nat} (hk:k<L.length):L.drop k=L[k]::L.drop (k+1):=List.drop_eq_getElem_cons hk
def ChkR (L:List PartL) (k h:Nat):Prop:=chkGo L 0=chkGo (L.drop k) h∧h≤k
theorem chkR_start (L:List PartL):ChkR L 0 0:=⟨rfl,Nat.le_refl _⟩
theorem chkR_next {L:List PartL} {k h:Nat} (H:ChkR L k h) (hk:k<L.length) (hg:goodM L[k]=true) (hn:nd L[k]≤h):ChkR L (k+1) (h-nd L[k]+1):=by
  refine⟨?_,by have:=H.2;omega⟩
  rw [H.1,chk_drop hk,chk_step hg hn]
theorem chkR_stop {L:List PartL} {k h:Nat} (H:ChkR L k h) (hk:k<L.length) (hg:¬(goodM L[k]=true∧nd L[k]≤h)) (hl:¬256<L.length):chkE L=2:=by
  unfold chkE
  rw [if_neg hl,H.1,chk_drop hk,chk_stop hg,if_neg (by simp)]
theorem chkR_end {L:List PartL} {k h:Nat} (H:ChkR L k h) (hk:L.length≤k) (hl:¬256<L.length):chkE L=if h=1 then 0 else 2:=by
  unfold chkE
  rw [if_neg hl,H.1,List.drop_eq_nil_of_le hk]
  simp [chkGo]
theorem fCheck_calls (L:List PartL) (hok:∀p∈L,p.ok) (a:Option Addr) (n c:Nat) (w:World) (hv:ArgP w a n c L):Calls Tryz.prog 175 #[.slice a n c] w fun e w'=>e=.returned (.int .i64 (chkE L))∧Below w.heap.size w w':=by
 have HV:=Hd hv;have HOK:=Hd hok;have HL:=Hd hv.len;clear hv hok;by_cases h256:256<n
 ·(have HE:=Hd (show chkE L=3 by unfold chkE;rw [if_pos (by rw [HL.out];exact h256)]));(have g1:(256:Int)<(n:Int):=by omega);(go_enter Tryz.func175,Tryz.ntmps175);go_wp2;go_ret;exact⟨by rw [HE.out];rfl,Below.refl _ _⟩
 ·(have g1:¬(256:Int)<(n:Int):=by omega);(have HN256:=Hd (show ¬256<L.length by rw [HL.out];exact h256));(go_enter Tryz.func175,Tryz.ntmps175);go_wp2;go_loopg [3,12] n (fun g r i wr=>∃k h:Nat,i=.int .i64 k∧r=.int .i64 h∧k+g=n∧h≤k∧Hid (ChkR L k h)∧Hid (Below w.heap.size w wr))
  case atStart=>exact⟨0,0,rfl,rfl,by omega,Nat.le_refl _,Hd (chkR_start L),Hd (Below.refl _ _)⟩
  case round =>
   obtain⟨W1,rfl⟩:∃W1,W1=wr:=⟨_,rfl⟩;obtain⟨k,h,rfl,rfl,hkg,hhk,HR,HB⟩:=hrel;by_cases hk:k<n
   ·(have hkL:k<L.length:=by rw [HL.out];exact hk);(obtain⟨g,o,ha,hgw,hcells⟩:=HV.out.cells (by omega));subst ha;have hgW:g<W1.heap.size:=Nat.lt_of_lt_of_le hgw HB.out.size;obtain⟨c0,c1,c2,c3,c4,c5,c6⟩:=(hcells k hkL).on HB.out hgw;have hpok:=HOK.out L[k] (List.getElem_mem hkL);(have HNX:=Hd (fun h1 h2=>chkR_next HR.out hkL h1 h2));(have HST:=Hd (fun h1=>chkR_stop HR.out hkL h1 HN256.out));clear hcells;generalize L[k]=p at c0 c1 c2 c3 c4 c5 c6 hpok HNX HST;(have HND:=Hd (fun W=>Needs_calls p W));(have HRT:=Hd (fun W=>fRight_calls p hpok W));(have hneed:goodM p=(decide (0≤needM p)&&rightM p):=rfl);(have hnd:nd p=(needM p).toNat:=rfl);obtain⟨pk,⟨tk,tx,ty,tz⟩,pm,pc⟩:=p;(simp only [PartL.v] at HND HRT);dsimp only at c0 c1 c2 c3 c4 c5 c6;obtain⟨x,hx⟩:∃x,needM ⟨pk,⟨tk,tx,ty,tz⟩,pm,pc⟩=x:=⟨_,rfl⟩;obtain⟨rt,hrt⟩:∃rt,rightM ⟨pk,⟨tk,tx,ty,tz⟩,pm,pc⟩=rt:=⟨_,rfl⟩;rw [hx] at HND hneed hnd;rw [hrt] at HRT hneed;obtain⟨G,hG⟩:∃G,goodM ⟨pk,⟨tk,tx,ty,tz⟩,pm,pc⟩=G:=⟨_,rfl⟩;obtain⟨D,hD⟩:∃D,nd ⟨pk,⟨tk,tx,ty,tz⟩,pm,pc⟩=D:=⟨_,rfl⟩;rw [hG] at HNX HST hneed;rw [hD] at HNX HST hnd;(have k0:(0:Int)≤(k:Int):=by omega);(have k1:(k:Int)<(n:Int):=by omega);clear hx hrt hG hD hpok hkL hk HR;(obtain⟨gg,rfl⟩:∃gg,gk=gg+1:=⟨gk-1,by omega⟩);by_cases hx0:0≤x
    ·(have gx:decide (x<0)=false:=decide_eq_false (by omega));by_cases hxh:x≤h
     ·(have gh:decide ((h:Int)<x)=false:=decide_eq_false (by omega));cases rt with
      | false =>
        (have HE:=Hd (HST.out (fun c=>by rw [hneed] at c;simp at c)));clear hneed hnd hx0 hxh HNX HST;(go_wp2_with fail);refine (HND.out _).mono ?_;rintro e w2 ⟨rfl,hb2⟩;obtain⟨hc,hf⟩:=bcell hb2;(have hbX:=hb2.mono (show W1.heap.size≤_ by simp));have hall:Below W1.heap.size W1 w2:=by
         refine Below.trans ?_ hbX;repeat (with_reducible (first|exact Below.refl _ _|refine Below.setCell ?_ (by first|exact Nat.le_refl _|omega|(simp;omega)) _|refine Below.alloc ?_ (by first|exact Nat.le_refl _|omega|(simp;omega)) _))
        have HB2:=Hd hb2;have HALL:=Hd hall;clear hb2 hbX hall;(go_wp2_with fail);refine (HRT.out _).mono ?_;rintro e w3 ⟨rfl,hb3⟩;have HB3:=Hd (HB.out.trans ((HALL.out.trans (hb3.mono HALL.out.size)).mono HB.out.size));clear hb3;go_wp2;go_ret;exact⟨by rw [HE.out];rfl,HB3.out⟩
      | true =>
        (have hGt:G=true:=by rw [hneed,decide_eq_true hx0];rfl);(have hDh:D≤h:=by omega);have HN2:=Hd (HNX.out hGt hDh);(have HXD:=Hd (show x=(D:Int) by omega));(have hDx:(D:Int)=x:=by omega);clear hneed hnd hx0 HNX HST hGt;(go_wp2_with fail);refine (HND.out _).mono ?_;rintro e w2 ⟨rfl,hb2⟩;obtain⟨hc,hf⟩:=bcell hb2;(have hbX:=hb2.mono (show W1.heap.size≤_ by simp));have hall:Below W1.heap.size W1 w2:=by
         refine Below.trans ?_ hbX;repeat (with_reducible (first|exact Below.refl _ _|refine Below.setCell ?_ (by first|exact Nat.le_refl _|omega|(simp;omega)) _|refine Below.alloc ?_ (by first|exact Nat.le_refl _|omega|(simp;omega)) _))
        have HB2:=Hd hb2;have HALL:=Hd hall;clear hb2 hbX hall;(go_wp2_with fail);refine (HRT.out _).mono ?_;rintro e w3 ⟨rfl,hb3⟩;have HB3:=Hd (HB.out.trans ((HALL.out.trans (hb3.mono HALL.out.size)).mono HB.out.size));clear hb3;go_wp2;go_roundg gg
        case measure=>omega
        case rel=>exact⟨k+1,h-D+1,by go_num,by (congr 1;omega),by omega,by omega,HN2,HB3⟩
     ·(have gh:decide ((h:Int)<x)=true:=decide_eq_true (by omega));(have HE:=Hd (HST.out (fun c=>by omega)));clear hneed hnd hx0 hxh HNX HST;(go_wp2_with fail);refine (HND.out _).mono ?_;rintro e w2 ⟨rfl,hb2⟩;obtain⟨hc,hf⟩:=bcell hb2;(have hbX:=hb2.mono (show W1.heap.size≤_ by simp));have hall:Below W1.heap.size W1 w2:=by
       refine Below.trans ?_ hbX;repeat (with_reducible (first|exact Below.refl _ _|refine Below.setCell ?_ (by first|exact Nat.le_refl _|omega|(simp;omega)) _|refine Below.alloc ?_ (by first|exact Nat.le_refl _|omega|(simp;omega)) _))
      have HB2:=Hd hb2;have HALL:=Hd hall;clear hb2 hbX hall;go_wp2;go_ret;exact⟨by rw [HE.out];rfl,HB.out.trans (HALL.out.mono HB.out.size)⟩
    ·(have gx:decide (x<0)=true:=decide_eq_true (by omega));(have HE:=Hd (HST.out (fun c=>by rw [hneed,decide_eq_false hx0] at c;simp at c)));clear hneed hnd hx0 HNX HST;(go_wp2_with fail);refine (HND.out _).mono ?_;rintro e w2 ⟨rfl,hb2⟩;obtain⟨hc,hf⟩:=bcell hb2;(have hbX:=hb2.mono (show W1.heap.size≤_ by simp));have hall:Below W1.heap.size W1 w2:=by
      refine Below.trans ?_ hbX;repeat (with_reducible (first|exact Below.refl _ _|refine Below.setCell ?_ (by first|exact Nat.le_refl _|omega|(simp;omega)) _|refine Below.alloc ?_ (by first|exact Nat.le_refl _|omega|(simp;omega)) _))
     have HB2:=Hd hb2;have HALL:=Hd hall;clear hb2 hbX hall;go_wp2;go_ret;exact⟨by rw [HE.out];rfl,HB.out.trans (HALL.out.mono HB.out.size)⟩
   ·(have hk0:gk=0:=by omega);subst hk0;(have HE:=Hd (chkR_end HR.out (by rw [HL.out];omega) HN256.out));(have k1:¬(k:Int)<(n:Int):=by omega);by_cases h1:h=1
    ·subst h1;clear hhk;go_wp2;go_ret;exact⟨by rw [HE.out];rfl,HB.out⟩
    ·(have g2:((h:Int) !=1)=true:=bne_iff_ne.2 (by omega));have HE2:=Hd (HE.out.trans (if_neg h1));clear h1 HE;go_wp2;go_ret;exact⟨by rw [HE2.out];rfl,HB.out⟩
end
section
open Go.RowKit
def TermAt (w:World) (g o:Nat) (t:TermL):Prop:=w.cell? ⟨g,o,none⟩=some (.int .i64 t.k)∧w.cell? ⟨g,o+1,none⟩=some (.string (bs t.x))∧w.cell? ⟨g,o+2,none⟩=some (.string (bs t.y))∧w.cell? ⟨g,o+3,none⟩=some (.string (bs t.z))
theorem TermAt.on {w w':World} {g o B:Nat} {t:TermL} (h:TermAt w g o t) (hb:Below B w w') (hg:g<B):TermAt w' g o t:=by
  obtain⟨c0,c1,c2,c3⟩:=h
  exact⟨kpB hb hg c0,kpB hb hg c1,kpB hb hg c2,kpB hb hg c3⟩
structure TxtA (w:World) (a:Option Addr) (n c:Nat) (L:List (List UInt8)):Prop where
  len:L.length=n
  cap:n≤c
  most:c≤maxLen
  cells:0<n→∃g o,a=some ⟨g,o,none⟩∧g<w.heap.size∧∀j (h:j<L.length),w.cell? ⟨g,o+j,none⟩=some (.string (bs L[j]))
theorem TxtA.on {w w':World} {a:Option Addr} {n c:Nat} {L:List (List UInt8)} (h:TxtA w a n c L) (hb:Below w.heap.size w w'):TxtA w' a n c L:=by
  refine⟨h.len,h.cap,h.most,fun h0=>?_⟩
  obtain⟨g,o,ha,hg,hc⟩:=h.cells h0
  exact⟨g,o,ha,Nat.lt_of_lt_of_le hg hb.size,fun j hj=>kpB hb hg (hc j hj)⟩
theorem TxtA.cut {w:World} {a:Option Addr} {n c:Nat} {L:List (List UInt8)} (h:TxtA w a n c L) {m:Nat} (hm:m≤n):TxtA w a m c (L.take m):=by
  have hl:=h.len
  have hc:=h.cap
  refine⟨by rw [List.length_take];omega,by omega,h.most,fun h0=>?_⟩
  obtain⟨g,o,he,hg,hcell⟩:=h.cells (by omega)
  refine⟨g,o,he,hg,fun j hj=>?_⟩
  rw [List.length_take] at hj
  have hx:=hcell j (by omega)
  rw [List.getElem_take]
  exact hx
structure TrmA (w:World) (a:Option Addr) (n c:Nat) (L:List TermL):Prop where
  len:L.length=n
  cap:n≤c
  most:c≤maxLen
  cells:0<n→∃g o,a=some ⟨g,o,none⟩∧g<w.heap.size∧∀j (h:j<L.length),TermAt w g (o+j*4) L[j]
theorem TrmA.on {w w':World} {a:Option Addr} {n c:Nat} {L:List TermL} (h:TrmA w a n c L) (hb:Below w.heap.size w w'):TrmA w' a n c L:=by
  refine⟨h.len,h.cap,h.most,fun h0=>?_⟩
  obtain⟨g,o,ha,hg,hc⟩:=h.cells h0
  exact⟨g,o,ha,Nat.lt_of_lt_of_le hg hb.size,fun j hj=>(hc j hj).on hb hg⟩
structure TrpA (w:World) (a:Option Addr) (n c:Nat) (L:List TripL):Prop where
  len:L.length=n
  cap:n≤c
  most:c≤maxLen
  cells:0<n→∃g o,a=some ⟨g,o,none⟩∧g<w.heap.size∧∀j (h:j<L.length),TermAt w g (o+j*12) L[j].s∧TermAt w g (o+j*12+4) L[j].p∧TermAt w g (o+j*12+8) L[j].o
theorem TrpA.on {w w':World} {a:Option Addr} {n c:Nat} {L:List TripL} (h:TrpA w a n c L) (hb:Below w.heap.size w w'):TrpA w' a n c L:=by
  refine⟨h.len,h.cap,h.most,fun h0=>?_⟩
  obtain⟨g,o,ha,hg,hc⟩:=h.cells h0
  exact⟨g,o,ha,Nat.lt_of_lt_of_le hg hb.size,fun j hj=>⟨(hc j hj).1.on hb hg,(hc j hj).2.1.on hb hg,(hc j hj).2.2.on hb hg⟩⟩
structure RowA (w:World) (a:Option Addr) (n c:Nat) (R:List (List TermL)):Prop where
  len:R.length=n
  cap:n≤c
  most:c≤maxLen
  cells:0<n→∃g o,a=some ⟨g,o,none⟩∧g<w.heap.size∧∀j (h:j<R.length),∃a' c',w.cell? ⟨g,o+j,none⟩=some (.slice a' R[j].length c')∧TrmA w a' R[j].length c' R[j]
theorem RowA.on {w w':World} {a:Option Addr} {n c:Nat} {R:List (List TermL)} (h:RowA w a n c R) (hb:Below w.heap.size w w'):RowA w' a n c R:=by
  refine⟨h.len,h.cap,h.most,fun h0=>?_⟩
  obtain⟨g,o,ha,hg,hc⟩:=h.cells h0
  refine⟨g,o,ha,Nat.lt_of_lt_of_le hg hb.size,fun j hj=>?_⟩
  obtain⟨a',c',h1,h2⟩:=hc j hj
  exact⟨a',c',kpB hb hg h1,h2.on hb⟩
end
end Go.Proofs.YtjpfoophipcglaaGreatDoor
