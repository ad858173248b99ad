/- What may stand in a triple, as a term: the reader of a query. -/
import Derived.Test.YtjpfoophipcglaaGreatDoorKQOpts
import Derived.Test.YtjpfoophipcglaaGreatDoorKScopeOks
namespace Go.Proofs.YtjpfoophipcglaaGreatDoor
set_option maxRecDepth 100000
set_option maxHeartbeats 8000000
section
open Go.RowKit
def zeroTrip:TripL:=⟨noTerm,noTerm,noTerm⟩
def tripGot (L:List TokL) (a:Nat):TripL:=bif trip3 L a then tripAt L a else zeroTrip
theorem trip_no0 {L:List TokL} {a:Nat} (h:isTrm (tokAt L a)=false):tripGot L a=zeroTrip∧tripOk L a=false∧tripEnd L a=a:=by
  unfold tripGot tripOk tripEnd trip3
  rw [h];exact⟨rfl,rfl,rfl⟩
theorem trip_no1 {L:List TokL} {a:Nat} (h0:isTrm (tokAt L a)=true) (h:isTrm (tokAt L (a+1))=false):tripGot L a=zeroTrip∧tripOk L a=false∧tripEnd L a=a+1:=by
  unfold tripGot tripOk tripEnd trip3
  rw [h0,h];exact⟨rfl,rfl,rfl⟩
theorem trip_no2 {L:List TokL} {a:Nat} (h0:isTrm (tokAt L a)=true) (h1:isTrm (tokAt L (a+1))=true) (h:isTrm (tokAt L (a+2))=false):tripGot L a=zeroTrip∧tripOk L a=false∧tripEnd L a=a+2:=by
  unfold tripGot tripOk tripEnd trip3
  rw [h0,h1,h];exact⟨rfl,rfl,rfl⟩
theorem trip_yes {L:List TokL} {a:Nat} (h0:isTrm (tokAt L a)=true) (h1:isTrm (tokAt L (a+1))=true) (h2:isTrm (tokAt L (a+2))=true):tripGot L a=tripAt L a∧tripOk L a=(isW L (a+3) 5 s_stop&&patB (tripAt L a))∧tripEnd L a=stepA (isW L (a+3) 5 s_stop) (a+3):=by
  unfold tripGot tripOk tripEnd trip3
  rw [h0,h1,h2];exact⟨rfl,rfl,rfl⟩
theorem qisTerm_calls (t:TokL) (w:World):Calls Tryz.prog 213 #[t.v] w fun e w'=>e=.returned (.bool (isTrm t))∧Below w.heap.size w w':=by
 obtain⟨k,x,⟨uk,ux,uy,uz⟩,ta⟩:=t;(simp only [TokL.v,isTrm]);by_cases h2:k=2
 ·subst h2;(go_enter Tryz.func213,Tryz.ntmps213);go_wp2;go_ret;exact⟨rfl,box_below _ _⟩
 ·have g2:(k==2)=false:=beq_eq_false_iff_ne.2 h2;have d2:=decide_eq_false h2;rw [d2];by_cases h3:k=3
  ·subst h3;clear d2 h2;(go_enter Tryz.func213,Tryz.ntmps213);go_wp2;go_ret;exact⟨rfl,box_below _ _⟩
  ·have g3:(k==3)=false:=beq_eq_false_iff_ne.2 h3;have d3:=decide_eq_false h3;rw [d3];clear d2 d3 h2 h3;(go_enter Tryz.func213,Tryz.ntmps213);go_wp2;go_ret;exact⟨rfl,box_below _ _⟩
theorem qtermOf_calls (t:TokL) (w:World):Calls Tryz.prog 251 #[t.v] w fun e w'=>e=.returned (termOfM t).v∧Below w.heap.size w w':=by
 obtain⟨k,x,⟨uk,ux,uy,uz⟩,ta⟩:=t;(simp only [TokL.v]);by_cases h2:k=2
 ·subst h2;(have HT:Hid (termOfM ⟨2,x,⟨uk,ux,uy,uz⟩,ta⟩=⟨4,x,[],[]⟩):=Hd rfl);(go_enter Tryz.func251,Tryz.ntmps251);go_wp2;(refine bodyPost_ret (v:=.agg #[.int .i64 4,.string (bs x),.string ⟨#[]⟩,.string ⟨#[]⟩]) (by simp [results,Tryz.results251,go_sem]) rfl ⟨by rw [HT.out];simp only [TermL.v,bs_nil],?_⟩);repeat (with_reducible (first|exact Below.refl _ _|exact box_below _ _|refine Below.drew ?_|refine Below.setCell ?_ (by first|exact Nat.le_refl _|omega|(dsimp only;omega)|(simp;omega)) _|refine Below.alloc ?_ (by first|exact Nat.le_refl _|omega|(simp;done)|(simp;omega)) _))
 ·have g2:(k==2)=false:=beq_eq_false_iff_ne.2 h2;(have HT:Hid (termOfM ⟨k,x,⟨uk,ux,uy,uz⟩,ta⟩=⟨uk,ux,uy,uz⟩):=Hd (by unfold termOfM;rw [decide_eq_false h2];rfl));clear h2;(go_enter Tryz.func251,Tryz.ntmps251);go_wp2;(refine bodyPost_ret (v:=.agg #[.int .i64 uk,.string (bs ux),.string (bs uy),.string (bs uz)]) (by simp [results,Tryz.results251,go_sem]) rfl ⟨by rw [HT.out];rfl,?_⟩);repeat (with_reducible (first|exact Below.refl _ _|exact box_below _ _|refine Below.drew ?_|refine Below.setCell ?_ (by first|exact Nat.le_refl _|omega|(dsimp only;omega)|(simp;omega)) _|refine Below.alloc ?_ (by first|exact Nat.le_refl _|omega|(simp;done)|(simp;omega)) _))
end
section
open Go.RowKit
theorem valAt_undef {L:List TokL} {a:Nat} (h:isW L a 1 kUNDEF=true):valAt L a=noTerm∧valOk L a=true:=by unfold valAt valOk;rw [h];exact⟨rfl,rfl⟩
theorem valAt_term {L:List TokL} {a:Nat} (h:isW L a 1 kUNDEF=false) (h2:isTrm (tokAt L a)=true):valAt L a=termOfM (tokAt L a)∧valOk L a=true:=by unfold valAt valOk;rw [h,h2];exact⟨rfl,rfl⟩
theorem valAt_dig {L:List TokL} {a:Nat} (h:isW L a 1 kUNDEF=false) (h2:isTrm (tokAt L a)=false):valAt L a=⟨2,(tokAt L a).x,intT,[]⟩∧valOk L a=isDig (tokAt L a):=by unfold valAt valOk;rw [h,h2];exact⟨rfl,rfl⟩
theorem wvalue_calls {A X:Nat} {v cv:Value} {L:List TokL} {a:Nat} {U:QV} {C:List OpL} {w:World} (h:QRd A X v L a U C cv w) (E:Env L):Calls Tryz.prog 250 #[.pointer (some ⟨X,0,none⟩)] w fun e w'=>e=.returned (.tuple #[(valAt L a).v,.bool (valOk L a)])∧WT X v L U cv (nextA L a) w w':=by
 have H0:=Hd h;have hX:=blk_lt h.blk;(have HAH:=Hd (fun W (hW:QRd A X v L a U C cv W)=>qahead_calls hW E.len));(have HNX:=Hd (fun W (hW:QRd A X v L a U C cv W)=>wnext_calls hW E.len));(have HDG:=Hd (fun W (hW:QRd A X v L a U C cv W)=>wdig_calls hW E.len (E.tok a)));have HZ0:=Hd (blk_new w 67 #[.int .i64 0,.string ⟨#[]⟩,.string ⟨#[]⟩,.string ⟨#[]⟩]);(have HIT:=Hd (fun W=>qisTerm_calls (tokAt L a) W));(have HOF:=Hd (fun W=>qtermOf_calls (tokAt L a) W));(have hzX:w.heap.size≠X:=by omega);cases hK:isW L a 1 kUNDEF with
 | true =>
   obtain⟨e1,e2⟩:=valAt_undef hK;rw [e1,e2];(have HWD:=Hd (fun W (hW:QRd A X v L a U C cv W)=>wword_calls hW E.len kUNDEF true hK _ rfl));have HNA:=Hd (nextA_at (isW_lt hK));clear h E hK e1 e2;(go_enter Tryz.func250,Tryz.ntmps250);(go_wp2_with fail);refine (HWD.out _ (H0.out.alloc _)).mono ?_;rintro e w2 ⟨rfl,h2⟩;have HZ2:=Hd (h2.sameAt HZ0.out hzX);have H2:=Hd ((wt_on H0.out (box_below w (.cells #[.int .i64 0,.string ⟨#[]⟩,.string ⟨#[]⟩,.string ⟨#[]⟩] 67))).trans h2);clear h2;(have zc:=fun i=>blk_cell HZ2.out i);(have zcf:=fun i=>blk_free HZ2.out i);have zc0:=zc 0;have zc1:=zc 1;have zc2:=zc 2;have zc3:=zc 3;(simp at zc0 zc1 zc2 zc3);clear zc;go_wp2;(refine bodyPost_ret (v:=.tuple #[.agg #[.int .i64 0,.string ⟨#[]⟩,.string ⟨#[]⟩,.string ⟨#[]⟩],.bool true]) (by simp [results,Tryz.results250,go_sem,zc0,zc1,zc2,zc3]) rfl ?_);refine⟨rfl,?_⟩;rw [HNA.out];(refine (show WT X v L U cv (a+1) w w2 from H2.out).upto hX (Nat.le_refl _) ?_);repeat (with_reducible (first|exact Below.refl _ _|exact box_below _ _|refine Below.drew ?_|refine Below.setCell ?_ (by first|exact Nat.le_refl _|omega|(dsimp only;omega)|(simp;omega)) _|refine Below.alloc ?_ (by first|exact Nat.le_refl _|omega|(simp;done)|(simp;omega)) _))
 | false =>
   (have HWD:=Hd (fun W (hW:QRd A X v L a U C cv W)=>wword_calls hW E.len kUNDEF false hK _ rfl));cases hT:isTrm (tokAt L a) with
   | true =>
     obtain⟨e1,e2⟩:=valAt_term hK hT;rw [e1,e2];rw [hT] at HIT;generalize tokAt L a=t at HIT HOF HAH HNX HDG ⊢;generalize termOfM t=u at HOF ⊢;obtain⟨uk,ux,uy,uz⟩:=u;(simp only [TermL.v] at HOF ⊢);clear h E hK hT e1 e2;(go_enter Tryz.func250,Tryz.ntmps250);(go_wp2_with fail);refine (HWD.out _ (H0.out.alloc _)).mono ?_;rintro e w2 ⟨rfl,h2⟩;have HZ2:=Hd (h2.sameAt HZ0.out hzX);have H2:=Hd ((wt_on H0.out (box_below w (.cells #[.int .i64 0,.string ⟨#[]⟩,.string ⟨#[]⟩,.string ⟨#[]⟩] 67))).trans h2);clear h2;(go_wp2_with fail);refine (HAH.out _ (H2.out.qrd H0.out)).mono ?_;rintro e w3 ⟨rfl,hb3⟩;have HB3:=Hd hb3;clear hb3;(go_wp2_with fail);refine (HIT.out _).mono ?_;rintro e w4 ⟨rfl,hb4⟩;have HB4:=Hd (HB3.out.trans (hb4.mono HB3.out.size));have H4:=Hd (H2.out.upto hX H2.out.ch.size HB4.out);have HZ4:=Hd (blk_on HZ2.out HB4.out (blk_lt HZ2.out));clear hb4;(go_wp2_with fail);refine (HNX.out _ (H4.out.qrd H0.out)).mono ?_;rintro e w5 ⟨rfl,h5⟩;have HZ5:=Hd (h5.sameAt HZ4.out hzX);have H5:=Hd (H4.out.trans h5);clear h5;(go_wp2_with fail);refine (HOF.out _).mono ?_;rintro e w6 ⟨rfl,hb6⟩;have H6:=Hd (H5.out.upto hX H5.out.ch.size hb6);have hz6:=blk_on HZ5.out hb6 (blk_lt HZ5.out);clear hb6;(have zc:=fun i=>blk_cell hz6 i);(have zcf:=fun i=>blk_free hz6 i);have zc0:=zc 0;have zc1:=zc 1;have zc2:=zc 2;have zc3:=zc 3;(simp at zc0 zc1 zc2 zc3);clear zc;go_wp2;(refine bodyPost_ret (v:=.tuple #[.agg #[.int .i64 uk,.string (bs ux),.string (bs uy),.string (bs uz)],.bool true]) (by simp [results,Tryz.results250,go_sem,zc0,zc1,zc2,zc3]) rfl ?_);refine⟨rfl,H6.out.upto hX (Nat.le_refl _) ?_⟩;repeat (with_reducible (first|exact Below.refl _ _|exact box_below _ _|refine Below.drew ?_|refine Below.setCell ?_ (by first|exact Nat.le_refl _|omega|(dsimp only;omega)|(simp;omega)) _|refine Below.alloc ?_ (by first|exact Nat.le_refl _|omega|(simp;done)|(simp;omega)) _))
   | false =>
     obtain⟨e1,e2⟩:=valAt_dig hK hT;rw [e1,e2];rw [hT] at HIT;generalize tokAt L a=t at HIT HOF HAH HNX HDG ⊢;generalize isDig t=D at HDG ⊢;generalize t.x=x at HDG ⊢;clear h E hK hT e1 e2;(go_enter Tryz.func250,Tryz.ntmps250);(go_wp2_with fail);refine (HWD.out _ (H0.out.alloc _)).mono ?_;rintro e w2 ⟨rfl,h2⟩;have HZ2:=Hd (h2.sameAt HZ0.out hzX);have H2:=Hd ((wt_on H0.out (box_below w (.cells #[.int .i64 0,.string ⟨#[]⟩,.string ⟨#[]⟩,.string ⟨#[]⟩] 67))).trans h2);clear h2;(go_wp2_with fail);refine (HAH.out _ (H2.out.qrd H0.out)).mono ?_;rintro e w3 ⟨rfl,hb3⟩;have HB3:=Hd hb3;clear hb3;(go_wp2_with fail);refine (HIT.out _).mono ?_;rintro e w4 ⟨rfl,hb4⟩;have HB4:=Hd (HB3.out.trans (hb4.mono HB3.out.size));have H4:=Hd (H2.out.upto hX H2.out.ch.size HB4.out);have HZ4:=Hd (blk_on HZ2.out HB4.out (blk_lt HZ2.out));clear hb4;(go_wp2_with fail);refine (HDG.out _ (H4.out.qrd H0.out)).mono ?_;rintro e w5 ⟨rfl,h5⟩;have hz5:=h5.sameAt HZ4.out hzX;have H5:=Hd (H4.out.trans h5);clear h5;(have zc:=fun i=>blk_cell hz5 i);(have zcf:=fun i=>blk_free hz5 i);have zc0:=zc 0;have zc1:=zc 1;have zc2:=zc 2;have zc3:=zc 3;(simp at zc0 zc1 zc2 zc3);clear zc;go_wp2;(refine bodyPost_ret (v:=.tuple #[.agg #[.int .i64 2,.string (bs x),.string ⟨#[104,116,116,112,58,47,47,119,119,119,46,119,51,46,111,114,103,47,50,48,48,49,47,88,77,76,83,99,104,101,109,97,35,105,110,116,101,103,101,114]⟩,.string ⟨#[]⟩],.bool D]) (by simp [results,Tryz.results250,go_sem,zc0,zc1,zc2,zc3]) rfl ?_);(refine⟨by first|rfl|kernel_rfl,H5.out.upto hX (Nat.le_refl _) ?_⟩);repeat (with_reducible (first|exact Below.refl _ _|exact box_below _ _|refine Below.drew ?_|refine Below.setCell ?_ (by first|exact Nat.le_refl _|omega|(dsimp only;omega)|(simp;omega)) _|refine Below.alloc ?_ (by first|exact Nat.le_refl _|omega|(simp;done)|(simp;omega)) _))
end
section
open Go.RowKit
theorem term_ok {t:TokL} (h:TermOk t.t) (hx:t.x.length≤maxLen):(termOfM t).ok:=by
  unfold termOfM TermL.ok
  cases hc:decide (t.k=2) with
  | true=>exact⟨by rw [bs_size];exact hx,by rw [bs_size];exact Nat.zero_le _,by rw [bs_size];exact Nat.zero_le _⟩
  | false=>exact⟨by rw [bs_size];exact h.1,by rw [bs_size];exact h.2.1,by rw [bs_size];exact h.2.2⟩
def arr3 (L:List TokL) (a k:Nat):Array Value:=((if 0<k then termCells (termOfM (tokAt L a)) else termCells noTerm)++((if 1<k then termCells (termOfM (tokAt L (a+1))) else termCells noTerm)++(if 2<k then termCells (termOfM (tokAt L (a+2))) else termCells noTerm))).toArray
theorem blk_set4 {W:World} {X:Nat} {T:TypeId} {cs cs':Array Value} (h:Blk W X T cs) (i:Nat) (a b c d:Value) (he:(((cs.setIfInBounds i a).setIfInBounds (i+1) b).setIfInBounds (i+2) c).setIfInBounds (i+3) d=cs'):Blk ((((W.setCell ⟨X,i,none⟩ a).setCell ⟨X,i+1,none⟩ b).setCell ⟨X,i+2,none⟩ c).setCell ⟨X,i+3,none⟩ d) X T cs':=by
  rw [←he];exact blk_set (blk_set (blk_set (blk_set h i a) (i+1) b) (i+2) c) (i+3) d
theorem blk_keep4 {W:World} {Z Y:Nat} {T:TypeId} {cs:Array Value} (h:Blk W Z T cs) (hY:Z≠Y) (i j k l:Nat) (a b c d:Value):Blk ((((W.setCell ⟨Y,i,none⟩ a).setCell ⟨Y,j,none⟩ b).setCell ⟨Y,k,none⟩ c).setCell ⟨Y,l,none⟩ d) Z T cs:=by
  unfold Blk
  rw [heap_setCell_other _ ⟨Y,l,none⟩ Z d (fun e=>hY (by simpa using e)),heap_setCell_other _ ⟨Y,k,none⟩ Z c (fun e=>hY (by simpa using e)),heap_setCell_other _ ⟨Y,j,none⟩ Z b (fun e=>hY (by simpa using e)),heap_setCell_other _ ⟨Y,i,none⟩ Z a (fun e=>hY (by simpa using e))]
  exact h
theorem blk_row {W:World} {X Z:Nat} {T:TypeId} {cs:Array Value} (h:Blk W X T cs) (hX:X≠Z) (new:Array Value):Blk (W.setRow Z new) X T cs:=by
  unfold Blk
  rw [setRow_other W Z X new hX]
  exact h
theorem blk_rowZ {W:World} {Z:Nat} {T:TypeId} {cs:Array Value} (h:Blk W Z T cs) (new:Array Value):Blk (W.setRow Z new) Z T new:=by
  unfold Blk
  exact setRow_heap W Z cs new T (0,0) h
theorem below_row (W:World) (B Z:Nat) {new:Array Value} (h:B≤Z):Below B W (W.setRow Z new):=⟨rfl,rfl,rfl,by simp,fun k hk=>setRow_other W Z k new (by omega)⟩
theorem trip_ret (tm:Array Value) (W:World) (Z:Nat) (t:TripL) (b:Bool) (Q:Ending→World→Prop) (h2:tm.getD 2 undef=.pointer (some ⟨Z,0,none⟩)) (h3:tm.getD 3 undef=.bool b) (hZ:Blk W Z 146 (termCells t.s++(termCells t.p++termCells t.o)).toArray) (hQ:Q (.returned (.tuple #[t.v,.bool b])) W):bodyPost Tryz.prog Tryz.f214 Q Exit.ret { tmps:=tm,defers:=[] } W:=by
 obtain⟨⟨k1,x1,y1,z1⟩,⟨k2,x2,y2,z2⟩,⟨k3,x3,y3,z3⟩⟩:=t;(have q:=fun i=>blk_cell hZ i);have q0:=q 0;have q1:=q 1;have q2:=q 2;have q3:=q 3;have q4:=q 4;have q5:=q 5;have q6:=q 6;have q7:=q 7;have q8:=q 8;have q9:=q 9;have q10:=q 10;have q11:=q 11;(simp [termCells] at q0 q1 q2 q3 q4 q5 q6 q7 q8 q9 q10 q11);(have e2:tm[2]?.getD undef=.pointer (some ⟨Z,0,none⟩):=by rw [←Array.getD_eq_getD_getElem?];exact h2);(have e3:tm[3]?.getD undef=.bool b:=by rw [←Array.getD_eq_getD_getElem?];exact h3);refine bodyPost_ret (v:=.tuple #[(⟨⟨k1,x1,y1,z1⟩,⟨k2,x2,y2,z2⟩,⟨k3,x3,y3,z3⟩⟩:TripL).v,.bool b]) (by simp [results,Tryz.results214,TripL.v,e2,e3,q0,q1,q2,q3,q4,q5,q6,q7,q8,q9,q10,q11,go_sem]) rfl hQ
def TrF (X:Nat) (v:Value) (L:List TokL) (U:QV) (cv:Value) (a:Nat) (w:World) (Z Y:Nat) (k:Nat) (wr:World):Prop :=
  WT X v L U cv (a+k) w wr∧Blk wr Z 146 #[.int .i64 0,.string ⟨#[]⟩,.string ⟨#[]⟩,.string ⟨#[]⟩,.int .i64 0,.string ⟨#[]⟩,.string ⟨#[]⟩,.string ⟨#[]⟩,.int .i64 0,.string ⟨#[]⟩,.string ⟨#[]⟩,.string ⟨#[]⟩]∧Blk wr Y 259 (arr3 L a k)∧(0<k→isTrm (tokAt L a)=true)∧(1<k→isTrm (tokAt L (a+1))=true)∧(2<k→isTrm (tokAt L (a+2))=true)
theorem wtriple_calls {A X:Nat} {v cv:Value} {L:List TokL} {a:Nat} {U:QV} {C:List OpL} {w:World} (h:QRd A X v L a U C cv w) (E:Env L):Calls Tryz.prog 214 #[.pointer (some ⟨X,0,none⟩)] w fun e w'=>e=.returned (.tuple #[(tripGot L a).v,.bool (tripOk L a)])∧WT X v L U cv (tripEnd L a) w w':=by
 have H0:=Hd h;have hX:=blk_lt h.blk;(have HAH:=Hd (fun a W (hW:QRd A X v L a U C cv W)=>qahead_calls hW E.len));(have HNX:=Hd (fun a W (hW:QRd A X v L a U C cv W)=>wnext_calls hW E.len));(have HST:=Hd (fun K b W (hW:QRd A X v L (a+3) U C cv W) (hK:isW L (a+3) 5 s_stop=K) (hb:stepA K (a+3)=b)=>wsign_calls hW E.len s_stop K hK b hb));(have HTO:=Hd (fun i=>(E.tok i).2));(have HTX:=Hd (fun i=>(E.tok i).1));clear h E;(go_enter Tryz.func214,Tryz.ntmps214);go_wp2;obtain⟨W0,hW0⟩:∃W0,W0=(w.alloc (.cells #[.int .i64 0,.string ⟨#[]⟩,.string ⟨#[]⟩,.string ⟨#[]⟩,.int .i64 0,.string ⟨#[]⟩,.string ⟨#[]⟩,.string ⟨#[]⟩,.int .i64 0,.string ⟨#[]⟩,.string ⟨#[]⟩,.string ⟨#[]⟩] 146)).alloc (.cells #[.int .i64 0,.string ⟨#[]⟩,.string ⟨#[]⟩,.string ⟨#[]⟩,.int .i64 0,.string ⟨#[]⟩,.string ⟨#[]⟩,.string ⟨#[]⟩,.int .i64 0,.string ⟨#[]⟩,.string ⟨#[]⟩,.string ⟨#[]⟩] 259):=⟨_,rfl⟩;(have HBL:=Hd (show Below w.heap.size w W0 from by rw [hW0];repeat (with_reducible (first|exact Below.refl _ _|exact box_below _ _|refine Below.drew ?_|refine Below.setCell ?_ (by first|exact Nat.le_refl _|omega|(dsimp only;omega)|(simp;omega)) _|refine Below.alloc ?_ (by first|exact Nat.le_refl _|omega|(simp;done)|(simp;omega)) _))));(have HZ0:=Hd (show Blk W0 w.heap.size 146 #[.int .i64 0,.string ⟨#[]⟩,.string ⟨#[]⟩,.string ⟨#[]⟩,.int .i64 0,.string ⟨#[]⟩,.string ⟨#[]⟩,.string ⟨#[]⟩,.int .i64 0,.string ⟨#[]⟩,.string ⟨#[]⟩,.string ⟨#[]⟩] from by rw [hW0];exact blk_alloc (blk_new _ _ _) _));have HY0:=Hd (show Blk W0 (w.heap.size+1) 259 (arr3 L a 0) from by
  have:=blk_new (w.alloc (.cells #[.int .i64 0,.string ⟨#[]⟩,.string ⟨#[]⟩,.string ⟨#[]⟩,.int .i64 0,.string ⟨#[]⟩,.string ⟨#[]⟩,.string ⟨#[]⟩,.int .i64 0,.string ⟨#[]⟩,.string ⟨#[]⟩,.string ⟨#[]⟩] 146)) 259 #[.int .i64 0,.string ⟨#[]⟩,.string ⟨#[]⟩,.string ⟨#[]⟩,.int .i64 0,.string ⟨#[]⟩,.string ⟨#[]⟩,.string ⟨#[]⟩,.int .i64 0,.string ⟨#[]⟩,.string ⟨#[]⟩,.string ⟨#[]⟩];(rw [show (w.alloc (.cells #[.int .i64 0,.string ⟨#[]⟩,.string ⟨#[]⟩,.string ⟨#[]⟩,.int .i64 0,.string ⟨#[]⟩,.string ⟨#[]⟩,.string ⟨#[]⟩,.int .i64 0,.string ⟨#[]⟩,.string ⟨#[]⟩,.string ⟨#[]⟩] 146)).heap.size=w.heap.size+1 by simp] at this);rw [hW0];exact this)
 rw [←hW0];clear hW0;go_loopg [7] 3 (fun g i wr=>∃(k:Nat),k≤3∧k+g=3∧i=.int .i64 k∧Hid (TrF X v L U cv a w w.heap.size (w.heap.size+1) k wr))
 case atStart=>exact⟨0,Nat.zero_le _,rfl,rfl,Hd ⟨wt_on H0.out HBL.out,HZ0.out,HY0.out,fun c=>absurd c (by decide),fun c=>absurd c (by decide),fun c=>absurd c (by decide)⟩⟩
 case round =>
  obtain⟨W1,rfl⟩:∃W1,W1=wr:=⟨_,rfl⟩;obtain⟨k,hk,hkg,rfl,HR⟩:=hrel;obtain⟨hq,hz,hy,ht0,ht1,ht2⟩:=HR.out;have HQ:=Hd hq;have HQR:=Hd (hq.qrd H0.out);have HZ:=Hd hz;have HY:=Hd hy;have HT0:=Hd ht0;have HT1:=Hd ht1;have HT2:=Hd ht2;have hzl:=blk_lt hz;have hyl:=blk_lt hy;(have hzX:w.heap.size≠X:=by omega);(have hyX:w.heap.size+1≠X:=by omega);clear hq hz hy ht0 ht1 ht2 HR;by_cases h3:k<3
  ·(obtain⟨g,rfl⟩:∃g,gk=g+1:=⟨gk-1,by omega⟩);(have hk3:(k:Int)<3:=by omega);(have hk0:(0:Int)≤(k:Int):=by omega);have HA:=Hd (HAH.out (a+k) _ HQR.out);(have HN:=Hd (fun W hW=>HNX.out (a+k) W hW));obtain⟨t,htk⟩:∃t,tokAt L (a+k)=t:=⟨_,rfl⟩;rw [htk] at HA;(simp only [htk] at HN);(have HIT:=Hd (fun W=>qisTerm_calls t W));(have HOF:=Hd (fun W=>qtermOf_calls t W));have HTE:=Hd htk;cases hT:isTrm t with
   | false =>
     have HE:Hid (tripGot L a=zeroTrip∧tripOk L a=false∧tripEnd L a=a+k):=Hd (by
      rw [←htk] at hT;rcases (show k=0∨k=1∨k=2 by omega) with rfl|rfl|rfl
      ·exact trip_no0 hT
      ·exact trip_no1 (HT0.out (by decide)) hT
      ·exact trip_no2 (HT0.out (by decide)) (HT1.out (by decide)) hT)
     rw [hT] at HIT;clear htk hT;(go_wp2_with fail);refine HA.out.mono ?_;rintro e w2 ⟨rfl,hb2⟩;have HB2:=Hd hb2;clear hb2;(go_wp2_with fail);refine (HIT.out _).mono ?_;rintro e w3 ⟨rfl,hb3⟩;have HB3:=Hd (HB2.out.trans (hb3.mono HB2.out.size));have hz3:=blk_on HZ.out HB3.out hzl;(have z0:=fun i=>blk_cell hz3 i);(have zf:=fun i=>blk_free hz3 i);have y0:=z0 0;have y1:=z0 1;have y2:=z0 2;have y3:=z0 3;have y4:=z0 4;have y5:=z0 5;have y6:=z0 6;have y7:=z0 7;have y8:=z0 8;have y9:=z0 9;have y10:=z0 10;have y11:=z0 11;(simp at y0 y1 y2 y3 y4 y5 y6 y7 y8 y9 y10 y11);clear hb3 z0 hz3;go_wp2;(refine bodyPost_ret (v:=.tuple #[.agg #[.int .i64 0,.string ⟨#[]⟩,.string ⟨#[]⟩,.string ⟨#[]⟩,.int .i64 0,.string ⟨#[]⟩,.string ⟨#[]⟩,.string ⟨#[]⟩,.int .i64 0,.string ⟨#[]⟩,.string ⟨#[]⟩,.string ⟨#[]⟩],.bool false]) (by simp [results,Tryz.results214,go_sem,y0,y1,y2,y3,y4,y5,y6,y7,y8,y9,y10,y11]) rfl ?_);(refine⟨by rw [HE.out.1,HE.out.2.1];rfl,?_⟩);rw [HE.out.2.2];refine (HQ.out.upto hX HQ.out.ch.size HB3.out).upto hX (Nat.le_refl _) ?_;repeat (with_reducible (first|exact Below.refl _ _|exact box_below _ _|refine Below.drew ?_|refine Below.setCell ?_ (by first|exact Nat.le_refl _|omega|(dsimp only;omega)|(simp;omega)) _|refine Below.alloc ?_ (by first|exact Nat.le_refl _|omega|(simp;done)|(simp;omega)) _))
   | true =>
     (have HTT:=Hd (show isTrm (tokAt L (a+k))=true from by rw [htk];exact hT));have HNA:=Hd (nextA_at (isTrm_lt HTT.out));(have HTM:=Hd (show termOfM (tokAt L (a+k))=termOfM t from by rw [htk]));rw [hT] at HIT;clear htk hT;generalize termOfM t=u at HOF HTM;obtain⟨uk,ux,uy,uz⟩:=u;(simp only [TermL.v] at HOF);(go_wp2_with fail);refine HA.out.mono ?_;rintro e w2 ⟨rfl,hb2⟩;have HB2:=Hd hb2;clear hb2;(go_wp2_with fail);refine (HIT.out _).mono ?_;rintro e w3 ⟨rfl,hb3⟩;have HB3:=Hd (HB2.out.trans (hb3.mono HB2.out.size));clear hb3;(go_wp2_with fail);refine (HN.out _ (HQR.out.on HB3.out)).mono ?_;rintro e w4 ⟨rfl,h4⟩;have HW4:=Hd h4;clear h4;(go_wp2_with fail);refine (HOF.out _).mono ?_;rintro e w5 ⟨rfl,hb5⟩;(have hX3:X<w3.heap.size:=Nat.lt_of_lt_of_le (by omega) HB3.out.size);have HW5:=Hd (HW4.out.upto hX3 HW4.out.ch.size hb5);have HY3:=Hd (blk_on HY.out HB3.out hyl);have HZ3:=Hd (blk_on HZ.out HB3.out hzl);have HY5:=Hd (HW5.out.sameAt HY3.out hyX);have HZ5:=Hd (HW5.out.sameAt HZ3.out hzX);clear hb5;(have hyf:=fun i=>blk_free HY5.out i);(have hyc:=fun i=>blk_cell HY5.out i);rcases (show k=0∨k=1∨k=2 by omega) with rfl|rfl|rfl
     ·have yc0:=hyc 0;have yc1:=hyc 1;have yc2:=hyc 2;have yc3:=hyc 3;(simp [arr3,termCells] at yc0 yc1 yc2 yc3);clear hyc;go_wp2;go_roundg g
      case measure=>omega
      case rel =>
       refine⟨0+1,by omega,by omega,by go_num,Hd ⟨?_,blk_keep4 HZ5.out (by omega) _ _ _ _ _ _ _ _,blk_set4 HY5.out 0 _ _ _ _ ?_,fun _=>HTT.out,fun c=>absurd c (by decide),fun c=>absurd c (by decide)⟩⟩
       ·have hwt:=(HQ.out.upto hX HQ.out.ch.size HB3.out).trans HW5.out;rw [HNA.out] at hwt;refine hwt.upto hX (Nat.le_refl _) ?_;repeat (with_reducible (first|exact Below.refl _ _|refine Below.setCell ?_ (by first|exact Nat.le_refl _|omega|(dsimp only;omega)|(simp;omega)) _))
       ·have e:=HTM.out;(try simp only [Nat.add_zero] at e);simp [arr3,termCells,e]
     ·have yc4:=hyc 4;have yc5:=hyc 5;have yc6:=hyc 6;have yc7:=hyc 7;(simp [arr3,termCells] at yc4 yc5 yc6 yc7);clear hyc;go_wp2;go_roundg g
      case measure=>omega
      case rel =>
       refine⟨1+1,by omega,by omega,by go_num,Hd ⟨?_,blk_keep4 HZ5.out (by omega) _ _ _ _ _ _ _ _,blk_set4 HY5.out 4 _ _ _ _ ?_,fun _=>HT0.out (by decide),fun _=>HTT.out,fun c=>absurd c (by decide)⟩⟩
       ·have hwt:=(HQ.out.upto hX HQ.out.ch.size HB3.out).trans HW5.out;rw [HNA.out] at hwt;refine hwt.upto hX (Nat.le_refl _) ?_;repeat (with_reducible (first|exact Below.refl _ _|refine Below.setCell ?_ (by first|exact Nat.le_refl _|omega|(dsimp only;omega)|(simp;omega)) _))
       ·have e:=HTM.out;(try simp only [Nat.add_zero] at e);simp [arr3,termCells,e]
     ·have yc8:=hyc 8;have yc9:=hyc 9;have yc10:=hyc 10;have yc11:=hyc 11;(simp [arr3,termCells] at yc8 yc9 yc10 yc11);clear hyc;go_wp2;go_roundg g
      case measure=>omega
      case rel =>
       refine⟨2+1,by omega,by omega,by go_num,Hd ⟨?_,blk_keep4 HZ5.out (by omega) _ _ _ _ _ _ _ _,blk_set4 HY5.out 8 _ _ _ _ ?_,fun _=>HT0.out (by decide),fun _=>HT1.out (by decide),fun _=>HTT.out⟩⟩
       ·have hwt:=(HQ.out.upto hX HQ.out.ch.size HB3.out).trans HW5.out;rw [HNA.out] at hwt;refine hwt.upto hX (Nat.le_refl _) ?_;repeat (with_reducible (first|exact Below.refl _ _|refine Below.setCell ?_ (by first|exact Nat.le_refl _|omega|(dsimp only;omega)|(simp;omega)) _))
       ·have e:=HTM.out;(try simp only [Nat.add_zero] at e);simp [arr3,termCells,e]
  ·(obtain rfl:k=3:=by omega);(have HYY:=Hd (trip_yes (HT0.out (by decide)) (HT1.out (by decide)) (HT2.out (by decide))));(have HOK:=Hd (show (tripAt L a).ok from ⟨term_ok (HTO.out a) (HTX.out a),term_ok (HTO.out (a+1)) (HTX.out (a+1)),term_ok (HTO.out (a+2)) (HTX.out (a+2))⟩));(have HCP:=Hd (fun W=>tPattern_calls (tripAt L a) HOK.out W));(have HAR:=Hd (show arr3 L a 3=(termCells (tripAt L a).s++(termCells (tripAt L a).p++termCells (tripAt L a).o)).toArray from rfl));generalize tripAt L a=tt at HYY HCP HAR HOK;obtain⟨⟨k1,x1,y1,z1⟩,⟨k2,x2,y2,z2⟩,⟨k3,x3,y3,z3⟩⟩:=tt;(simp only [TripL.v] at HCP);have hy2:=HY.out;rw [HAR.out] at hy2;(have hyc:=fun i=>blk_cell hy2 i);have yc0:=hyc 0;have yc1:=hyc 1;have yc2:=hyc 2;have yc3:=hyc 3;have yc4:=hyc 4;have yc5:=hyc 5;have yc6:=hyc 6;have yc7:=hyc 7;have yc8:=hyc 8;have yc9:=hyc 9;have yc10:=hyc 10;have yc11:=hyc 11;(simp [termCells] at yc0 yc1 yc2 yc3 yc4 yc5 yc6 yc7 yc8 yc9 yc10 yc11);(have hzc:=fun i=>blk_cell HZ.out i);(have hzf:=fun i=>blk_free HZ.out i);have zc0:=hzc 0;have zc1:=hzc 1;have zc2:=hzc 2;have zc3:=hzc 3;have zc4:=hzc 4;have zc5:=hzc 5;have zc6:=hzc 6;have zc7:=hzc 7;have zc8:=hzc 8;have zc9:=hzc 9;have zc10:=hzc 10;have zc11:=hzc 11;(simp at zc0 zc1 zc2 zc3 zc4 zc5 zc6 zc7 zc8 zc9 zc10 zc11);clear hyc hy2 hzc;obtain⟨p,hp⟩:∃p,patB ⟨⟨k1,x1,y1,z1⟩,⟨k2,x2,y2,z2⟩,⟨k3,x3,y3,z3⟩⟩=p:=⟨_,rfl⟩;rw [hp] at HYY HCP;(have hTX:W1.heap.size≠X:=by omega);cases hK:isW L (a+3) 5 s_stop with
   | false =>
     (have HS:=Hd (fun W hW=>HST.out false (a+3) W hW hK rfl));rw [hK] at HYY;clear hp hK;go_wp2;refine wp_region_held_drew (S:=(fun WW=>Blk WW W1.heap.size 146 #[.int .i64 k1,.string (bs x1),.string (bs y1),.string (bs z1),.int .i64 k2,.string (bs x2),.string (bs y2),.string (bs z2),.int .i64 k3,.string (bs x3),.string (bs y3),.string (bs z3)])) (by kernel_rfl) ?_ (fun hHeld=>?_)
     ·(try dsimp only);exact (show Blk _ W1.heap.size 146 #[.int .i64 k1,.string (bs x1),.string (bs y1),.string (bs z1),.int .i64 k2,.string (bs x2),.string (bs y2),.string (bs z2),.int .i64 k3,.string (bs x3),.string (bs y3),.string (bs z3)] from blk_new W1 _ _)
     refine tkB 0 32 (v:=?_) ?_ ?_;rotate_left
     ·(intro ww hSw;(try dsimp only at hSw);have q:=fun i=>blk_cell hSw i;have q0:=q 0;have q1:=q 1;have q2:=q 2;have q3:=q 3;have q4:=q 4;have q5:=q 5;have q6:=q 6;have q7:=q 7;have q8:=q 8;have q9:=q 9;have q10:=q 10;have q11:=q 11;simp at q0 q1 q2 q3 q4 q5 q6 q7 q8 q9 q10 q11;clear q;go_simp);(try with_reducible rfl)
     refine tkA 1 33 ?_;refine tkA 2 34 ?_;refine tkA 3 35 ?_;(refine rdA 4 fun K hK=>?_);go_simp;refine (HS.out _ (HQR.out.on ?_)).mono ?_
     ·repeat (with_reducible (first|exact Below.refl _ _|exact box_below _ _|refine Below.drew ?_|refine Below.setCell ?_ (by first|exact Nat.le_refl _|omega|(dsimp only;omega)|(simp;omega)) _|refine Below.alloc ?_ (by first|exact Nat.le_refl _|omega|(simp;done)|(simp;omega)) _))
     rintro e1 w2 ⟨rfl,h2⟩;(have HW2:=Hd ((HQ.out.upto hX HQ.out.ch.size (by repeat (with_reducible (first|exact Below.refl _ _|exact box_below _ _|refine Below.drew ?_|refine Below.setCell ?_ (by first|exact Nat.le_refl _|omega|(dsimp only;omega)|(simp;omega)) _|refine Below.alloc ?_ (by first|exact Nat.le_refl _|omega|(simp;done)|(simp;omega)) _)))).trans h2));(have HZ2:=Hd (h2.sameAt (blk_on HZ.out (by repeat (with_reducible (first|exact Below.refl _ _|exact box_below _ _|refine Below.drew ?_|refine Below.setCell ?_ (by first|exact Nat.le_refl _|omega|(dsimp only;omega)|(simp;omega)) _|refine Below.alloc ?_ (by first|exact Nat.le_refl _|omega|(simp;done)|(simp;omega)) _))) hzl) hzX));(have HT2':=Hd (h2.sameAt (show Blk _ W1.heap.size 146 #[.int .i64 k1,.string (bs x1),.string (bs y1),.string (bs z1),.int .i64 k2,.string (bs x2),.string (bs y2),.string (bs z2),.int .i64 k3,.string (bs x3),.string (bs y3),.string (bs z3)] from blk_new W1 _ _) hTX));clear h2;(go_wp2_with fail);refine hK.out _ _ ?_ (fun hHeld=>?_)
     ·(try dsimp only);exact HT2'.out
     clear hK K;(try simp only [Act.put,sb,sz,ss]);refine tkA 5 37 ?_;refine skA 6 38 ?_;refine skA 7 39 ?_;refine skA 8 40 ?_;refine tkA 9 41 ?_;(refine rdA 10 fun K hK=>?_);(refine wp_store_row 146 (.tmp 2) (.tmp 32) rfl w.heap.size #[.int .i64 k1,.string (bs x1),.string (bs y1),.string (bs z1),.int .i64 k2,.string (bs x2),.string (bs y2),.string (bs z2),.int .i64 k3,.string (bs x3),.string (bs y3),.string (bs z3)] (by kernel_rfl) (by kernel_rfl) 146 #[.int .i64 0,.string ⟨#[]⟩,.string ⟨#[]⟩,.string ⟨#[]⟩,.int .i64 0,.string ⟨#[]⟩,.string ⟨#[]⟩,.string ⟨#[]⟩,.int .i64 0,.string ⟨#[]⟩,.string ⟨#[]⟩,.string ⟨#[]⟩] HZ2.out (by kernel_rfl) rfl (by kernel_rfl) ?_);change K (Act.put _ none undef) _;(try simp only [Act.put]);refine hK.out _ _ ?_ (fun hHeld=>?_)
     ·(try dsimp only);exact blk_row HT2'.out (by omega) _
     clear hK K;refine tkA 11 3 ?_;refine dnA ?_;go_wp2;exact trip_ret _ _ w.heap.size ⟨⟨k1,x1,y1,z1⟩,⟨k2,x2,y2,z2⟩,⟨k3,x3,y3,z3⟩⟩ false _ (by first|rfl|simp) (by first|rfl|simp) (blk_rowZ HZ2.out _) ⟨by rw [HYY.out.1,HYY.out.2.1];rfl,by rw [HYY.out.2.2];exact HW2.out.upto hX (Nat.le_refl _) (below_row _ _ _ (Nat.le_refl _))⟩
   | true =>
     (have HS:=Hd (fun W hW=>HST.out true (a+3+1) W hW hK rfl));rw [hK] at HYY;clear hp hK;cases p with
     | true =>
       (rw [show formZ true=0 from rfl] at HCP);go_wp2;refine wp_region_held_drew (S:=(fun WW=>Blk WW W1.heap.size 146 #[.int .i64 k1,.string (bs x1),.string (bs y1),.string (bs z1),.int .i64 k2,.string (bs x2),.string (bs y2),.string (bs z2),.int .i64 k3,.string (bs x3),.string (bs y3),.string (bs z3)])) (by kernel_rfl) ?_ (fun hHeld=>?_)
       ·(try dsimp only);exact (show Blk _ W1.heap.size 146 #[.int .i64 k1,.string (bs x1),.string (bs y1),.string (bs z1),.int .i64 k2,.string (bs x2),.string (bs y2),.string (bs z2),.int .i64 k3,.string (bs x3),.string (bs y3),.string (bs z3)] from blk_new W1 _ _)
       refine tkB 0 32 (v:=?_) ?_ ?_;rotate_left
       ·(intro ww hSw;(try dsimp only at hSw);have q:=fun i=>blk_cell hSw i;have q0:=q 0;have q1:=q 1;have q2:=q 2;have q3:=q 3;have q4:=q 4;have q5:=q 5;have q6:=q 6;have q7:=q 7;have q8:=q 8;have q9:=q 9;have q10:=q 10;have q11:=q 11;simp at q0 q1 q2 q3 q4 q5 q6 q7 q8 q9 q10 q11;clear q;go_simp);(try with_reducible rfl)
       refine tkA 1 33 ?_;refine tkA 2 34 ?_;refine tkA 3 35 ?_;(refine rdA 4 fun K hK=>?_);go_simp;refine (HS.out _ (HQR.out.on ?_)).mono ?_
       ·repeat (with_reducible (first|exact Below.refl _ _|exact box_below _ _|refine Below.drew ?_|refine Below.setCell ?_ (by first|exact Nat.le_refl _|omega|(dsimp only;omega)|(simp;omega)) _|refine Below.alloc ?_ (by first|exact Nat.le_refl _|omega|(simp;done)|(simp;omega)) _))
       rintro e1 w2 ⟨rfl,h2⟩;(have HW2:=Hd ((HQ.out.upto hX HQ.out.ch.size (by repeat (with_reducible (first|exact Below.refl _ _|exact box_below _ _|refine Below.drew ?_|refine Below.setCell ?_ (by first|exact Nat.le_refl _|omega|(dsimp only;omega)|(simp;omega)) _|refine Below.alloc ?_ (by first|exact Nat.le_refl _|omega|(simp;done)|(simp;omega)) _)))).trans h2));(have HZ2:=Hd (h2.sameAt (blk_on HZ.out (by repeat (with_reducible (first|exact Below.refl _ _|exact box_below _ _|refine Below.drew ?_|refine Below.setCell ?_ (by first|exact Nat.le_refl _|omega|(dsimp only;omega)|(simp;omega)) _|refine Below.alloc ?_ (by first|exact Nat.le_refl _|omega|(simp;done)|(simp;omega)) _))) hzl) hzX));(have HT2':=Hd (h2.sameAt (show Blk _ W1.heap.size 146 #[.int .i64 k1,.string (bs x1),.string (bs y1),.string (bs z1),.int .i64 k2,.string (bs x2),.string (bs y2),.string (bs z2),.int .i64 k3,.string (bs x3),.string (bs y3),.string (bs z3)] from blk_new W1 _ _) hTX));clear h2;(go_wp2_with fail);refine hK.out _ _ ?_ (fun hHeld=>?_)
       ·(try dsimp only);exact HT2'.out
       clear hK K;(try simp only [Act.put,sb,sz,ss]);refine tkA 5 37 ?_;refine tkB 6 38 (v:=?_) ?_ ?_;rotate_left
       ·(intro ww hSw;(try dsimp only at hSw);have q:=fun i=>blk_cell hSw i;have q0:=q 0;have q1:=q 1;have q2:=q 2;have q3:=q 3;have q4:=q 4;have q5:=q 5;have q6:=q 6;have q7:=q 7;have q8:=q 8;have q9:=q 9;have q10:=q 10;have q11:=q 11;simp at q0 q1 q2 q3 q4 q5 q6 q7 q8 q9 q10 q11;clear q;go_simp);(try with_reducible rfl)
       (refine rdA 7 fun K hK=>?_);go_simp;refine (HCP.out _).mono ?_;rintro e1 w3 ⟨rfl,hb3⟩;have HW3:=Hd (HW2.out.upto hX HW2.out.ch.size hb3);have HZ3:=Hd (blk_on HZ2.out hb3 (blk_lt HZ2.out));have HT3':=Hd (blk_on HT2'.out hb3 (blk_lt HT2'.out));clear hb3;(go_wp2_with fail);refine hK.out _ _ ?_ (fun hHeld=>?_)
       ·(try dsimp only);exact HT3'.out
       clear hK K;(try simp only [Act.put,sb,sz,ss]);refine tkA 8 40 ?_;refine tkA 9 41 ?_;(refine rdA 10 fun K hK=>?_);(refine wp_store_row 146 (.tmp 2) (.tmp 32) rfl w.heap.size #[.int .i64 k1,.string (bs x1),.string (bs y1),.string (bs z1),.int .i64 k2,.string (bs x2),.string (bs y2),.string (bs z2),.int .i64 k3,.string (bs x3),.string (bs y3),.string (bs z3)] (by kernel_rfl) (by kernel_rfl) 146 #[.int .i64 0,.string ⟨#[]⟩,.string ⟨#[]⟩,.string ⟨#[]⟩,.int .i64 0,.string ⟨#[]⟩,.string ⟨#[]⟩,.string ⟨#[]⟩,.int .i64 0,.string ⟨#[]⟩,.string ⟨#[]⟩,.string ⟨#[]⟩] HZ3.out (by kernel_rfl) rfl (by kernel_rfl) ?_);change K (Act.put _ none undef) _;(try simp only [Act.put]);refine hK.out _ _ ?_ (fun hHeld=>?_)
       ·(try dsimp only);exact blk_row HT3'.out (by omega) _
       clear hK K;refine tkA 11 3 ?_;refine dnA ?_;go_wp2;exact trip_ret _ _ w.heap.size ⟨⟨k1,x1,y1,z1⟩,⟨k2,x2,y2,z2⟩,⟨k3,x3,y3,z3⟩⟩ true _ (by first|rfl|simp) (by first|rfl|simp) (blk_rowZ HZ3.out _) ⟨by rw [HYY.out.1,HYY.out.2.1];rfl,by rw [HYY.out.2.2];exact HW3.out.upto hX (Nat.le_refl _) (below_row _ _ _ (Nat.le_refl _))⟩
     | false =>
       (rw [show formZ false=2 from rfl] at HCP);go_wp2;refine wp_region_held_drew (S:=(fun WW=>Blk WW W1.heap.size 146 #[.int .i64 k1,.string (bs x1),.string (bs y1),.string (bs z1),.int .i64 k2,.string (bs x2),.string (bs y2),.string (bs z2),.int .i64 k3,.string (bs x3),.string (bs y3),.string (bs z3)])) (by kernel_rfl) ?_ (fun hHeld=>?_)
       ·(try dsimp only);exact (show Blk _ W1.heap.size 146 #[.int .i64 k1,.string (bs x1),.string (bs y1),.string (bs z1),.int .i64 k2,.string (bs x2),.string (bs y2),.string (bs z2),.int .i64 k3,.string (bs x3),.string (bs y3),.string (bs z3)] from blk_new W1 _ _)
       refine tkB 0 32 (v:=?_) ?_ ?_;rotate_left
       ·(intro ww hSw;(try dsimp only at hSw);have q:=fun i=>blk_cell hSw i;have q0:=q 0;have q1:=q 1;have q2:=q 2;have q3:=q 3;have q4:=q 4;have q5:=q 5;have q6:=q 6;have q7:=q 7;have q8:=q 8;have q9:=q 9;have q10:=q 10;have q11:=q 11;simp at q0 q1 q2 q3 q4 q5 q6 q7 q8 q9 q10 q11;clear q;go_simp);(try with_reducible rfl)
       refine tkA 1 33 ?_;refine tkA 2 34 ?_;refine tkA 3 35 ?_;(refine rdA 4 fun K hK=>?_);go_simp;refine (HS.out _ (HQR.out.on ?_)).mono ?_
       ·repeat (with_reducible (first|exact Below.refl _ _|exact box_below _ _|refine Below.drew ?_|refine Below.setCell ?_ (by first|exact Nat.le_refl _|omega|(dsimp only;omega)|(simp;omega)) _|refine Below.alloc ?_ (by first|exact Nat.le_refl _|omega|(simp;done)|(simp;omega)) _))
       rintro e1 w2 ⟨rfl,h2⟩;(have HW2:=Hd ((HQ.out.upto hX HQ.out.ch.size (by repeat (with_reducible (first|exact Below.refl _ _|exact box_below _ _|refine Below.drew ?_|refine Below.setCell ?_ (by first|exact Nat.le_refl _|omega|(dsimp only;omega)|(simp;omega)) _|refine Below.alloc ?_ (by first|exact Nat.le_refl _|omega|(simp;done)|(simp;omega)) _)))).trans h2));(have HZ2:=Hd (h2.sameAt (blk_on HZ.out (by repeat (with_reducible (first|exact Below.refl _ _|exact box_below _ _|refine Below.drew ?_|refine Below.setCell ?_ (by first|exact Nat.le_refl _|omega|(dsimp only;omega)|(simp;omega)) _|refine Below.alloc ?_ (by first|exact Nat.le_refl _|omega|(simp;done)|(simp;omega)) _))) hzl) hzX));(have HT2':=Hd (h2.sameAt (show Blk _ W1.heap.size 146 #[.int .i64 k1,.string (bs x1),.string (bs y1),.string (bs z1),.int .i64 k2,.string (bs x2),.string (bs y2),.string (bs z2),.int .i64 k3,.string (bs x3),.string (bs y3),.string (bs z3)] from blk_new W1 _ _) hTX));clear h2;(go_wp2_with fail);refine hK.out _ _ ?_ (fun hHeld=>?_)
       ·(try dsimp only);exact HT2'.out
       clear hK K;(try simp only [Act.put,sb,sz,ss]);refine tkA 5 37 ?_;refine tkB 6 38 (v:=?_) ?_ ?_;rotate_left
       ·(intro ww hSw;(try dsimp only at hSw);have q:=fun i=>blk_cell hSw i;have q0:=q 0;have q1:=q 1;have q2:=q 2;have q3:=q 3;have q4:=q 4;have q5:=q 5;have q6:=q 6;have q7:=q 7;have q8:=q 8;have q9:=q 9;have q10:=q 10;have q11:=q 11;simp at q0 q1 q2 q3 q4 q5 q6 q7 q8 q9 q10 q11;clear q;go_simp);(try with_reducible rfl)
       (refine rdA 7 fun K hK=>?_);go_simp;refine (HCP.out _).mono ?_;rintro e1 w3 ⟨rfl,hb3⟩;have HW3:=Hd (HW2.out.upto hX HW2.out.ch.size hb3);have HZ3:=Hd (blk_on HZ2.out hb3 (blk_lt HZ2.out));have HT3':=Hd (blk_on HT2'.out hb3 (blk_lt HT2'.out));clear hb3;(go_wp2_with fail);refine hK.out _ _ ?_ (fun hHeld=>?_)
       ·(try dsimp only);exact HT3'.out
       clear hK K;(try simp only [Act.put,sb,sz,ss]);refine tkA 8 40 ?_;refine tkA 9 41 ?_;(refine rdA 10 fun K hK=>?_);(refine wp_store_row 146 (.tmp 2) (.tmp 32) rfl w.heap.size #[.int .i64 k1,.string (bs x1),.string (bs y1),.string (bs z1),.int .i64 k2,.string (bs x2),.string (bs y2),.string (bs z2),.int .i64 k3,.string (bs x3),.string (bs y3),.string (bs z3)] (by kernel_rfl) (by kernel_rfl) 146 #[.int .i64 0,.string ⟨#[]⟩,.string ⟨#[]⟩,.string ⟨#[]⟩,.int .i64 0,.string ⟨#[]⟩,.string ⟨#[]⟩,.string ⟨#[]⟩,.int .i64 0,.string ⟨#[]⟩,.string ⟨#[]⟩,.string ⟨#[]⟩] HZ3.out (by kernel_rfl) rfl (by kernel_rfl) ?_);change K (Act.put _ none undef) _;(try simp only [Act.put]);refine hK.out _ _ ?_ (fun hHeld=>?_)
       ·(try dsimp only);exact blk_row HT3'.out (by omega) _
       clear hK K;refine tkA 11 3 ?_;refine dnA ?_;go_wp2;exact trip_ret _ _ w.heap.size ⟨⟨k1,x1,y1,z1⟩,⟨k2,x2,y2,z2⟩,⟨k3,x3,y3,z3⟩⟩ false _ (by first|rfl|simp) (by first|rfl|simp) (blk_rowZ HZ3.out _) ⟨by rw [HYY.out.1,HYY.out.2.1];rfl,by rw [HYY.out.2.2];exact HW3.out.upto hX (Nat.le_refl _) (below_row _ _ _ (Nat.le_refl _))⟩
end
section
open Go.RowKit
theorem news_gen (W:World) (T:TypeId) (cs:List Value) {X:Nat} (hX:X=W.heap.size):∀n u,cs[n]?=some u→(W.alloc (.cells cs.toArray T)).cell? ((⟨X,0,none⟩:Addr).add n)=some u:=by
  subst hX
  intro n u hu
  rw [Addr.add_lit,Nat.zero_add,blk_cell (blk_new W T cs.toArray),List.getElem?_toArray]
  exact hu
theorem wt_row {X B size n:Nat} {v:Value} {L:List TokL} {U:QV} {cv:Value} {b:Nat} {w w1:World} {e:TypeId} {rv:Value} {xs:List Value} (h:WT X v L U cv b w w1) (hr:w.ownsRow B e size rv n xs) (hX:X<B):w1.ownsRow B e size rv n xs:=by
  refine⟨hr.1,?_⟩
  rcases hr.2 with h0|⟨g,cap,cur,hv,hg,hh,r⟩
  · exact .inl h0
  · refine .inr ⟨g,cap,cur,hv,hg,?_,r⟩
    rw [h.ch.block g (Array.getElem?_eq_some_iff.1 hh).1 (by omega)]
    exact hh
theorem info_trip:(Tryz.prog.info? 146).map (fun i=>(i.zero,i.size,i.bytes))=some (some zeroTrip.v,12,168):=by kernel_rfl
theorem trip_ok {L:List TokL} {a:Nat} (h:tripOk L a=true):tripGot L a=tripAt L a∧tripEnd L a=a+4:=by
  unfold tripOk at h
  simp only [Bool.and_eq_true] at h
  obtain⟨h3,hs,_⟩:=h
  unfold tripGot tripEnd
  rw [h3]
  unfold trip3 at h3
  simp only [Bool.and_eq_true] at h3
  obtain⟨h0,h1,h2⟩:=h3
  rw [if_pos h0,if_pos h1,if_pos h2,hs]
  exact⟨rfl,rfl⟩
theorem flat_snoc {α:Type} (f:α→List Value) (l:List α) (x:α):(l++[x]).flatMap f=l.flatMap f++f x:=by simp
theorem trip_one (t:TripL):∀u∈tripCells12 t,u.oneCell'=true:=by
  intro u hu
  simp only [tripCells12,termCells,List.cons_append,List.nil_append,List.mem_cons,List.not_mem_nil,or_false] at hu
  rcases hu with rfl|rfl|rfl|rfl|rfl|rfl|rfl|rfl|rfl|rfl|rfl|rfl<;>rfl
def BasR (X:Nat) (v:Value) (L:List TokL) (U:QV) (cv:Value) (w:World) (R:RV TripL) (g:Nat) (m:Bool) (lv:Value) (wr:World):Prop :=
  ∃(a:Nat) (T:List TripL),WT X v L U cv a w wr∧wr.ownsRow w.heap.size 146 12 lv T.length (T.flatMap tripCells12)∧T.length≤a∧(m=true→L.length+1≤a+g)∧(if m=true then tripsM L g a T=R else R=⟨true,a,T⟩)
theorem qbasic_calls {A X:Nat} {v cv:Value} {L:List TokL} {a:Nat} {U:QV} {C:List OpL} {w:World} (h:QRd A X v L a U C cv w) (E:Env L) (hC:C.length≤2000000):Calls Tryz.prog 162 #[.pointer (some ⟨X,0,none⟩)] w fun e w'=>e=.returned (.bool (basicM L a C).ok)∧QT A X v L U cv (basicM L a C).a (basicM L a C).C w w':=by
 have H0:=Hd h;have hX:=blk_lt h.blk;have hle:=h.le;have hL:=E.len;(have HTR:=Hd (fun a W (hW:QRd A X v L a U C cv W)=>wtriple_calls hW E));(have HAH:=Hd (fun a W (hW:QRd A X v L a U C cv W)=>qahead_calls hW E.len));(have HNN:=Hd (fun Y (hY:w.heap.size≤Y)=>new_not h hY));obtain⟨i0,hi,hz0,hz1,hz2⟩:=info_parts info_trip;obtain⟨R,hR⟩:∃R,tripsM L (L.length+1) a []=R:=⟨_,rfl⟩;have HR:=Hd hR;(have HBM:=Hd (show basicM L a C=if R.ok=true then ⟨true,R.a,C++[basicOp R.l],[]⟩ else ⟨false,R.a,C,[]⟩ from by unfold basicM;rw [hR]));clear h E hR;(go_enter Tryz.func162,Tryz.ntmps162);go_wp2;go_loopg [3,4] (L.length+1) (fun g lv mv wr=>∃m,mv=.bool m∧Hid (BasR X v L U cv w R g m lv wr))
 case atStart=>exact⟨true,rfl,Hd ⟨a,[],wt_on H0.out (Below.refl _ _),World.ownsRow_nil _ _ _ _,Nat.zero_le _,fun _=>by omega,by rw [if_pos rfl];exact HR.out⟩⟩
 case round =>
  obtain⟨W1,rfl⟩:∃W1,W1=wr:=⟨_,rfl⟩;obtain⟨m,rfl,hrel⟩:=hrel;obtain⟨b,T,hw,hown,hTb,hfu,hrun⟩:=hrel.out;have HW:=Hd hw;have HQR:=Hd (hw.qrd H0.out);have hbl:=hw.le;have hsz:=hw.ch.size;obtain⟨N,hN⟩:∃N,T.length=N:=⟨_,rfl⟩;have HN:=Hd hN;rw [hN] at hown hTb;have HO:=Hd hown;obtain⟨v5,c5,rfl⟩:=row_slice hown;clear hown hw;cases m with
  | false =>
    (have HRR:=Hd (show R=⟨true,b,T⟩ from by rw [if_neg (by decide)] at hrun;exact hrun));(have HL:=Hd (lay_calls HQR.out (basicOp T) ⟨v5,N,c5,none,0,0,none,0,0,none,0,0⟩ (held_row (S:=hS U X cv) HO.out (fun g hg=>HNN.out g (HO.out.lt g hg).1) (fun w' hw'=>⟨trpA_row hw' HN.out,txt_none _,row_none _,arg_none _⟩)) hC));(simp only [OpL.v,basicOp,bs_nil] at HL);clear hrun hN;(go_wp2_with fail);refine HL.out.mono ?_;rintro e w2 ⟨rfl,h2⟩;have H2:=Hd (qt_trans HW.out.chs h2);clear h2;go_wp2;go_ret;rw [HBM.out,HRR.out,if_pos rfl];exact⟨rfl,H2.out⟩
  | true =>
    (have hfu':=hfu rfl);(obtain⟨g,rfl⟩:∃g,gk=g+1:=⟨gk-1,by omega⟩);have HT:=Hd (HTR.out b _ HQR.out);rw [if_pos rfl,tripsM] at hrun;cases hok:tripOk L b with
    | false =>
      (rw [if_neg (by rw [hok];decide)] at hrun);have HRR:=Hd hrun;rw [hok] at HT;generalize tripGot L b=t at HT;obtain⟨⟨k1,x1,y1,z1⟩,⟨k2,x2,y2,z2⟩,⟨k3,x3,y3,z3⟩⟩:=t;(simp only [TripL.v] at HT);clear hrun hok hN;(go_wp2_with fail);refine HT.out.mono ?_;rintro e w2 ⟨rfl,h2⟩;have H2:=Hd (HW.out.trans h2);clear h2;go_wp2;go_ret;(rw [HBM.out,←HRR.out,if_neg (fun c=>by cases c)]);refine⟨rfl,(H2.out.upto hX H2.out.ch.size ?_).qt H0.out⟩;repeat (with_reducible (first|exact Below.refl _ _|exact box_below _ _|refine Below.drew ?_|refine Below.setCell ?_ (by first|exact Nat.le_refl _|omega|(dsimp only;omega)|(simp;omega)) _|refine Below.alloc ?_ (by first|exact Nat.le_refl _|omega|(simp;done)|(simp;omega)) _))
    | true =>
      rw [if_pos hok] at hrun;obtain⟨hg,he⟩:=trip_ok hok;have h4:=tripOk_at hok;rw [hok,hg,he] at HT;generalize tripAt L b=t at HT hrun;obtain⟨M,hM⟩:∃M,isTrm (tokAt L (b+4))=M:=⟨_,rfl⟩;(have HA:=Hd (fun W hW=>HAH.out (b+4) W hW));(have HIT:=Hd (fun W=>qisTerm_calls (tokAt L (b+4)) W));rw [hM] at HIT hrun;have HRUN:=Hd hrun;have HTC:=Hd (trip_one t);have HFS:=Hd (flat_snoc tripCells12 T t);obtain⟨⟨k1,x1,y1,z1⟩,⟨k2,x2,y2,z2⟩,⟨k3,x3,y3,z3⟩⟩:=t;(simp only [TripL.v] at HT);clear hrun hok hN hg he hM;(go_wp2_with fail);refine HT.out.mono ?_;rintro e w2 ⟨rfl,h2⟩;have H2:=Hd (HW.out.trans h2);have HO2:=Hd (wt_row h2 HO.out hX);have hs2:=h2.ch.size;clear h2;(go_wp2_with (first|(at_builtin;(refine wpList_append_own _ rfl (.tmp 20) (.tmp 22) 51 rfl w.heap.size 146 i0 zeroTrip.v 12 168 Tryz.underlying51 hi hz0 hz1 hz2 rfl (by decide) _ _ _ rfl ((HO2.out.alloc _).alloc _) ⟨w2.heap.size+1,0,none⟩ 1 1 (tripCells12 ⟨⟨k1,x1,y1,z1⟩,⟨k2,x2,y2,z2⟩,⟨k3,x3,y3,z3⟩⟩) rfl rfl (news_gen _ _ _ (by simp)) HTC.out (by unfold maxLen;omega) (by omega) (by simp;omega) ?_;intro v3 w3 hown3 hgrow3 hnil3;clear hnil3;have HO3:=Hd hown3;have HB3:=Hd (Below.grown (B:=w.heap.size) (a:=w2) (by repeat (with_reducible (first|exact Below.refl _ _|exact box_below _ _|refine Below.drew ?_|refine Below.setCell ?_ (by first|exact Nat.le_refl _|omega|(dsimp only;omega)|(simp;omega)) _|refine Below.alloc ?_ (by first|exact Nat.le_refl _|omega|(simp;done)|(simp;omega)) _))) hgrow3 (by simp;omega) (fun q hq=>(HO2.out.lt q hq).1));obtain⟨v6,c6,rfl⟩:=row_slice hown3;clear hown3 hgrow3))|fail));refine (HA.out _ ((H2.out.upto hX (Nat.le_refl _) HB3.out).qrd H0.out)).mono ?_;rintro e w4 ⟨rfl,hb4⟩;have HB4:=Hd hb4;clear hb4;(go_wp2_with fail);refine (HIT.out _).mono ?_;rintro e w5 ⟨rfl,hb5⟩;have HB5:=Hd (HB4.out.trans (hb5.mono HB4.out.size));have hs3:=HB3.out.size;clear hb5;go_wp2;go_roundg g
      case measure=>omega
      case rel =>
       refine⟨M,rfl,Hd ⟨b+4,T++[⟨⟨k1,x1,y1,z1⟩,⟨k2,x2,y2,z2⟩,⟨k3,x3,y3,z3⟩⟩],(H2.out.upto hX (Nat.le_refl _) HB3.out).upto hX (by omega) HB5.out,?_,by rw [List.length_append,List.length_singleton,HN.out];omega,fun _=>by omega,?_⟩⟩
       ·rw [List.length_append,List.length_singleton,HN.out,HFS.out];exact rowOn HO3.out HB5.out
       ·have:=HRUN.out;cases M with
        | true=>rw [if_pos rfl] at this ⊢;exact this
        | false=>rw [if_neg (by decide)] at this ⊢;exact this.symm
end
section
open Go.RowKit
theorem info_term4:(Tryz.prog.info? 67).map (fun i=>(i.zero,i.size,i.bytes))=some (some noTerm.v,4,56):=by kernel_rfl
theorem term_one (t:TermL):∀u∈termCells t,u.oneCell'=true:=by
  intro u hu
  simp only [termCells,List.mem_cons,List.not_mem_nil,or_false] at hu
  rcases hu with rfl|rfl|rfl|rfl<;>rfl
theorem row_low {w:World} {B B' size n:Nat} {e:TypeId} {v:Value} {xs:List Value} (h:w.ownsRow B e size v n xs) (hB:B'≤B):w.ownsRow B' e size v n xs:=by
  refine⟨h.1,?_⟩
  rcases h.2 with h0|⟨g,cap,cur,hv,hg,r⟩
  · exact .inl h0
  · exact .inr ⟨g,cap,cur,hv,Nat.le_trans hB hg,r⟩
def RowT (X:Nat) (v:Value) (L:List TokL) (U:QV) (cv:Value) (r:RV TermL) (w:World) (e:Ending) (w':World):Prop :=
  ∃(ra:Option Addr) (n rc:Nat),e=.returned (.tuple #[.slice ra n rc,.bool r.ok])∧WT X v L U cv r.a w w'∧(r.ok=true→r.l.length=n∧w'.ownsRow w.heap.size 67 4 (.slice ra n rc) n (r.l.flatMap termCells))
def CelR (X:Nat) (v:Value) (L:List TokL) (U:QV) (cv:Value) (w:World) (R:RV TermL) (g:Nat) (lv:Value) (wr:World):Prop :=
  ∃(a:Nat) (T:List TermL),WT X v L U cv a w wr∧wr.ownsRow w.heap.size 67 4 lv T.length (T.flatMap termCells)∧T.length≤a∧L.length+1≤a+g∧cellsM L g a T=R
theorem wrow_calls {A X:Nat} {v cv:Value} {L:List TokL} {a:Nat} {U:QV} {C:List OpL} {w:World} (h:QRd A X v L a U C cv w) (E:Env L):Calls Tryz.prog 212 #[.pointer (some ⟨X,0,none⟩)] w (RowT X v L U cv (rowM L a) w):=by
 have H0:=Hd h;have hX:=blk_lt h.blk;have hle:=h.le;have hL:=E.len;(have HVL:=Hd (fun a W (hW:QRd A X v L a U C cv W)=>wvalue_calls hW E));(have HSG:=Hd (fun K a b W (hW:QRd A X v L a U C cv W) (hK:isW L a 5 s_close=K) (hb:stepA K a=b)=>wsign_calls hW E.len s_close K hK b hb));obtain⟨i0,hi,hz0,hz1,hz2⟩:=info_parts info_term4;(unfold rowM);cases hO:isW L a 5 s_open with
 | false =>
   (rw [if_neg (by decide)]);(have HT1:=Hd (fun W (hW:QRd A X v L a U C cv W)=>wsign_calls hW E.len s_open false hO _ rfl));clear h E hO;(go_enter Tryz.func212,Tryz.ntmps212);(go_wp2_with fail);refine (HT1.out _ H0.out).mono ?_;rintro e w2 ⟨rfl,h2⟩;have H2:=Hd h2;clear h2;go_wp2;(refine bodyPost_ret (v:=.tuple #[.slice none 0 0,.bool false]) (by simp [results,Tryz.results212,go_sem]) rfl ?_);exact⟨none,0,0,rfl,H2.out,fun c=>by cases c⟩
 | true =>
   rw [if_pos rfl];(have HT1:=Hd (fun W (hW:QRd A X v L a U C cv W)=>wsign_calls hW E.len s_open true hO _ rfl));have hal:=isW_lt hO;obtain⟨R,hR⟩:∃R,cellsM L (L.length+1) (a+1) []=R:=⟨_,rfl⟩;have HR:=Hd hR;rw [hR];clear h E hO hR;(go_enter Tryz.func212,Tryz.ntmps212);(go_wp2_with fail);refine (HT1.out _ H0.out).mono ?_;rintro e w2 ⟨rfl,h2⟩;have H2:=Hd h2;clear h2;go_wp2;go_loopg [4] (L.length+1) (fun g lv wr=>Hid (CelR X v L U cv w R g lv wr))
   case atStart=>exact Hd ⟨a+1,[],H2.out,World.ownsRow_nil _ _ _ _,Nat.zero_le _,by omega,HR.out⟩
   case round =>
    obtain⟨W1,rfl⟩:∃W1,W1=wr:=⟨_,rfl⟩;obtain⟨b,T,hw,hown,hTb,hfu,hrun⟩:=hrel.out;have HW:=Hd hw;have HQR:=Hd (hw.qrd H0.out);have hbl:=hw.le;have hsz:=hw.ch.size;obtain⟨N,hN⟩:∃N,T.length=N:=⟨_,rfl⟩;have HN:=Hd hN;rw [hN] at hown hTb;have HO:=Hd hown;obtain⟨v5,c5,rfl⟩:=row_slice hown;(obtain⟨g,rfl⟩:∃g,gk=g+1:=⟨gk-1,by omega⟩);rw [cellsM] at hrun;clear hown hw hrel;cases hK:isW L b 5 s_close with
    | true =>
      rw [if_pos hK] at hrun;have HRR:=Hd hrun;have HS:=Hd (HSG.out true b (b+1) _ HQR.out hK rfl);clear hrun hK hN;(go_wp2_with fail);refine HS.out.mono ?_;rintro e w3 ⟨rfl,h3⟩;have H3:=Hd (HW.out.trans h3);have HO3:=Hd (wt_row h3 HO.out hX);clear h3;go_wp2;(refine bodyPost_ret (v:=.tuple #[.slice v5 N c5,.bool true]) (by simp [results,Tryz.results212,go_sem]) rfl ?_);rw [←HRR.out];exact⟨v5,N,c5,rfl,H3.out,fun _=>⟨HN.out,HO3.out⟩⟩
    | false =>
      (rw [if_neg (by rw [hK];decide)] at hrun);have HS:=Hd (HSG.out false b b _ HQR.out hK rfl);(have HV:=Hd (fun W hW=>HVL.out b W hW));cases hV:valOk L b with
      | false =>
        (rw [if_neg (by rw [hV];decide)] at hrun);have HRR:=Hd hrun;rw [hV] at HV;generalize valAt L b=u at HV;obtain⟨uk,ux,uy,uz⟩:=u;(simp only [TermL.v] at HV);clear hrun hK hV hN;(go_wp2_with fail);refine HS.out.mono ?_;rintro e w3 ⟨rfl,h3⟩;have H3:=Hd (HW.out.trans h3);clear h3;(go_wp2_with fail);refine (HV.out _ (H3.out.qrd H0.out)).mono ?_;rintro e w4 ⟨rfl,h4⟩;have H4:=Hd (H3.out.trans h4);clear h4;go_wp2;(refine bodyPost_ret (v:=.tuple #[.slice none 0 0,.bool false]) (by simp [results,Tryz.results212,go_sem]) rfl ?_);rw [←HRR.out];(refine⟨none,0,0,rfl,H4.out.upto hX H4.out.ch.size ?_,fun c=>by cases c⟩);repeat (with_reducible (first|exact Below.refl _ _|exact box_below _ _|refine Below.drew ?_|refine Below.setCell ?_ (by first|exact Nat.le_refl _|omega|(dsimp only;omega)|(simp;omega)) _|refine Below.alloc ?_ (by first|exact Nat.le_refl _|omega|(simp;done)|(simp;omega)) _))
      | true =>
        rw [if_pos hV] at hrun;have hbl2:=valOk_lt hV;have HNA:=Hd (nextA_at hbl2);rw [hV] at HV;generalize valAt L b=u at HV hrun;have HRUN:=Hd hrun;have HTC:=Hd (term_one u);have HFS:=Hd (flat_snoc termCells T u);obtain⟨uk,ux,uy,uz⟩:=u;(simp only [TermL.v] at HV);clear hrun hK hV hN;(go_wp2_with fail);refine HS.out.mono ?_;rintro e w3 ⟨rfl,h3⟩;have H3:=Hd (HW.out.trans h3);have HO3:=Hd (wt_row h3 HO.out hX);clear h3;(go_wp2_with fail);refine (HV.out _ (H3.out.qrd H0.out)).mono ?_;rintro e w4 ⟨rfl,h4⟩;have h4':=h4;rw [HNA.out] at h4';have H4:=Hd (H3.out.trans h4');have HO4:=Hd (wt_row h4 HO3.out hX);have hs4:=H4.out.ch.size;clear h4 h4';(go_wp2_with (first|(at_builtin;(refine wpList_append_own _ rfl (.tmp 24) (.tmp 26) 134 rfl w.heap.size 67 i0 noTerm.v 4 56 Tryz.underlying134 hi hz0 hz1 hz2 rfl (by decide) _ _ _ rfl ((HO4.out.alloc _).alloc _) ⟨w4.heap.size+1,0,none⟩ 1 1 (termCells ⟨uk,ux,uy,uz⟩) rfl rfl (news_gen _ _ _ (by simp)) HTC.out (by unfold maxLen;omega) (by omega) (by simp;omega) ?_;intro v7 w7 hown7 hgrow7 hnil7;clear hnil7;have HO7:=Hd hown7;have HB7:=Hd (Below.grown (B:=w.heap.size) (a:=w4) (by repeat (with_reducible (first|exact Below.refl _ _|exact box_below _ _|refine Below.drew ?_|refine Below.setCell ?_ (by first|exact Nat.le_refl _|omega|(dsimp only;omega)|(simp;omega)) _|refine Below.alloc ?_ (by first|exact Nat.le_refl _|omega|(simp;done)|(simp;omega)) _))) hgrow7 (by simp;omega) (fun q hq=>(HO4.out.lt q hq).1));obtain⟨v6,c6,rfl⟩:=row_slice hown7;clear hown7 hgrow7))|fail));go_roundg g
        case measure=>omega
        case rel =>
         (refine Hd ⟨b+1,T++[⟨uk,ux,uy,uz⟩],H4.out.upto hX (Nat.le_refl _) HB7.out,?_,by rw [List.length_append,List.length_singleton,HN.out];omega,by omega,HRUN.out⟩);rw [List.length_append,List.length_singleton,HN.out,HFS.out];exact HO7.out
end
section
open Go.RowKit
theorem info_str:(Tryz.prog.info? 9).map (fun i=>(i.zero,i.size,i.bytes))=some (some (.string ⟨#[]⟩),1,16):=by kernel_rfl
theorem info_trow:(Tryz.prog.info? 134).map (fun i=>(i.zero,i.size,i.bytes))=some (some (.slice none 0 0),1,24):=by kernel_rfl
theorem row_at {w w':World} {B size n:Nat} {e:TypeId} {v:Value} {xs:List Value} (h:w.ownsRow B e size v n xs) (hs:∀g,v.ownBlock=some g→w'.heap[g]?=w.heap[g]?):w'.ownsRow B e size v n xs:=by
  refine⟨h.1,?_⟩
  rcases h.2 with h0|⟨g,cap,cur,hv,hg,hh,r⟩
  · exact .inl h0
  · exact .inr ⟨g,cap,cur,hv,hg,by rw [hs g (by rw [hv];rfl)];exact hh,r⟩
theorem own_kind {w:World} {B size n g:Nat} {e:TypeId} {v:Value} {xs:List Value} (h:w.ownsRow B e size v n xs) (hg:v.ownBlock=some g):∃cur,w.heap[g]?=some (.cells cur e (0,0)):=by
  rcases h.2 with ⟨rfl,_⟩|⟨g',cap,cur,rfl,_,hh,_⟩
  · simp [Value.ownBlock] at hg
  · simp only [Value.ownBlock,Option.some.injEq] at hg
    subst hg
    exact⟨cur,hh⟩
theorem kind_apart {w:World} {B size n Y:Nat} {e T:TypeId} {v:Value} {xs:List Value} {cs:Array Value} (h:w.ownsRow B e size v n xs) (hY:Blk w Y T cs) (he:e≠T):∀g,v.ownBlock=some g→g≠Y:=by
  rintro g hg rfl
  obtain⟨cur,hh⟩:=own_kind h hg
  unfold Blk at hY
  rw [hh] at hY
  simp only [Option.some.injEq,Obj.cells.injEq] at hY
  exact he hY.2.1
theorem kind_apart2 {w:World} {B size n B' size' n':Nat} {e e':TypeId} {v v':Value} {xs xs':List Value} (h:w.ownsRow B e size v n xs) (h':w.ownsRow B' e' size' v' n' xs') (he:e≠e'):∀g,v.ownBlock=some g→v'.ownBlock≠some g:=by
  intro g hg hg'
  obtain⟨cur,hh⟩:=own_kind h hg
  obtain⟨cur',hh'⟩:=own_kind h' hg'
  rw [hh] at hh'
  simp only [Option.some.injEq,Obj.cells.injEq] at hh'
  exact he hh'.2.1
theorem grown_one {w w3:World} {o:Obj} {row:Option Nat} (h:(w.alloc o).grownBy w3 row):w.grownBy w3 row:=by
  refine⟨h.os,h.tape,h.output,?_,fun k hk hr=>?_⟩
  · have:=h.size
    simp at this
    omega
  · rw [h.block k (by simp;omega) hr]
    exact alloc_old _ _ hk
theorem grown_blk {w w3:World} {Y:Nat} {T:TypeId} {cs:Array Value} {rv:Value} (h:w.grownBy w3 rv.ownBlock) (hY:Blk w Y T cs) (hne:∀g,rv.ownBlock=some g→g≠Y):Blk w3 Y T cs:=by
  unfold Blk
  rw [h.block Y (blk_lt hY) (fun e=>hne Y e.symm rfl)]
  exact hY
theorem row_setY {w:World} {B size n Y i:Nat} {e:TypeId} {v u:Value} {xs:List Value} (h:w.ownsRow B e size v n xs) (hne:∀g,v.ownBlock=some g→g≠Y):(w.setCell ⟨Y,i,none⟩ u).ownsRow B e size v n xs :=
  row_at h fun g hg=>heap_setCell_other w ⟨Y,i,none⟩ g u (fun c=>hne g hg (by simpa using c))
theorem grown_belowQ {B:Nat} {w w3:World} {rv:Value} (h:w.grownBy w3 rv.ownBlock) (hB:∀g,rv.ownBlock=some g→B≤g) (hs:B≤w.heap.size):Below B w w3:=(Below.refl B w).grown h hs hB
structure RSl where
  a:Option Addr
  c:Nat
  R:List TermL
def RSl.v (p:RSl):Value:=.slice p.a p.R.length p.c
def NamR (X:Nat) (v:Value) (L:List TokL) (U:QV) (cv:Value) (w:World) (R:RV (List UInt8)) (g:Nat) (wr:World):Prop :=
  ∃(a:Nat) (V:List (List UInt8)) (vv:Value),WT X v L U cv a w wr∧Blk wr w.heap.size 54 #[vv,.slice none 0 0]∧wr.ownsRow w.heap.size 9 1 vv V.length (textCells V)∧V.length≤a∧L.length+1≤a+g∧namesM L g a V=R
def RwsR (X:Nat) (v:Value) (L:List TokL) (U:QV) (cv:Value) (w:World) (vv:Value) (V:List (List UInt8)) (R:RV (List TermL)) (g:Nat) (wr:World):Prop :=
  ∃(a:Nat) (PR:List RSl) (rv:Value),WT X v L U cv a w wr∧Blk wr w.heap.size 54 #[vv,rv]∧wr.ownsRow w.heap.size 9 1 vv V.length (textCells V)∧wr.ownsRow w.heap.size 134 1 rv PR.length (PR.map RSl.v)∧(∀p∈PR,wr.ownsRow w.heap.size 67 4 (.slice p.a p.R.length p.c) p.R.length (p.R.flatMap termCells))∧PR.length≤a∧L.length+1≤a+g∧rowsM L g a (PR.map RSl.R)=R
theorem rowA_row {w:World} {B n c:Nat} {a:Option Addr} {PR:List RSl} (h:w.ownsRow B 134 1 (.slice a n c) n (PR.map RSl.v)) (hl:PR.length=n) (hp:∀p∈PR,w.ownsRow B 67 4 (.slice p.a p.R.length p.c) p.R.length (p.R.flatMap termCells)):RowA w a n c (PR.map RSl.R):=by
 obtain⟨h1,h2,h3⟩:=row_lens h;(refine⟨by rw [List.length_map];exact hl,h1,h2,fun h0=>?_⟩);obtain⟨g,rfl,hg⟩:=h3 h0;(refine⟨g,0,rfl,hg,fun j hj=>?_⟩);rw [List.length_map] at hj;rw [List.getElem_map];refine⟨(PR[j]).a,(PR[j]).c,?_,trmA_row (hp _ (List.getElem_mem hj)) rfl⟩;rw [row_cell h (by omega),List.getElem?_map,List.getElem?_eq_getElem hj];rfl
theorem values_held {S:Nat→Prop} {w:World} {B n1 c1 n2 c2:Nat} {a1 a2:Option Addr} {V:List (List UInt8)} {PR:List RSl} (hv:w.ownsRow B 9 1 (.slice a1 n1 c1) n1 (textCells V)) (hV:V.length=n1) (hr:w.ownsRow B 134 1 (.slice a2 n2 c2) n2 (PR.map RSl.v)) (hR:PR.length=n2)
    (hp:∀p∈PR,w.ownsRow B 67 4 (.slice p.a p.R.length p.c) p.R.length (p.R.flatMap termCells)) (hS:∀g,B≤g→¬S g):Held S w fun w'=>OpIn w' (tableOp V (PR.map RSl.R)) ⟨none,0,0,a1,n1,c1,a2,n2,c2,none,0,0⟩:=fun _ ha =>
  ⟨trp_none _,txtA_row (ag_row hv ha fun g hg=>hS g (hv.lt g hg).1) hV,rowA_row (ag_row hr ha fun g hg=>hS g (hr.lt g hg).1) hR (fun p hm=>ag_row (hp p hm) ha fun g hg=>hS g ((hp p hm).lt g hg).1),arg_none _⟩
theorem qvalues_calls {A X:Nat} {v cv:Value} {L:List TokL} {a:Nat} {U:QV} {C:List OpL} {w:World} (h:QRd A X v L a U C cv w) (E:Env L) (hC:C.length≤2000000):Calls Tryz.prog 159 #[.pointer (some ⟨X,0,none⟩)] w fun e w'=>e=.returned (.bool (valuesM L a C).ok)∧QT A X v L U cv (valuesM L a C).a (valuesM L a C).C w w':=by
 have H0:=Hd h;have hX:=blk_lt h.blk;have hle:=h.le;have hL:=E.len;(have HSG:=Hd (fun s K a b W (hW:QRd A X v L a U C cv W) (hK:isW L a 5 s=K) (hb:stepA K a=b)=>wsign_calls hW E.len s K hK b hb));(have HVR:=Hd (fun a W (hW:QRd A X v L a U C cv W)=>wvar_calls hW E.len (E.tok a)));(have HRW:=Hd (fun a W (hW:QRd A X v L a U C cv W)=>wrow_calls hW E));(have HNN:=Hd (fun Y (hY:w.heap.size≤Y)=>new_not h hY));obtain⟨i0,hi,hz0,hz1,hz2⟩:=info_parts info_str;obtain⟨j0,ji,jz0,jz1,jz2⟩:=info_parts info_trow;have HY0:=Hd (blk_new w 54 #[.slice none 0 0,.slice none 0 0]);(have hyX:w.heap.size≠X:=by omega);cases hO:isW L a 5 s_open with
 | false =>
   (have HV0:=Hd (show valuesM L a C=⟨false,a,C,[]⟩ from by unfold valuesM;rw [if_neg (by rw [hO];decide)]));(have HT1:=Hd (fun W hW=>HSG.out s_open false a a W hW hO rfl));clear h E hO HRW HVR;(go_enter Tryz.func159,Tryz.ntmps159);(go_wp2_with fail);refine (HT1.out _ (H0.out.alloc _)).mono ?_;rintro e w2 ⟨rfl,h2⟩;have H2:=Hd ((wt_on H0.out (box_below w (.cells #[.slice none 0 0,.slice none 0 0] 54))).trans h2);clear h2;go_wp2;go_ret;exact⟨by rw [HV0.out];rfl,by rw [HV0.out];exact (H2.out.upto hX H2.out.ch.size (by repeat (with_reducible (first|exact Below.refl _ _|exact box_below _ _|refine Below.drew ?_|refine Below.setCell ?_ (by first|exact Nat.le_refl _|omega|(dsimp only;omega)|(simp;omega)) _|refine Below.alloc ?_ (by first|exact Nat.le_refl _|omega|(simp;done)|(simp;omega)) _)))).qt H0.out⟩
 | true =>
   have hal:=isW_lt hO;(have HT1:=Hd (fun W hW=>HSG.out s_open true a (a+1) W hW hO rfl));obtain⟨R1,hR1⟩:∃R1,namesM L (L.length+1) (a+1) []=R1:=⟨_,rfl⟩;have HR1:=Hd hR1;(have HV0:=Hd (show valuesM L a C=if R1.ok=true then if isW L R1.a 5 s_begin=true then if (rowsM L (L.length+1) (R1.a+1) []).ok=true then ⟨true,(rowsM L (L.length+1) (R1.a+1) []).a,C++[tableOp R1.l (rowsM L (L.length+1) (R1.a+1) []).l],[]⟩ else ⟨false,(rowsM L (L.length+1) (R1.a+1) []).a,C,[]⟩ else ⟨false,R1.a,C,[]⟩ else ⟨false,R1.a,C,[]⟩ from by unfold valuesM;rw [if_pos hO,hR1]));clear h E hO hR1;(go_enter Tryz.func159,Tryz.ntmps159);(go_wp2_with fail);refine (HT1.out _ (H0.out.alloc _)).mono ?_;rintro e w2 ⟨rfl,h2⟩;have H2:=Hd ((wt_on H0.out (box_below w (.cells #[.slice none 0 0,.slice none 0 0] 54))).trans h2);have HY2:=Hd (h2.sameAt HY0.out hyX);clear h2;go_wp2;go_loopg [] (L.length+1) (fun g wr=>Hid (NamR X v L U cv w R1 g wr))
   case atStart=>exact Hd ⟨a+1,[],.slice none 0 0,H2.out,HY2.out,World.ownsRow_nil _ _ _ _,Nat.zero_le _,by omega,HR1.out⟩
   case round =>
    obtain⟨W1,rfl⟩:∃W1,W1=wr:=⟨_,rfl⟩;obtain⟨b,V,vv,hw,hy,hown,hVb,hfu,hrun⟩:=hrel.out;have HW:=Hd hw;have HQR:=Hd (hw.qrd H0.out);have hbl:=hw.le;have hsz:=hw.ch.size;obtain⟨N,hN⟩:∃N,V.length=N:=⟨_,rfl⟩;have HN:=Hd hN;rw [hN] at hown hVb;have HO:=Hd hown;obtain⟨v5,c5,rfl⟩:=row_slice hown;have HY:=Hd hy;(obtain⟨g,rfl⟩:∃g,gk=g+1:=⟨gk-1,by omega⟩);rw [namesM] at hrun;clear hown hw hrel hy;cases hK:isW L b 5 s_close with
    | false =>
      (rw [if_neg (by rw [hK];decide)] at hrun);have HS:=Hd (HSG.out s_close false b b _ HQR.out hK rfl);(have HV:=Hd (fun W hW=>HVR.out b W hW));cases hV:isVar (tokAt L b) with
      | false =>
        (rw [if_neg (by rw [hV];decide)] at hrun);(have HV1:=Hd (show valuesM L a C=⟨false,nextA L b,C,[]⟩ from by rw [HV0.out,←hrun];rfl));rw [hV] at HV;generalize (tokAt L b).x=x at HV;clear hrun hK hV hN;(go_wp2_with fail);refine HS.out.mono ?_;rintro e w3 ⟨rfl,h3⟩;have H3:=Hd (HW.out.trans h3);clear h3;(go_wp2_with fail);refine (HV.out _ (H3.out.qrd H0.out)).mono ?_;rintro e w4 ⟨rfl,h4⟩;have H4:=Hd (H3.out.trans h4);clear h4;go_wp2;go_ret;exact⟨by rw [HV1.out];rfl,by rw [HV1.out];exact (H4.out.upto hX H4.out.ch.size (by repeat (with_reducible (first|exact Below.refl _ _|exact box_below _ _|refine Below.drew ?_|refine Below.setCell ?_ (by first|exact Nat.le_refl _|omega|(dsimp only;omega)|(simp;omega)) _|refine Below.alloc ?_ (by first|exact Nat.le_refl _|omega|(simp;done)|(simp;omega)) _)))).qt H0.out⟩
      | true =>
        rw [if_pos hV] at hrun;have hbl2:=isVar_lt hV;have HNA:=Hd (nextA_at hbl2);rw [hV] at HV;generalize (tokAt L b).x=x at HV hrun;have HRUN:=Hd hrun;have HTC:=Hd (textCells_append V [x]);clear hrun hK hV hN;(go_wp2_with fail);refine HS.out.mono ?_;rintro e w3 ⟨rfl,h3⟩;have H3:=Hd (HW.out.trans h3);have HO3:=Hd (wt_row h3 HO.out hX);have HY3:=Hd (h3.sameAt HY.out hyX);clear h3;(go_wp2_with fail);refine (HV.out _ (H3.out.qrd H0.out)).mono ?_;rintro e w4 ⟨rfl,h4⟩;have HO4:=Hd (wt_row h4 HO3.out hX);have HY4:=Hd (h4.sameAt HY3.out hyX);rw [HNA.out] at h4;have H4:=Hd (H3.out.trans h4);have hs4:=H4.out.ch.size;have y4:=blk_cell HY4.out 0;(simp at y4);clear h4;(go_wp2_with (first|(at_builtin;(refine wpList_append_own _ rfl (.tmp 28) (.tmp 30) 22 rfl w.heap.size 9 i0 (.string ⟨#[]⟩) 1 16 Tryz.underlying22 hi hz0 hz1 hz2 rfl (by decide) _ _ _ rfl (HO4.out.alloc _) ⟨w4.heap.size,0,none⟩ 1 1 [.string (bs x)] rfl rfl (news_gen _ _ _ rfl) (by intro u hu;simp at hu;subst hu;rfl) (by unfold maxLen;omega) (by omega) (by simp;omega) ?_;intro v7 w7 hown7 hgrow7 hnil7;clear hnil7;obtain⟨v6,c6,rfl⟩:=row_slice hown7;have HO7:=Hd hown7;have HG7:=Hd (grown_one hgrow7);have hy7:=grown_blk HG7.out HY4.out (kind_apart HO4.out HY4.out (by decide));have HY7:=Hd hy7;have HN7:=Hd (kind_apart hown7 hy7 (by decide));have y7:=blk_cell hy7 0;have f7:=(fun i=>blk_free hy7 i);simp at y7;clear hown7 hgrow7 hy7))|fail));go_roundg g
        case measure=>omega
        case rel =>
         (refine Hd ⟨b+1,V++[x],.slice v6 (N+1) c6,(H4.out.upto hX (Nat.le_refl _) (grown_belowQ HG7.out (fun q hq=>(HO4.out.lt q hq).1) hs4)).upto hX (Nat.le_refl _) (Below.setCell (p:=⟨w.heap.size,0,none⟩) (Below.refl _ _) (Nat.le_refl _) _),by simpa using blk_set HY7.out 0 (.slice v6 (N+1) c6),?_,by rw [List.length_append,List.length_singleton,HN.out];omega,by omega,HRUN.out⟩);rw [List.length_append,List.length_singleton,HN.out,HTC.out];exact row_setY HO7.out HN7.out
    | true =>
      rw [if_pos hK] at hrun;have HS:=Hd (HSG.out s_close true b (b+1) _ HQR.out hK rfl);have hblt:=isW_lt hK;(have HV1:=Hd (show valuesM L a C=if isW L (b+1) 5 s_begin=true then if (rowsM L (L.length+1) (b+1+1) []).ok=true then ⟨true,(rowsM L (L.length+1) (b+1+1) []).a,C++[tableOp V (rowsM L (L.length+1) (b+1+1) []).l],[]⟩ else ⟨false,(rowsM L (L.length+1) (b+1+1) []).a,C,[]⟩ else ⟨false,b+1,C,[]⟩ from by rw [HV0.out,←hrun,if_pos rfl]));clear hrun hK hN;cases hB:isW L (b+1) 5 s_begin with
      | false =>
        (have HV2:=Hd (show valuesM L a C=⟨false,b+1,C,[]⟩ from by rw [HV1.out,if_neg (by rw [hB];decide)]));(have HS2:=Hd (fun W hW=>HSG.out s_begin false (b+1) (b+1) W hW hB rfl));clear hB;(go_wp2_with fail);refine HS.out.mono ?_;rintro e w3 ⟨rfl,h3⟩;have H3:=Hd (HW.out.trans h3);clear h3;(go_wp2_with fail);refine (HS2.out _ (H3.out.qrd H0.out)).mono ?_;rintro e w4 ⟨rfl,h4⟩;have H4:=Hd (H3.out.trans h4);clear h4;go_wp2;go_ret;exact⟨by rw [HV2.out];rfl,by rw [HV2.out];exact (H4.out.upto hX H4.out.ch.size (by repeat (with_reducible (first|exact Below.refl _ _|exact box_below _ _|refine Below.drew ?_|refine Below.setCell ?_ (by first|exact Nat.le_refl _|omega|(dsimp only;omega)|(simp;omega)) _|refine Below.alloc ?_ (by first|exact Nat.le_refl _|omega|(simp;done)|(simp;omega)) _)))).qt H0.out⟩
      | true =>
        have hblt2:=isW_lt hB;obtain⟨R2,hR2⟩:∃R2,rowsM L (L.length+1) (b+1+1) []=R2:=⟨_,rfl⟩;have HR2:=Hd hR2;(have HV2:=Hd (show valuesM L a C=if R2.ok=true then ⟨true,R2.a,C++[tableOp V R2.l],[]⟩ else ⟨false,R2.a,C,[]⟩ from by rw [HV1.out,if_pos hB,hR2]));(have HS2:=Hd (fun W hW=>HSG.out s_begin true (b+1) (b+1+1) W hW hB rfl));clear hB hR2;(go_wp2_with fail);refine HS.out.mono ?_;rintro e w3 ⟨rfl,h3⟩;have H3:=Hd (HW.out.trans h3);have HO3:=Hd (wt_row h3 HO.out hX);have HY3:=Hd (h3.sameAt HY.out hyX);clear h3;(go_wp2_with fail);refine (HS2.out _ (H3.out.qrd H0.out)).mono ?_;rintro e w4 ⟨rfl,h4⟩;have H4:=Hd (H3.out.trans h4);have HO4:=Hd (wt_row h4 HO3.out hX);have HY4:=Hd (h4.sameAt HY3.out hyX);clear h4;go_wp2;go_loopg [] (L.length+1) (fun g wr=>Hid (RwsR X v L U cv w (.slice v5 N c5) V R2 g wr))
        case atStart=>exact Hd ⟨b+1+1,[],.slice none 0 0,H4.out,HY4.out,by rw [HN.out];exact HO4.out,World.ownsRow_nil _ _ _ _,fun p hp=>absurd hp List.not_mem_nil,Nat.zero_le _,by omega,HR2.out⟩
        case round =>
         obtain⟨W2,rfl⟩:∃W2,W2=wr:=⟨_,rfl⟩;obtain⟨b2,PR,rv,hw,hy,hown,hrow,hall,hPb,hfu,hrun⟩:=hrel.out;have HW2:=Hd hw;have HQR2:=Hd (hw.qrd H0.out);have hbl2:=hw.le;have hsz2:=hw.ch.size;rw [HN.out] at hown;obtain⟨M,hM⟩:∃M,PR.length=M:=⟨_,rfl⟩;have HM:=Hd hM;rw [hM] at hrow hPb;have HOV:=Hd hown;have HP:=Hd hrow;have HALL:=Hd hall;have HY5:=Hd hy;obtain⟨r5,d5,rfl⟩:=row_slice hrow;(obtain⟨g,rfl⟩:∃g,gk=g+1:=⟨gk-1,by omega⟩);rw [rowsM] at hrun;clear hown hw hrel hy hrow hall hM;cases hK2:isW L b2 5 s_end with
         | true =>
           rw [if_pos hK2] at hrun;(have HVV:=Hd (show valuesM L a C=⟨true,b2+1,C++[tableOp V (PR.map RSl.R)],[]⟩ from by rw [HV2.out,←hrun,if_pos rfl]));have HS3:=Hd (HSG.out s_end true b2 (b2+1) _ HQR2.out hK2 rfl);(have HLAY:=Hd (fun W (hW:QRd A X v L (b2+1) U C cv W) h=>lay_calls hW (tableOp V (PR.map RSl.R)) ⟨none,0,0,v5,N,c5,r5,M,d5,none,0,0⟩ h hC));(simp only [OpL.v,tableOp,bs_nil] at HLAY);clear hrun hK2;(go_wp2_with fail);refine HS3.out.mono ?_;rintro e w5 ⟨rfl,h5⟩;have H5:=Hd (HW2.out.trans h5);have HO5:=Hd (wt_row h5 HOV.out hX);have HP5:=Hd (wt_row h5 HP.out hX);(have HA5:=Hd (fun p (hp:p∈PR)=>wt_row h5 (HALL.out p hp) hX));have hy5:=h5.sameAt HY5.out hyX;have y0:=blk_cell hy5 0;have y1:=blk_cell hy5 1;(simp at y0 y1);clear h5 hy5;(go_wp2_with fail);refine (HLAY.out _ (H5.out.qrd H0.out) (values_held HO5.out HN.out HP5.out HM.out HA5.out HNN.out)).mono ?_;rintro e w6 ⟨rfl,h6⟩;have H6:=Hd (qt_trans H5.out.chs h6);clear h6;go_wp2;go_ret;exact⟨by rw [HVV.out];rfl,by rw [HVV.out];exact H6.out⟩
         | false =>
           (rw [if_neg (by rw [hK2];decide)] at hrun);have HS3:=Hd (HSG.out s_end false b2 b2 _ HQR2.out hK2 rfl);(have HRR:=Hd (fun W hW=>HRW.out b2 W hW));have hrm:=row_most hbl2;cases hV3:(rowM L b2).ok with
           | false =>
             (rw [if_neg (by rw [hV3];decide)] at hrun);(have HV3:=Hd (show valuesM L a C=⟨false,(rowM L b2).a,C,[]⟩ from by rw [HV2.out,←hrun];rfl));generalize rowM L b2=RR at HRR HV3 hV3;obtain⟨ok,ra',rl⟩:=RR;dsimp only at hV3;subst hV3;clear hrun hK2 hrm;(go_wp2_with fail);refine HS3.out.mono ?_;rintro e w5 ⟨rfl,h5⟩;have H5:=Hd (HW2.out.trans h5);clear h5;(go_wp2_with fail);refine (HRR.out _ (H5.out.qrd H0.out)).mono ?_;rintro e w6 ⟨ra,n,rc,rfl,h6,_⟩;have H6:=Hd (H5.out.trans h6);clear h6;go_wp2;go_ret;exact⟨by rw [HV3.out];rfl,by rw [HV3.out];exact (H6.out.upto hX H6.out.ch.size (by repeat (with_reducible (first|exact Below.refl _ _|exact box_below _ _|refine Below.drew ?_|refine Below.setCell ?_ (by first|exact Nat.le_refl _|omega|(dsimp only;omega)|(simp;omega)) _|refine Below.alloc ?_ (by first|exact Nat.le_refl _|omega|(simp;done)|(simp;omega)) _)))).qt H0.out⟩
           | true =>
             rw [if_pos hV3] at hrun;have hrm1:=hrm.2.2.1 hV3;generalize rowM L b2=RR at HRR hrun hV3 hrm hrm1;obtain⟨ok,ra',rl⟩:=RR;dsimp only at hV3 hrun hrm hrm1;subst hV3;have HRUN:=Hd hrun;have hrm2:=hrm.2.1;clear hrun hK2 hrm;(go_wp2_with fail);refine HS3.out.mono ?_;rintro e w3' ⟨rfl,h5⟩;have H5:=Hd (HW2.out.trans h5);have HO5:=Hd (wt_row h5 HOV.out hX);have HP5:=Hd (wt_row h5 HP.out hX);(have HA5:=Hd (fun p (hp:p∈PR)=>wt_row h5 (HALL.out p hp) hX));have HY6:=Hd (h5.sameAt HY5.out hyX);clear h5;have HSZ:=Hd H5.out.ch.size;clear HO4 HY4 H4;(go_wp2_with fail);refine (HRR.out _ (H5.out.qrd H0.out)).mono ?_;clear w4;rintro e w4 ⟨ra,n,rc,rfl,h6,hrw⟩;(obtain⟨hrl,hrw⟩:=hrw rfl);(have HRL:=Hd (show rl.length=n from hrl));have HRO:=Hd (row_low hrw HSZ.out);have H6:=Hd (H5.out.trans h6);have HO6:=Hd (wt_row h6 HO5.out hX);have HP4:=Hd (wt_row h6 HP5.out hX);(have HA6:=Hd (fun p (hp:p∈PR)=>wt_row h6 (HA5.out p hp) hX));have HY4:=Hd (h6.sameAt HY6.out hyX);have hs4:=H6.out.ch.size;have y4:=blk_cell HY4.out 1;(simp at y4);clear h6 hrw hrl;(go_wp2_with (at_builtin;go_must (refine wpList_append_own _ rfl (.tmp 51) (.tmp 53) 52 rfl w.heap.size 134 j0 (.slice none 0 0) 1 24 Tryz.underlying52 ji jz0 jz1 jz2 rfl (by decide) _ _ _ rfl (HP4.out.alloc _) ⟨w4.heap.size,0,none⟩ 1 1 [.slice ra n rc] rfl rfl (news_gen _ _ _ rfl) (by intro u hu;simp at hu;subst hu;rfl) (by unfold maxLen;omega) (by omega) (by simp;omega) ?_;intro v7 w7 hown7 hgrow7 hnil7;clear hnil7;obtain⟨v6,c6,rfl⟩:=row_slice hown7;have HO7:=Hd hown7;have HG7:=Hd (grown_one hgrow7);have hy7:=grown_blk HG7.out HY4.out (kind_apart HP4.out HY4.out (by decide));have HY7:=Hd hy7;have HN7:=Hd (kind_apart hown7 hy7 (by decide));have y7:=blk_cell hy7 1;have f7:=(fun i=>blk_free hy7 i);simp at y7;clear hown7 hgrow7 hy7)));go_roundg g
             case measure=>omega
             case rel =>
              have hk1:∀(B size n:Nat) (e:TypeId) (vv:Value) (xs:List Value),w4.ownsRow B e size vv n xs→e≠134→e≠54→(w7.setCell ⟨w.heap.size,1,none⟩ (.slice v6 (M+1) c6)).ownsRow B e size vv n xs:=fun B size n e vv xs h1 h2 h3=>by
               (refine row_at h1 fun q hq=>?_);(rw [heap_setCell_other w7 ⟨w.heap.size,1,none⟩ q _ (fun c=>kind_apart h1 HY4.out h3 q hq (by simpa using c))]);exact HG7.out.block q (h1.lt q hq).2 (fun c=>kind_apart2 h1 HP4.out h2 q hq c.symm)
              refine Hd ⟨ra',PR++[⟨ra,rc,rl⟩],.slice v6 (M+1) c6,(H6.out.upto hX (Nat.le_refl _) (grown_belowQ HG7.out (fun q hq=>(HP4.out.lt q hq).1) hs4)).upto hX (Nat.le_refl _) (Below.setCell (p:=⟨w.heap.size,1,none⟩) (Below.refl _ _) (Nat.le_refl _) _),by simpa using blk_set HY7.out 1 (.slice v6 (M+1) c6),?_,?_,?_,by rw [List.length_append,List.length_singleton,HM.out];omega,by omega,?_⟩
              ·rw [HN.out];exact hk1 _ _ _ _ _ _ HO6.out (by decide) (by decide)
              ·rw [List.length_append,List.length_singleton,HM.out,List.map_append];(have e1:List.map RSl.v [⟨ra,rc,rl⟩]=[.slice ra n rc]:=by rw [←HRL.out];rfl);rw [e1];exact row_setY HO7.out HN7.out
              ·intro p hp;rcases List.mem_append.1 hp with hp|hp
               ·exact hk1 _ _ _ _ _ _ (HA6.out p hp) (by decide) (by decide)
               ·rw [List.mem_singleton] at hp;subst hp;dsimp only;rw [HRL.out];exact hk1 _ _ _ _ _ _ HRO.out (by decide) (by decide)
              ·rw [List.map_append];exact HRUN.out
end
end Go.Proofs.YtjpfoophipcglaaGreatDoor
