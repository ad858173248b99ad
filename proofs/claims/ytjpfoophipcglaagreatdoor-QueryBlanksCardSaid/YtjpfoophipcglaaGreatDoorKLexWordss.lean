/- A block that is known whole; a word's block. -/
import Derived.Test.YtjpfoophipcglaaGreatDoorKLexLows
import Derived.Test.YtjpfoophipcglaaGreatDoorKTermOrders
import Derived.Deep.LoopGhost
namespace Go.Proofs.YtjpfoophipcglaaGreatDoor
set_option maxRecDepth 100000
set_option maxHeartbeats 8000000
section
open Go.RowKit
def zero7:Array Value:=#[.int .i64 0,.string ⟨#[]⟩,.int .i64 0,.string ⟨#[]⟩,.string ⟨#[]⟩,.string ⟨#[]⟩,.int .i64 0]
theorem blk_cells7 {W:World} {X:Nat} {T:TypeId} {a b c d e f g:Value} (h:Blk W X T #[a,b,c,d,e,f,g]):W.cell? ⟨X,0,none⟩=some a∧W.cell? ⟨X,1,none⟩=some b∧W.cell? ⟨X,2,none⟩=some c∧W.cell? ⟨X,3,none⟩=some d∧W.cell? ⟨X,4,none⟩=some e∧W.cell? ⟨X,5,none⟩=some f∧W.cell? ⟨X,6,none⟩=some g :=
  ⟨by rw [blk_cell h];rfl,by rw [blk_cell h];rfl,by rw [blk_cell h];rfl,by rw [blk_cell h];rfl,by rw [blk_cell h];rfl,by rw [blk_cell h];rfl,by rw [blk_cell h];rfl⟩
theorem set7 {B:Nat} {a W:World} (h:Below B a W) {X:Nat} (hX:B≤X) (v0 v1 v2 v3 v4 v5 v6:Value):Below B a (((((((W.setCell ⟨X,0,none⟩ v0).setCell ⟨X,1,none⟩ v1).setCell ⟨X,2,none⟩ v2).setCell ⟨X,3,none⟩ v3).setCell ⟨X,4,none⟩ v4).setCell ⟨X,5,none⟩ v5).setCell ⟨X,6,none⟩ v6) :=
  ((((((h.setCell hX _).setCell hX _).setCell hX _).setCell hX _).setCell hX _).setCell hX _).setCell hX _
end
section
open Go.RowKit
theorem ofTerm_calls (k:Int) (x y z:List UInt8) (w:World):Calls Tryz.prog 146 #[.agg #[.int .i64 k,.string (bs x),.string (bs y),.string (bs z)]] w fun e w'=>e=.returned (termTok ⟨k,x,y,z⟩).v∧Below w.heap.size w w':=by
 by_cases h4:k=4
 ·subst h4;(go_enter Tryz.func146,Tryz.ntmps146);go_wp2;refine bodyPost_ret (v:=.agg #[.int .i64 2,.string (bs x),.int .i64 0,.string ⟨#[]⟩,.string ⟨#[]⟩,.string ⟨#[]⟩,.int .i64 0]) (by simp [results,Tryz.results146,go_sem]) rfl ⟨rfl,two_alloc _ _ _⟩
 ·have g:(k==4)=false:=beq_eq_false_iff_ne.2 h4;(have HT:=Hd (show termTok ⟨k,x,y,z⟩=⟨3,[],⟨k,x,y,z⟩,0⟩ from if_neg h4));clear h4;(go_enter Tryz.func146,Tryz.ntmps146);go_wp2;refine bodyPost_ret (v:=.agg #[.int .i64 3,.string ⟨#[]⟩,.int .i64 k,.string (bs x),.string (bs y),.string (bs z),.int .i64 0]) (by simp [results,Tryz.results146,go_sem]) rfl ⟨by rw [HT.out];rfl,two_alloc _ _ _⟩
theorem ofDigits_calls (s:ByteArray) (n:Nat) (w:World) (hs:s.size≤281474976710656) (hn:n≤s.size):Calls Tryz.prog 151 #[.string s,.int .i64 n] w fun e w'=>e=.returned (.tuple #[(digitsS s.data.toList n).1.v,.int .i64 (digitsS s.data.toList n).2])∧Below w.heap.size w w':=by
 (have hle:=digits_le s.data.toList n (by rw [←Lib.size_eq];exact hn));(have hR:(s.data.toList.drop n).length≤281474976710656:=by rw [List.length_drop,←Lib.size_eq];omega);(have hS:digitsS s.data.toList n=if 0<placesS (s.data.toList.drop n) then (⟨3,[],⟨2,s.data.toList.take (n+placesS (s.data.toList.drop n)),decT,[]⟩,0⟩,n+placesS (s.data.toList.drop n)) else (⟨4,s.data.toList.take n,noTerm,0⟩,n):=rfl);obtain⟨R,hR2⟩:∃R,s.data.toList.drop n=R:=⟨_,rfl⟩;have hdb:=drop_bs s n;rw [hR2] at hR hS hdb;obtain⟨p,hp⟩:∃p,placesS R=p:=⟨_,rfl⟩;rw [hp] at hS;have HP:=Hd hp;have HDB:=Hd hdb;clear hdb hp hR2;by_cases h0:0<p
 ·rw [if_pos h0] at hS;rw [hS] at hle;dsimp only at hle;rw [←Lib.size_eq] at hle;have HS:=Hd hS;clear hS;have hpb:=piece_bs s 0 (n+p);rw [List.drop_zero,Nat.sub_zero] at hpb;have HPB:=Hd hpb;clear hpb;(go_enter Tryz.func151,Tryz.ntmps151);(go_wp2_with fail);rw [HDB.out];(refine (placesAhead_calls (bs R) _ (by rw [bs_size];unfold maxLen;omega)).mono ?_);rintro e w1 ⟨rfl,hb1⟩;rw [bs_data,HP.out];obtain⟨hc,hf⟩:=bcell hb1;(have hz:w.heap.size<w1.heap.size:=by have:=hb1.size;simp at this;omega);(have gs:(n:Int)+(p:Int)≤(s.size:Int):=by omega);(go_wp2_with fail);rw [HPB.out];(refine (Clone_calls (bs _) _ (by rw [bs_size,List.length_take,←Lib.size_eq];omega)).mono ?_);rintro e w2 ⟨rfl,hb2⟩;have hb3:=hb1.trans (hb2.mono hb1.size);have hb3':=one_box hb3;obtain⟨hc3,hf3⟩:=bcell hb3;(have hz3:w.heap.size<w2.heap.size:=by have:=hb2.size;omega);(have q0:w2.cell? ⟨w.heap.size,0,none⟩=some (.int .i64 0):=by rw [hc3 _ _ (by simp)];simp [go_sem]);(have q1:w2.cell? ⟨w.heap.size,1,none⟩=some (.string ⟨#[]⟩):=by rw [hc3 _ _ (by simp)];simp [go_sem]);(have q2:w2.cell? ⟨w.heap.size,2,none⟩=some (.int .i64 0):=by rw [hc3 _ _ (by simp)];simp [go_sem]);(have q3:w2.cell? ⟨w.heap.size,3,none⟩=some (.string ⟨#[]⟩):=by rw [hc3 _ _ (by simp)];simp [go_sem]);(have q4:w2.cell? ⟨w.heap.size,4,none⟩=some (.string ⟨#[]⟩):=by rw [hc3 _ _ (by simp)];simp [go_sem]);(have q5:w2.cell? ⟨w.heap.size,5,none⟩=some (.string ⟨#[]⟩):=by rw [hc3 _ _ (by simp)];simp [go_sem]);(have q6:w2.cell? ⟨w.heap.size,6,none⟩=some (.int .i64 0):=by rw [hc3 _ _ (by simp)];simp [go_sem]);go_wp2;(refine bodyPost_ret (v:=.tuple #[.agg #[.int .i64 3,.string ⟨#[]⟩,.int .i64 2,.string (bs (s.data.toList.take (n+p))),.string (bs decT),.string ⟨#[]⟩,.int .i64 0],.int .i64 (n+p)]) (by simp [results,Tryz.results151,q0,q1,q2,q3,q4,q5,q6,hz3,World.cell?_alloc_lt,go_sem];rfl) rfl ⟨by rw [HS.out];rfl,?_⟩);repeat (with_reducible (first|exact hb3' | refine Below.setCell ?_ (by first|exact Nat.le_refl _|omega|(simp;omega)) _|refine Below.alloc ?_ (by first|omega|(simp;omega)) _))
 ·rw [if_neg h0] at hS;have HS:=Hd hS;clear hS hle;(go_enter Tryz.func151,Tryz.ntmps151);(go_wp2_with fail);rw [HDB.out];(refine (placesAhead_calls (bs R) _ (by rw [bs_size];unfold maxLen;omega)).mono ?_);rintro e w1 ⟨rfl,hb1⟩;rw [bs_data,HP.out];obtain⟨hc,hf⟩:=bcell hb1;(have hz:w.heap.size<w1.heap.size:=by have:=hb1.size;simp at this;omega);have hpb:=piece_bs s 0 n;rw [List.drop_zero,Nat.sub_zero] at hpb;have HPB:=Hd hpb;clear hpb;(go_wp2_with fail);rw [HPB.out];(refine (Clone_calls (bs _) _ (by rw [bs_size,List.length_take,←Lib.size_eq];omega)).mono ?_);rintro e w2 ⟨rfl,hb2⟩;have hb3:=hb1.trans (hb2.mono hb1.size);have hb3':=one_box hb3;obtain⟨hc3,hf3⟩:=bcell hb3;(have hz3:w.heap.size<w2.heap.size:=by have:=hb2.size;omega);go_wp2;(refine bodyPost_ret (v:=.tuple #[.agg #[.int .i64 4,.string (bs (s.data.toList.take n)),.int .i64 0,.string ⟨#[]⟩,.string ⟨#[]⟩,.string ⟨#[]⟩,.int .i64 0],.int .i64 n]) (by simp [results,Tryz.results151,hc3,go_sem]) rfl ⟨by rw [HS.out];rfl,?_⟩);exact set7 hb3' (Nat.le_refl _) _ _ _ _ _ _ _
def WordT (w:World) (l:List UInt8) (e:Ending) (w':World):Prop:=e=.returned (.tuple #[(wordS l).1.v,.int .i64 (wordS l).2])∧Below w.heap.size w w'
theorem word_term {l:List UInt8} (h:0<(prefixS l).2):wordS l=(termTok (prefixS l).1,(prefixS l).2):=by unfold wordS;rw [if_pos h]
theorem word_letters {l:List UInt8} (h:¬0<(prefixS l).2) (h2:0<letterLead l):wordS l=(⟨1,l.take (letterLead l),noTerm,0⟩,letterLead l):=by unfold wordS;rw [if_neg h,if_pos h2]
theorem word_digits {l:List UInt8} (h:¬0<(prefixS l).2) (h2:¬0<letterLead l) (h3:0<digitLead l):wordS l=digitsS l (digitLead l):=by unfold wordS;rw [if_neg h,if_neg h2,if_pos h3]
theorem word_sign {l:List UInt8} (h:¬0<(prefixS l).2) (h2:¬0<letterLead l) (h3:¬0<digitLead l):wordS l=if signT l=[] then (noTok,0) else (⟨5,signT l,noTerm,0⟩,(signT l).length):=by
  unfold wordS
  rw [if_neg h,if_neg h2,if_neg h3]
  obtain⟨h4,h5⟩:=signT_take l
  unfold signS
  by_cases h0:signN l=0
  · rw [if_pos h0,if_pos (by rw [h4,h0];simp)]
  · rw [if_neg h0,if_neg (by intro c;rw [c] at h5;exact h0 h5.symm),h5,h4]
theorem word_calls (s:ByteArray) (w:World) (hs:s.size≤281474976710656):Calls Tryz.prog 112 #[.string s] w (WordT w s.data.toList):=by
 (have hle:(prefixS s.data.toList).2≤s.size:=by rw [Lib.size_eq];exact prefix_le _);(have hll:letterLead s.data.toList≤s.size:=by rw [Lib.size_eq];exact lead_le _ 0 _);(have hdl:digitLead s.data.toList≤s.size:=by rw [Lib.size_eq];exact lead_le _ 0 _);have hw1:=@word_term s.data.toList;have hw2:=@word_letters s.data.toList;have hw3:=@word_digits s.data.toList;have hw4:=@word_sign s.data.toList;have hsz:=(signT_take s.data.toList).2;have hsn:=signN_le s.data.toList;rw [←Lib.size_eq] at hsn;obtain⟨q,hq⟩:∃q,prefixS s.data.toList=q:=⟨_,rfl⟩;obtain⟨m,hm⟩:∃m,letterLead s.data.toList=m:=⟨_,rfl⟩;obtain⟨d,hd⟩:∃d,digitLead s.data.toList=d:=⟨_,rfl⟩;obtain⟨g,hg⟩:∃g,signT s.data.toList=g:=⟨_,rfl⟩;rw [hq] at hle hw1 hw2 hw3 hw4;rw [hm] at hll hw2 hw3 hw4;rw [hd] at hdl hw3 hw4;rw [hg] at hw4 hsz;obtain⟨⟨k,x,y,z⟩,n⟩:=q;dsimp only at hle hw1 hw2 hw3 hw4;have HQ:=Hd hq;have HM:=Hd hm;have HD:=Hd hd;have HG:=Hd hg;have HW1:=Hd hw1;have HW2:=Hd hw2;have HW3:=Hd hw3;have HW4:=Hd hw4;(have hgl:g.length≤s.size:=by omega);clear hq hm hd hg hw1 hw2 hw3 hw4 hsz hsn;(go_enter Tryz.func112,Tryz.ntmps112);(go_wp2_with fail);refine (Prefix_calls s _ hs).mono ?_;rintro e w1 ⟨rfl,hb1⟩;rw [HQ.out];(simp only [TermL.v]);(have hB1:=blk_on (blk_new w 69 zero7) hb1 (by rw [World.size_alloc];exact Nat.lt_succ_self _));have hb1':=one_box hb1;have hz1:w.heap.size<w1.heap.size:=blk_lt hB1;clear hb1;by_cases h0:0<n
 ·have HS:=Hd (HW1.out h0);clear HW1 HW2 HW3 HW4;have hB2:=blk_alloc hB1 (.cells #[.int .i64 k,.string (bs x),.string (bs y),.string (bs z)] 67);clear hB1;(go_wp2_with fail);refine (ofTerm_calls k x y z _).mono ?_;rintro e w2 ⟨rfl,hb2⟩;have hB3:=blk_on hB2 hb2 (blk_lt hB2);have hzz:=blk_lt hB3;(have HBB:=Hd (show Below w.heap.size w w2 from (hb1'.alloc (Nat.le_of_lt hz1) _).trans (hb2.mono (by rw [World.size_alloc];omega))));clear hB2 hb2 hb1';obtain⟨q0,q1,q2,q3,q4,q5,q6⟩:=blk_cells7 hB3;(have fr:=fun i=>blk_free hB3 i);clear hB3;obtain⟨⟨tk,tx,⟨uk,ux,uy,uz⟩,ta⟩,hT⟩:∃T,termTok ⟨k,x,y,z⟩=T:=⟨_,rfl⟩;rw [hT];rw [hT] at HS;clear hT;(simp only [TokL.v]);go_wp2;(refine bodyPost_ret (v:=.tuple #[.agg #[.int .i64 tk,.string (bs tx),.int .i64 uk,.string (bs ux),.string (bs uy),.string (bs uz),.int .i64 ta],.int .i64 n]) (by simp [results,Tryz.results112,q0,q1,q2,q3,q4,q5,q6,go_sem]) rfl ⟨by rw [HS.out];rfl,?_⟩);repeat (with_reducible (first|exact HBB.out|refine Below.setCell ?_ (by first|exact Nat.le_refl _|omega|(simp;omega)) _|refine Below.alloc ?_ (by first|omega|(simp;omega)) _))
 ·have HW:=Hd h0;(have g0:¬(0:Int)<(n:Int):=by omega);have hB2:=blk_alloc hB1 (.cells #[.int .i64 k,.string (bs x),.string (bs y),.string (bs z)] 67);have hb2':=hb1'.alloc (Nat.le_of_lt hz1) (.cells #[.int .i64 k,.string (bs x),.string (bs y),.string (bs z)] 67);clear hB1 hb1' HW1 h0;(go_wp2_with fail);(refine (leadingLetter_calls s _ (by unfold maxLen;omega)).mono ?_);rintro e w2 ⟨rfl,hb2⟩;rw [HM.out];have hB3:=blk_on hB2 hb2 (blk_lt hB2);have hb3':=hb2'.trans (hb2.mono hb2'.size);have hz3:w.heap.size<w2.heap.size:=blk_lt hB3;clear hB2 hb2 hb2';by_cases hm0:0<m
  ·have HS:=Hd (HW2.out HW.out hm0);have hpb:=piece_bs s 0 m;rw [List.drop_zero,Nat.sub_zero] at hpb;have HPB:=Hd hpb;clear hpb;(go_wp2_with fail);rw [HPB.out];(refine (Clone_calls (bs _) _ (by rw [bs_size,List.length_take,←Lib.size_eq];omega)).mono ?_);rintro e w3 ⟨rfl,hb4⟩;have hB4:=blk_on hB3 hb4 hz3;have hzz:=blk_lt hB4;have HBB:=Hd (hb3'.trans (hb4.mono hb3'.size));clear hB3 hb4 hb3';obtain⟨q0,q1,q2,q3,q4,q5,q6⟩:=blk_cells7 hB4;(have fr:=fun i=>blk_free hB4 i);clear hB4;go_wp2;(refine bodyPost_ret (v:=.tuple #[.agg #[.int .i64 1,.string (bs (s.data.toList.take m)),.int .i64 0,.string ⟨#[]⟩,.string ⟨#[]⟩,.string ⟨#[]⟩,.int .i64 0],.int .i64 m]) (by simp [results,Tryz.results112,q0,q1,q2,q3,q4,q5,q6,go_sem]) rfl ⟨by rw [HS.out];rfl,?_⟩);repeat (with_reducible (first|exact HBB.out|refine Below.setCell ?_ (by first|exact Nat.le_refl _|omega|(simp;omega)) _|refine Below.alloc ?_ (by first|omega|(simp;omega)) _))
  ·have HW':=Hd hm0;(have g1:¬(0:Int)<(m:Int):=by omega);clear hm0 HW2;(go_wp2_with fail);(refine (leadingDigit_calls s _ (by unfold maxLen;omega)).mono ?_);rintro e w3 ⟨rfl,hb4⟩;rw [HD.out];have hB4:=blk_on hB3 hb4 hz3;have hb5':=hb3'.trans (hb4.mono hb3'.size);have hz4:w.heap.size<w3.heap.size:=blk_lt hB4;clear hB3 hb4 hb3';by_cases hd0:0<d
   ·have hS:=HW3.out HW.out HW'.out hd0;(go_wp2_with fail);refine (ofDigits_calls s d _ hs hdl).mono ?_;rintro e w4 ⟨rfl,hb6⟩;obtain⟨D,hD⟩:∃D,digitsS s.data.toList d=D:=⟨_,rfl⟩;rw [hD] at hS ⊢;have HS:=Hd hS;obtain⟨⟨tk,tx,⟨uk,ux,uy,uz⟩,ta⟩,nn⟩:=D;clear hD hS;(simp only [TokL.v]);have hB6:=blk_on hB4 hb6 hz4;have hzz:=blk_lt hB6;have HBB:=Hd (hb5'.trans (hb6.mono hb5'.size));clear hB4 hb6 hb5';obtain⟨q0,q1,q2,q3,q4,q5,q6⟩:=blk_cells7 hB6;(have fr:=fun i=>blk_free hB6 i);clear hB6;go_wp2;(refine bodyPost_ret (v:=.tuple #[.agg #[.int .i64 tk,.string (bs tx),.int .i64 uk,.string (bs ux),.string (bs uy),.string (bs uz),.int .i64 ta],.int .i64 nn]) (by simp [results,Tryz.results112,q0,q1,q2,q3,q4,q5,q6,go_sem]) rfl ⟨by rw [HS.out];rfl,?_⟩);repeat (with_reducible (first|exact HBB.out|refine Below.setCell ?_ (by first|exact Nat.le_refl _|omega|(simp;omega)) _|refine Below.alloc ?_ (by first|omega|(simp;omega)) _))
   ·have hS:=HW4.out HW.out HW'.out hd0;(have g2:¬(0:Int)<(d:Int):=by omega);clear hd0 HW3;(go_wp2_with fail);refine (signAhead_calls s _).mono ?_;rintro e w4 ⟨rfl,hb6⟩;rw [HG.out];have hB6:=blk_on hB4 hb6 hz4;have hzz:=blk_lt hB6;have HBB:=Hd (hb5'.trans (hb6.mono hb5'.size));clear hB4 hb6 hb5';obtain⟨q0,q1,q2,q3,q4,q5,q6⟩:=blk_cells7 hB6;(have fr:=fun i=>blk_free hB6 i);clear hB6;by_cases hg0:g=[]
    ·rw [if_pos hg0] at hS;have HS:=Hd hS;subst hg0;clear hS;rw [bs_nil];go_wp2;(refine bodyPost_ret (v:=.tuple #[.agg #[.int .i64 0,.string ⟨#[]⟩,.int .i64 0,.string ⟨#[]⟩,.string ⟨#[]⟩,.string ⟨#[]⟩,.int .i64 0],.int .i64 0]) (by simp [results,Tryz.results112,q0,q1,q2,q3,q4,q5,q6,go_sem]) rfl ⟨by rw [HS.out];rfl,?_⟩);repeat (with_reducible (first|exact HBB.out|refine Below.setCell ?_ (by first|exact Nat.le_refl _|omega|(simp;omega)) _|refine Below.alloc ?_ (by first|omega|(simp;omega)) _))
    ·rw [if_neg hg0] at hS;have HS:=Hd hS;(have gg:(bs g).toList.isEmpty=false:=by rw [bs_toList];simpa using hg0);(have HGL:=Hd (show (bs g).size=g.length from rfl));clear hS hg0;go_wp2;(refine bodyPost_ret (v:=.tuple #[.agg #[.int .i64 5,.string (bs g),.int .i64 0,.string ⟨#[]⟩,.string ⟨#[]⟩,.string ⟨#[]⟩,.int .i64 0],.int .i64 (bs g).size]) (by simp [results,Tryz.results112,q0,q1,q2,q3,q4,q5,q6,go_sem]) rfl ⟨by rw [HS.out];rfl,?_⟩);repeat (with_reducible (first|exact HBB.out|refine Below.setCell ?_ (by first|exact Nat.le_refl _|omega|(simp;omega)) _|refine Below.alloc ?_ (by first|omega|(simp;omega)) _))
end
section
open Go.RowKit
def NextT (w:World) (l:List UInt8) (a:Nat) (e:Ending) (w':World):Prop:=e=.returned (.tuple #[(nextS l a).1.v,.int .i64 (nextS l a).2.1,.int .i64 (nextS l a).2.2])∧Below w.heap.size w w'
theorem Next_calls (s:ByteArray) (a:Nat) (w:World) (hs:s.size≤281474976710656) (ha:a≤s.size):Calls Tryz.prog 74 #[.string s,.int .i64 a] w (NextT w s.data.toList a):=by
 (have hbl:=begS_le (l:=s.data.toList) (a:=a) (by rw [←Lib.size_eq];exact ha));rw [←Lib.size_eq] at hbl;have hne:=@next_end s.data.toList a;have hnb:=@next_bad s.data.toList a;have hnw:=@next_word s.data.toList a;rw [←Lib.size_eq] at hne hnb hnw;have hgl:(wordS (s.data.toList.drop (begS s.data.toList a))).2≤s.size-begS s.data.toList a:=by
  have:=word_le (s.data.toList.drop (begS s.data.toList a));rw [List.length_drop,←Lib.size_eq] at this;exact this
 obtain⟨b,hb⟩:∃b,begS s.data.toList a=b:=⟨_,rfl⟩;rw [hb] at hbl hne hnb hnw hgl;have hdb:=drop_bs s b;(have hRl:(s.data.toList.drop b).length≤s.size:=by rw [List.length_drop,←Lib.size_eq];omega);obtain⟨R,hR⟩:∃R,s.data.toList.drop b=R:=⟨_,rfl⟩;rw [hR] at hnb hnw hgl hdb hRl;obtain⟨W,hW⟩:∃W,wordS R=W:=⟨_,rfl⟩;rw [hW] at hnb hnw hgl;obtain⟨⟨tk,tx,⟨uk,ux,uy,uz⟩,ta⟩,n⟩:=W;dsimp only at hnb hnw hgl;have HB:=Hd hb;have HE:=Hd hne;have HNB:=Hd hnb;have HNW:=Hd hnw;have HDB:=Hd hdb;have HWD:=Hd hW;clear hb hne hnb hnw hdb hW hR;(go_enter Tryz.func74,Tryz.ntmps74);(go_wp2_with fail);(refine (begin_calls s a _ (by unfold maxLen;omega) ha).mono ?_);rintro e w1 ⟨rfl,hb1⟩;rw [HB.out];(have hB1:=blk_on (blk_new w 69 zero7) hb1 (by rw [World.size_alloc];exact Nat.lt_succ_self _));have hb1':=one_box hb1;have hz1:w.heap.size<w1.heap.size:=blk_lt hB1;clear hb1;by_cases h0:b=s.size
 ·have HS:=Hd (HE.out h0);have HBB:=Hd hb1';(have g0:((b:Int)==(s.size:Int))=true:=beq_iff_eq.2 (by omega));have H0:=Hd h0;obtain⟨q0,q1,q2,q3,q4,q5,q6⟩:=blk_cells7 hB1;(have fr:=fun i=>blk_free hB1 i);clear h0 hB1 hb1';go_wp2;(refine bodyPost_ret (v:=.tuple #[.agg #[.int .i64 0,.string ⟨#[]⟩,.int .i64 0,.string ⟨#[]⟩,.string ⟨#[]⟩,.string ⟨#[]⟩,.int .i64 0],.int .i64 b,.int .i64 0]) (by simp [results,Tryz.results74,q0,q1,q2,q3,q4,q5,q6,go_sem]) rfl ⟨by rw [HS.out,H0.out];rfl,?_⟩);repeat (with_reducible (first|exact HBB.out|refine Below.setCell ?_ (by first|exact Nat.le_refl _|omega|(simp;omega)) _|refine Below.alloc ?_ (by first|omega|(simp;omega)) _))
 ·(have g0:((b:Int)==(s.size:Int))=false:=beq_eq_false_iff_ne.2 (by omega));(go_wp2_with fail);rw [HDB.out];(refine (word_calls (bs R) _ (by rw [bs_size];omega)).mono ?_);rintro e w2 ⟨rfl,hb2⟩;rw [bs_data,HWD.out];(simp only [TokL.v]);have hB2:=blk_on hB1 hb2 hz1;have hzz:=blk_lt hB2;have HBB:=Hd (hb1'.trans (hb2.mono hb1'.size));clear hB1 hb2 hb1';obtain⟨q0,q1,q2,q3,q4,q5,q6⟩:=blk_cells7 hB2;(have fr:=fun i=>blk_free hB2 i);clear hB2;by_cases hn:n=0
  ·have HS:=Hd (HNB.out h0 hn);(have g1:((n:Int)==0)=true:=beq_iff_eq.2 (by omega));clear hn h0;go_wp2;(refine bodyPost_ret (v:=.tuple #[.agg #[.int .i64 0,.string ⟨#[]⟩,.int .i64 0,.string ⟨#[]⟩,.string ⟨#[]⟩,.string ⟨#[]⟩,.int .i64 0],.int .i64 0,.int .i64 2]) (by simp [results,Tryz.results74,q0,q1,q2,q3,q4,q5,q6,hzz,World.cell?_alloc_lt,go_sem]) rfl ⟨by rw [HS.out];rfl,?_⟩);repeat (with_reducible (first|exact HBB.out|refine Below.setCell ?_ (by first|exact Nat.le_refl _|omega|(simp;omega)) _|refine Below.alloc ?_ (by first|omega|(simp;omega)) _))
  ·have HS:=Hd (HNW.out h0 hn);(have g1:((n:Int)==0)=false:=beq_eq_false_iff_ne.2 (by omega));clear hn h0;go_wp2;(refine bodyPost_ret (v:=.tuple #[.agg #[.int .i64 tk,.string (bs tx),.int .i64 uk,.string (bs ux),.string (bs uy),.string (bs uz),.int .i64 b],.int .i64 (b+n),.int .i64 0]) (by simp [results,Tryz.results74,q0,q1,q2,q3,q4,q5,q6,hzz,World.cell?_alloc_lt,go_sem]) rfl ⟨by rw [HS.out];rfl,?_⟩);repeat (with_reducible (first|exact HBB.out|refine Below.setCell ?_ (by first|exact Nat.le_refl _|omega|(simp;omega)) _|refine Below.alloc ?_ (by first|omega|(simp;omega)) _))
end
section
open Go.RowKit
theorem info_token:(Tryz.prog.info? 69).map (fun i=>(i.zero,i.size,i.bytes))=some (some noTok.v,7,88):=by kernel_rfl
def TokL.cells (t:TokL):List Value:=[.int .i64 t.k,.string (bs t.x),.int .i64 t.t.k,.string (bs t.t.x),.string (bs t.t.y),.string (bs t.t.z),.int .i64 t.a]
def tokCells (l:List TokL):List Value:=l.flatMap TokL.cells
theorem TokL.cells_length (t:TokL):t.cells.length=7:=rfl
theorem tokCells_append (l r:List TokL):tokCells (l++r)=tokCells l++tokCells r:=by unfold tokCells;exact List.flatMap_append
theorem tokCells_one (t:TokL):tokCells [t]=t.cells:=by unfold tokCells;simp
theorem tokCells_at:∀(L:List TokL) (k:Nat) (hk:k<L.length) (i:Nat),i<7→(tokCells L)[k*7+i]?=L[k].cells[i]?
  | [],k,hk,_,_=>absurd hk (Nat.not_lt_zero _)
  | t::L,0,_,i,hi=>by
    show (t.cells++tokCells L)[0*7+i]?=_
    rw [List.getElem?_append_left (by rw [TokL.cells_length];omega),Nat.zero_mul,Nat.zero_add];rfl
  | t::L,k+1,hk,i,hi=>by
    show (t.cells++tokCells L)[(k+1)*7+i]?=_
    rw [List.getElem?_append_right (by rw [TokL.cells_length];omega),TokL.cells_length,show (k+1)*7+i-7=k*7+i by omega,tokCells_at L k (by simpa using hk) i hi]
    simp
def Cells7 (w:World) (g k:Nat) (t:TokL):Prop :=
  w.cell? ⟨g,k*7,none⟩=some (.int .i64 t.k)∧w.cell? ⟨g,k*7+1,none⟩=some (.string (bs t.x))∧w.cell? ⟨g,k*7+2,none⟩=some (.int .i64 t.t.k)∧w.cell? ⟨g,k*7+3,none⟩=some (.string (bs t.t.x)) ∧
  w.cell? ⟨g,k*7+4,none⟩=some (.string (bs t.t.y))∧w.cell? ⟨g,k*7+5,none⟩=some (.string (bs t.t.z))∧w.cell? ⟨g,k*7+6,none⟩=some (.int .i64 t.a)
theorem toks_cell {w:World} {g:Nat} {L:List TokL} (h:∀j u,(tokCells L)[j]?=some u→w.cell? ⟨g,j,none⟩=some u) (k:Nat) (hk:k<L.length):Cells7 w g k L[k]:=by
  have e:=tokCells_at L k hk
  exact⟨h _ _ (e 0 (by omega)),h _ _ (e 1 (by omega)),h _ _ (e 2 (by omega)),h _ _ (e 3 (by omega)),h _ _ (e 4 (by omega)),h _ _ (e 5 (by omega)),h _ _ (e 6 (by omega))⟩
def TReads (w:World) (v:Value) (n:Nat) (xs:List Value):Prop :=
  (v=.slice none 0 0∧n=0)∨∃g cap,v=.slice (some ⟨g,0,none⟩) n cap∧g<w.heap.size∧n≤cap∧cap≤maxLen∧∀j u,xs[j]?=some u→w.cell? ⟨g,j,none⟩=some u
theorem treads_of {w:World} {B size:Nat} {e:TypeId} {v:Value} {n:Nat} {xs:List Value} (h:w.ownsRow B e size v n xs):TReads w v n xs:=by
  rcases h.2 with h0|⟨g,cap,cur,hv,hg,hh,hn,hm,_⟩
  · exact .inl h0
  · refine .inr ⟨g,cap,hv,(Array.getElem?_eq_some_iff.1 hh).1,hn,hm,fun j u hj=>?_⟩
    have:=h.cells (g:=g) (by rw [hv];rfl) j u hj
    cases j with
    | zero=>simpa [Addr.add] using this
    | succ j=>simpa [Addr.add] using this
theorem TReads.on {w w':World} {v:Value} {n:Nat} {xs:List Value} (h:TReads w v n xs) (hb:Below w.heap.size w w'):TReads w' v n xs:=by
  rcases h with h0|⟨g,cap,hv,hg,hn,hm,hc⟩
  · exact .inl h0
  · exact .inr ⟨g,cap,hv,Nat.lt_of_lt_of_le hg hb.size,hn,hm,fun j u hj=>by rw [hb.cell (p:=⟨g,j,none⟩) hg];exact hc j u hj⟩
theorem news7 (W:World) (T:TypeId) (a b c d e f g:Value) {X:Nat} (hX:X=W.heap.size):∀n u,[a,b,c,d,e,f,g][n]?=some u→(W.alloc (.cells #[a,b,c,d,e,f,g] T)).cell? ((⟨X,0,none⟩:Addr).add n)=some u:=by
  subst hX
  intro n u hu
  have e1:((⟨W.heap.size,0,none⟩:Addr).add n)=⟨W.heap.size,n,none⟩:=by
    cases n with
    | zero=>simp [Addr.add]
    | succ n=>simp [Addr.add]
  rw [e1,blk_cell (blk_new W T _)]
  simpa using hu
def LexT (w:World) (q:List TokL×Nat×Int) (e:Ending) (w':World):Prop :=
  ∃v,e=.returned (.tuple #[v,.int .i64 q.2.1,.int .i64 q.2.2])∧w'.ownsRow w.heap.size 69 7 v q.1.length (tokCells q.1)∧Below w.heap.size w w'
theorem lex_none {w w':World} {q:List TokL×Nat×Int} {a:Nat} {r:Int} (h:q=([],a,r)) (hb:Below w.heap.size w w'):LexT w q (.returned (.tuple #[.slice none 0 0,.int .i64 a,.int .i64 r])) w':=by
  subst h;exact⟨_,rfl,World.ownsRow_nil _ _ _ _,hb⟩
theorem lex_all {w w':World} {q:List TokL×Nat×Int} {T:List TokL} {v:Value} (h:q=(T,0,0)) (hv:w'.ownsRow w.heap.size 69 7 v T.length (tokCells T)) (hb:Below w.heap.size w w'):LexT w q (.returned (.tuple #[v,.int .i64 0,.int .i64 0])) w':=by
  subst h;exact⟨v,rfl,hv,hb⟩
end
end Go.Proofs.YtjpfoophipcglaaGreatDoor
