/- What the document's own helpers for the term that a text begins with come to: the place of a byte, how many bytes are a name's, the double quote that closes a literal. -/
import Derived.Test.YtjpfoophipcglaaGreatDoorKRefTrips
import Derived.Test.YtjpfoophipcglaaGreatDoorKLexWordss
namespace Go.Proofs.YtjpfoophipcglaaGreatDoor
set_option maxRecDepth 100000
set_option maxHeartbeats 8000000
section
open Go.RowKit
def placeFrom (b:Int):List UInt8→Nat→Int
  | [],_=>-1
  | c::r,k=>if (c.toNat:Int)=b then k else placeFrom b r (k+1)
theorem place_hit (b:Int) (l:List UInt8) (k:Nat) (h:k<l.length) (e:(l[k].toNat:Int)=b):placeFrom b (l.drop k) k=k:=by
  rw [List.drop_eq_getElem_cons h,placeFrom,if_pos e]
theorem place_next (b:Int) (l:List UInt8) (k:Nat) (h:k<l.length) (e:¬(l[k].toNat:Int)=b):placeFrom b (l.drop k) k=placeFrom b (l.drop (k+1)) (k+1):=by
  rw [List.drop_eq_getElem_cons h,placeFrom,if_neg e]
theorem place_end (b:Int) (l:List UInt8) (k:Nat) (h:l.length≤k):placeFrom b (l.drop k) k = -1:=by
  rw [List.drop_eq_nil_of_le h];rfl
theorem place_calls (s:ByteArray) (b:Int) (w:World) (_hs:s.size≤maxLen):Calls Tryz.prog 142 #[.string s,.int .u8 b] w fun e w'=>e=.returned (.int .i64 (placeFrom b s.data.toList 0))∧w'=w:=by
 (unfold maxLen at _hs);(go_enter Tryz.func142,Tryz.ntmps142);go_wp2;go_loop [5] (fun i=>∃k:Nat,k≤s.size∧i=.int .i64 k∧Hid (placeFrom b s.data.toList 0=placeFrom b (s.data.toList.drop k) k)) (fun i=>s.size-(intOf i).toNat)
 case atStart=>exact⟨0,Nat.zero_le _,rfl,Hd rfl⟩
 case round =>
  obtain⟨k,hk,rfl,HL⟩:=hrel;by_cases hp:k<s.size
  ·(have c1:=place_hit b s.data.toList k (by simpa using hp));(have c2:=place_next b s.data.toList k (by simpa using hp));rw [get_list s k hp] at c1 c2;by_cases hc:(s[k].toNat:Int)=b
   ·have g:((s[k].toNat:Int)==b)=true:=beq_iff_eq.2 hc;have H0:=Hd (c1 hc);clear c1 c2 hc;go_wp2;go_ret;exact⟨ret_int (by rw [HL.out,H0.out]),rfl⟩
   ·have g:((s[k].toNat:Int)==b)=false:=beq_eq_false_iff_ne.2 hc;have H0:=Hd (c2 hc);clear c1 c2 hc;go_wp2;go_round
    case rel=>exact⟨k+1,by omega,by go_num,Hd (by rw [HL.out,H0.out])⟩
    case measure=>simp [intOf];omega
  ·(have H0:=Hd (place_end b s.data.toList k (by simpa using (by omega:s.size≤k))));go_wp2;go_ret;exact⟨ret_int (by rw [HL.out,H0.out]),rfl⟩
def closeFrom:List UInt8→Nat→Int
  | [],_=>-1
  | [c],k=>if c=92 then -1 else if c=34 then k else -1
  | c::d::r,k=>if c=92 then closeFrom r (k+2) else if c=34 then k else closeFrom (d::r) (k+1)
theorem close_cons (c:UInt8) (r:List UInt8) (k:Nat):closeFrom (c::r) k=if c=92 then closeFrom (r.drop 1) (k+2) else if c=34 then k else closeFrom r (k+1):=by
  cases r with
  | nil=>simp [closeFrom]
  | cons d r=>simp [closeFrom]
theorem close_skip (l:List UInt8) (k:Nat) (h:k<l.length) (e:(l[k].toNat:Int)=92):closeFrom (l.drop k) k=closeFrom (l.drop (k+2)) (k+2):=by
  rw [List.drop_eq_getElem_cons h,close_cons,if_pos (show l[k]=92 from (u8_of (n:=92) (by omega)).1 e),List.drop_drop]
theorem close_hit (l:List UInt8) (k:Nat) (h:k<l.length) (e:(l[k].toNat:Int)=34):closeFrom (l.drop k) k=k:=by
  rw [List.drop_eq_getElem_cons h,close_cons,if_neg (not92 (by omega)),if_pos (show l[k]=34 from (u8_of (n:=34) (by omega)).1 e)]
theorem close_next (l:List UInt8) (k:Nat) (h:k<l.length) (e1:¬(l[k].toNat:Int)=92) (e2:¬(l[k].toNat:Int)=34):closeFrom (l.drop k) k=closeFrom (l.drop (k+1)) (k+1):=by
  rw [List.drop_eq_getElem_cons h,close_cons,if_neg (not92 e1),if_neg (not34 e2)]
theorem close_end (l:List UInt8) (k:Nat) (h:l.length≤k):closeFrom (l.drop k) k = -1:=by
  rw [List.drop_eq_nil_of_le h];rfl
def closeZ (l:List UInt8):Int:=closeFrom (l.drop 1) 1
theorem closing_calls (s:ByteArray) (w:World) (_hs:s.size≤281474976710656):Calls Tryz.prog 198 #[.string s] w fun e w'=>e=.returned (.int .i64 (closeZ s.data.toList))∧w'=w:=by
 (go_enter Tryz.func198,Tryz.ntmps198);go_wp2;go_loop [3] (fun i=>∃k:Nat,k≤s.size+1∧i=.int .i64 k∧Hid (closeZ s.data.toList=closeFrom (s.data.toList.drop k) k)) (fun i=>s.size+1-(intOf i).toNat)
 case atStart=>exact⟨1,by omega,rfl,Hd rfl⟩
 case round =>
  obtain⟨k,hk,rfl,HL⟩:=hrel;by_cases hp:k<s.size
  ·(have c1:=close_skip s.data.toList k (by simpa using hp));(have c2:=close_hit s.data.toList k (by simpa using hp));(have c3:=close_next s.data.toList k (by simpa using hp));rw [get_list s k hp] at c1 c2 c3;by_cases hc:(s[k].toNat:Int)=92
   ·have g:((s[k].toNat:Int)==92)=true:=beq_iff_eq.2 hc;have H0:=Hd (c1 hc);clear c1 c2 c3 hc;go_wp2;go_round
    case rel=>exact⟨k+2,by omega,by go_num,Hd (by rw [HL.out,H0.out])⟩
    case measure=>simp [intOf];omega
   ·have g:((s[k].toNat:Int)==92)=false:=beq_eq_false_iff_ne.2 hc;by_cases hc2:(s[k].toNat:Int)=34
    ·have g:((s[k].toNat:Int)==34)=true:=beq_iff_eq.2 hc2;have H0:=Hd (c2 hc2);clear c1 c2 c3 hc hc2;go_wp2;go_ret;exact⟨ret_int (by rw [HL.out,H0.out]),rfl⟩
    ·have g2:((s[k].toNat:Int)==34)=false:=beq_eq_false_iff_ne.2 hc2;have H0:=Hd (c3 hc hc2);clear c1 c2 c3 hc hc2;go_wp2;go_round
     case rel=>exact⟨k+1,by omega,by go_num,Hd (by rw [HL.out,H0.out])⟩
     case measure=>simp [intOf];omega
  ·(have H0:=Hd (close_end s.data.toList k (by simpa using (by omega:s.size≤k))));go_wp2;go_ret;exact⟨ret_int (by rw [HL.out,H0.out]),rfl⟩
theorem lead_take (p:Nat→Int→Bool):∀(k m:Nat) (l:List UInt8),lead p k (l.take m)=min m (lead p k l)
  | _,0,_=>by simp [lead]
  | _,_+1,[]=>by simp [lead]
  | k,m+1,b::r=>by
    rw [List.take_succ_cons,lead,lead,lead_take p (k+1) m r]
    split<;>omega
theorem lead_bound (p:Nat→Int→Bool) (n:Nat) (hp:∀k c,n≤k→p k c=false):∀(k:Nat) (l:List UInt8),lead p k l≤n-k
  | _,[]=>by simp [lead]
  | k,b::r=>by
    have ih:=lead_bound p n hp (k+1) r
    rw [lead]
    by_cases h:n≤k
    · rw [hp k _ h];simp
    · split<;>omega
theorem nameLead_within (l:List UInt8):nameLead l≤32:=by
  have:=lead_bound (fun k c=>decide (k<32)&&nameZ c k) 32 (fun k c h=>by simp;omega) 0 l
  exact this
theorem nameL_take (l:List UInt8) (n:Nat) (h:n<l.length):nameL (l.take (n+1))=decide (n<nameLead l):=by
  unfold nameL nameLead
  rw [lead_take,List.length_take,Bool.eq_iff_iff]
  have hne:(l.take (n+1)).isEmpty=false:=by
    cases l with
    | nil=>simp at h
    | cons b r=>rfl
  rw [hne]
  simp
  omega
theorem first_bs (s:ByteArray) (n:Nat):s.extract 0 n=bs (s.data.toList.take n):=bs_eq (by rw [Lib.extract_data];rfl)
theorem nameLen_calls (s:ByteArray) (w:World) (_hs:s.size≤281474976710656):Calls Tryz.prog 144 #[.string s] w fun e w'=>e=.returned (.int .i64 (nameLead s.data.toList))∧w'=w:=by
 (have hle:nameLead s.data.toList≤s.size:=by rw [Lib.size_eq];exact lead_le _ _ _);have h32:=nameLead_within s.data.toList;obtain⟨M,hM⟩:∃M,nameLead s.data.toList=M:=⟨_,rfl⟩;have HM:=Hd hM;rw [hM] at hle h32;clear hM;(go_enter Tryz.func144,Tryz.ntmps144);go_wp2;go_loop [3] (fun i=>∃k:Nat,k≤M∧i=.int .i64 k) (fun i=>M-(intOf i).toNat)
 case atStart=>exact⟨0,Nat.zero_le _,rfl⟩
 case round =>
  obtain⟨k,hk,rfl⟩:=hrel;by_cases hp:k<s.size
  ·by_cases h2:k<32
   ·(have HN:=Hd (nameL_take s.data.toList k (by simpa using hp)));(go_wp2_with fail);rw [first_bs];(refine (rIsName_calls (bs _) _ (by rw [bs_size,List.length_take,←Lib.size_eq];unfold maxLen;omega)).mono ?_);rintro e w' ⟨rfl,hw⟩;obtain rfl:=hw.symm;rw [bs_data,HN.out,HM.out];by_cases h3:k<M
    ·(have g:decide (k<M)=true:=by simpa using h3);go_wp2;go_round
     case rel=>exact⟨k+1,by omega,by go_num⟩
     case measure=>simp [intOf];omega
    ·(have g:decide (k<M)=false:=by simpa using h3);go_wp2;go_ret;exact⟨ret_int (by rw [HM.out];omega),rfl⟩
   ·go_wp2;go_ret;exact⟨ret_int (by rw [HM.out];omega),rfl⟩
  ·go_wp2;go_ret;exact⟨ret_int (by rw [HM.out];omega),rfl⟩
end
theorem bs_app (a b:List UInt8):bs a++bs b=bs (a++b):=bs_eq (by show (bs a++bs b).data.toList=_;simp [bs])
section
open Go.RowKit
def unesc:List UInt8→List UInt8→List UInt8×Bool
  | [],t=>(t,true)
  | [c],t=>if c=92 then ([],false) else if c=34∨c=10∨c=9 then ([],false) else (t++[c],true)
  | c::d::r,t=>if c=92 then (match escB d with|none=>([],false)|some e=>unesc r (t++[e])) else if c=34∨c=10∨c=9 then ([],false) else unesc (d::r) (t++[c])
theorem unesc_plain (c:UInt8) (r t:List UInt8) (h:¬c=92):unesc (c::r) t=if c=34∨c=10∨c=9 then ([],false) else unesc r (t++[c]):=by
  cases r with
  | nil=>simp [unesc,h]
  | cons d r=>simp [unesc,h]
def badB (c:Int):Bool:=(c==34)||(c==10)||(c==9)
theorem badB_iff (c:UInt8):badB (c.toNat:Int)=true↔(c=34∨c=10∨c=9):=by
  have h1:c=34↔(c.toNat:Int)=34:=(u8_of (b:=c) (n:=34) (by omega)).symm
  have h2:c=10↔(c.toNat:Int)=10:=(u8_of (b:=c) (n:=10) (by omega)).symm
  have h3:c=9↔(c.toNat:Int)=9:=(u8_of (b:=c) (n:=9) (by omega)).symm
  rw [h1,h2,h3]
  simp [badB,or_assoc]
theorem unesc_bad (l t:List UInt8) (k:Nat) (h:k<l.length) (e1:¬(l[k].toNat:Int)=92) (e2:badB (l[k].toNat:Int)=true):unesc (l.drop k) t=([],false):=by
  rw [List.drop_eq_getElem_cons h,unesc_plain _ _ _ (not92 e1),if_pos ((badB_iff _).1 e2)]
theorem unesc_take (l t:List UInt8) (k:Nat) (h:k<l.length) (e1:¬(l[k].toNat:Int)=92) (e2:badB (l[k].toNat:Int)=false):unesc (l.drop k) t=unesc (l.drop (k+1)) (t++[l[k]]):=by
  rw [List.drop_eq_getElem_cons h,unesc_plain _ _ _ (not92 e1),if_neg (fun c=>by rw [(badB_iff _).2 c] at e2;cases e2)]
theorem unesc_open (l t:List UInt8) (k:Nat) (h:k<l.length) (e1:(l[k].toNat:Int)=92) (h2:l.length≤k+1):unesc (l.drop k) t=([],false):=by
  rw [List.drop_eq_getElem_cons h,List.drop_eq_nil_of_le h2,unesc,if_pos (show l[k]=92 from (u8_of (n:=92) (by omega)).1 e1)]
theorem unesc_no (l t:List UInt8) (k:Nat) (h:k<l.length) (e1:(l[k].toNat:Int)=92) (h2:k+1<l.length) (e:escB l[k+1]=none):unesc (l.drop k) t=([],false):=by
  rw [List.drop_eq_getElem_cons h,List.drop_eq_getElem_cons h2,unesc,if_pos (show l[k]=92 from (u8_of (n:=92) (by omega)).1 e1),e]
theorem unesc_esc (l t:List UInt8) (k:Nat) (h:k<l.length) (e1:(l[k].toNat:Int)=92) (h2:k+1<l.length) {c:UInt8} (e:escB l[k+1]=some c):unesc (l.drop k) t=unesc (l.drop (k+2)) (t++[c]):=by
  rw [List.drop_eq_getElem_cons h,List.drop_eq_getElem_cons h2,unesc,if_pos (show l[k]=92 from (u8_of (n:=92) (by omega)).1 e1),e]
theorem unesc_end (l t:List UInt8) (k:Nat) (h:l.length≤k):unesc (l.drop k) t=(t,true):=by
  rw [List.drop_eq_nil_of_le h];rfl
theorem one_bs (s:ByteArray) (k:Nat) (h:k<s.size):s.extract k (k+1)=bs [s[k]]:=by
  refine bs_eq ?_
  rw [Lib.extract_data,←get_list s k h,List.drop_eq_getElem_cons (by simpa using h),show k+1-k=1 by omega]
  rfl
def unescS (l:List UInt8):List UInt8×Bool:=unesc l []
theorem unescaped_calls (s:ByteArray) (w:World) (_hs:s.size≤281474976710656):Calls Tryz.prog 199 #[.string s] w fun e w'=>e=.returned (.tuple #[.string (bs (unescS s.data.toList).1),.bool (unescS s.data.toList).2])∧w'=w:=by
 (go_enter Tryz.func199,Tryz.ntmps199);go_wp2;go_loop [4,5] (fun o i=>∃(k:Nat) (t:List UInt8),k≤s.size∧o=.string (bs t)∧i=.int .i64 k∧(bs t).size≤k∧Hid (unescS s.data.toList=unesc (s.data.toList.drop k) t)) (fun _ i=>s.size-(intOf i).toNat)
 case atStart=>exact⟨0,[],Nat.zero_le _,by rw [bs_nil],rfl,Nat.zero_le _,Hd rfl⟩
 case round =>
  obtain⟨k,t,hk,rfl,rfl,ht,HL⟩:=hrel;by_cases hp:k<s.size
  ·(have hl:k<s.data.toList.length:=by simpa using hp);have hg:=get_list s k hp;by_cases hc:(s[k].toNat:Int)=92
   ·(have g:((s[k].toNat:Int) !=92)=false:=by simpa using hc);by_cases h2:k+1<s.size
    ·(have hl2:k+1<s.data.toList.length:=by simpa using h2);have hg2:=get_list s (k+1) h2;(have e1:(s.data.toList[k].toNat:Int)=92:=by rw [hg];exact hc);cases he:escB s[k+1] with
     | none =>
       (have H0:=Hd (unesc_no s.data.toList t k hl e1 hl2 (by rw [hg2];exact he)));have hz:=escZ_none he;(have n1:(s[k+1].toNat:Int)≠34:=fun c=>by rw [c] at hz;simp [escZ] at hz);(have n2:(s[k+1].toNat:Int)≠92:=fun c=>by rw [c] at hz;simp [escZ] at hz);(have n3:(s[k+1].toNat:Int)≠110:=fun c=>by rw [c] at hz;simp [escZ] at hz);(have n4:(s[k+1].toNat:Int)≠116:=fun c=>by rw [c] at hz;simp [escZ] at hz);have g1:((s[k+1].toNat:Int)==34)=false:=beq_eq_false_iff_ne.2 n1;have g2:((s[k+1].toNat:Int)==92)=false:=beq_eq_false_iff_ne.2 n2;have g3:((s[k+1].toNat:Int)==110)=false:=beq_eq_false_iff_ne.2 n3;have g4:((s[k+1].toNat:Int)==116)=false:=beq_eq_false_iff_ne.2 n4;clear n1 n2 n3 n4 hz he hc hg hg2 e1;go_wp2;go_ret2;exact⟨by rw [HL.out,H0.out];rfl,rfl⟩
     | some c =>
       (have H0:=Hd (unesc_esc s.data.toList t k hl e1 hl2 (c:=c) (by rw [hg2];exact he)));(unfold escB at he);by_cases d1:s[k+1]=110
       ·(have hv:(s[k+1].toNat:Int)=110:=by rw [d1];rfl);(have hcv:c=10:=by simpa [d1] using he.symm);subst hcv;(have g1:((s[k+1].toNat:Int)==34)=false:=by rw [hv];rfl);(have g2:((s[k+1].toNat:Int)==92)=false:=by rw [hv];rfl);(have g3:((s[k+1].toNat:Int)==110)=true:=by rw [hv];rfl);clear he d1 hv hc hg hg2 e1;go_wp2;go_round
        case rel=>exact⟨k+2,t++[10],by omega,by rw [←bs_app];rfl,by go_num,by rw [bs_size] at ht ⊢;simp;omega,Hd (by rw [HL.out,H0.out])⟩
        case measure=>simp [intOf];omega
       by_cases d2:s[k+1]=116
       ·(have hv:(s[k+1].toNat:Int)=116:=by rw [d2];rfl);(have hcv:c=9:=by simpa [d2] using he.symm);subst hcv;(have g1:((s[k+1].toNat:Int)==34)=false:=by rw [hv];rfl);(have g2:((s[k+1].toNat:Int)==92)=false:=by rw [hv];rfl);(have g3:((s[k+1].toNat:Int)==110)=false:=by rw [hv];rfl);(have g4:((s[k+1].toNat:Int)==116)=true:=by rw [hv];rfl);clear he d1 d2 hv hc hg hg2 e1;go_wp2;go_round
        case rel=>exact⟨k+2,t++[9],by omega,by rw [←bs_app];rfl,by go_num,by rw [bs_size] at ht ⊢;simp;omega,Hd (by rw [HL.out,H0.out])⟩
        case measure=>simp [intOf];omega
       rw [if_neg d1,if_neg d2] at he;have hd:s[k+1]=34∨s[k+1]=92:=by
        by_cases h:s[k+1]=34∨s[k+1]=92
        ·exact h
        ·rw [if_neg h] at he;cases he
       (have hcv:s[k+1]=c:=by rw [if_pos hd] at he;simpa using he);have HC:=Hd hcv;rcases hd with d3|d3
       ·(have g1:((s[k+1].toNat:Int)==34)=true:=by rw [d3];rfl);clear he d1 d2 d3 hcv hc hg hg2 e1;go_wp2;go_round
        case rel=>exact⟨k+2,t++[c],by omega,by rw [one_bs s (k+1) h2,bs_app,HC.out],by go_num,by rw [bs_size] at ht ⊢;simp;omega,Hd (by rw [HL.out,H0.out])⟩
        case measure=>simp [intOf];omega
       ·(have g1:((s[k+1].toNat:Int)==34)=false:=by rw [d3];rfl);(have g2:((s[k+1].toNat:Int)==92)=true:=by rw [d3];rfl);clear he d1 d2 d3 hcv hc hg hg2 e1;go_wp2;go_round
        case rel=>exact⟨k+2,t++[c],by omega,by rw [one_bs s (k+1) h2,bs_app,HC.out],by go_num,by rw [bs_size] at ht ⊢;simp;omega,Hd (by rw [HL.out,H0.out])⟩
        case measure=>simp [intOf];omega
    ·(have H0:=Hd (unesc_open s.data.toList t k hl (by rw [hg];exact hc) (by simpa using (by omega:s.size≤k+1))));clear hc hg;go_wp2;go_ret2;exact⟨by rw [HL.out,H0.out];rfl,rfl⟩
   ·(have g:((s[k].toNat:Int) !=92)=true:=by simpa using hc);cases hb:badB (s[k].toNat:Int) with
    | true =>
      (have H0:=Hd (unesc_bad s.data.toList t k hl (by rw [hg];exact hc) (by rw [hg];exact hb)));clear hc hg;(unfold badB at hb);go_wp2;(all_goals go_ret2);all_goals exact⟨by rw [HL.out,H0.out];rfl,rfl⟩
    | false =>
      (have H0:=Hd (unesc_take s.data.toList t k hl (by rw [hg];exact hc) (by rw [hg];exact hb)));have HG:=Hd hg;have hb':=hb;(unfold badB at hb');(simp at hb');have g1:((s[k].toNat:Int)==34)=false:=beq_eq_false_iff_ne.2 hb'.1.1;have g2:((s[k].toNat:Int)==10)=false:=beq_eq_false_iff_ne.2 hb'.1.2;have g3:((s[k].toNat:Int)==9)=false:=beq_eq_false_iff_ne.2 hb'.2;clear hb hb' hc hg;go_wp2;go_round
      case rel=>exact⟨k+1,t++[s[k]],by omega,by rw [one_bs s k hp,bs_app],by go_num,by rw [bs_size] at ht ⊢;simp;omega,Hd (by rw [HL.out,H0.out,HG.out])⟩
      case measure=>simp [intOf];omega
  ·(have H0:=Hd (unesc_end s.data.toList t k (by simpa using (by omega:s.size≤k))));go_wp2;go_ret2;exact⟨by rw [HL.out,H0.out];rfl,rfl⟩
end
def closeIdx:List UInt8→Option Nat
  | []=>none
  | [c]=>if c=92 then none else if c=34 then some 0 else none
  | c::d::r=>if c=92 then (closeIdx r).map (·+2) else if c=34 then some 0 else (closeIdx (d::r)).map (·+1)
theorem closeFrom_idx:∀(l:List UInt8) (k:Nat),closeFrom l k=match closeIdx l with|none=>-1|some m=>((k+m:Nat):Int)
  | [],_=>rfl
  | [c],k=>by
    by_cases h1:c=92
    · simp [closeFrom,closeIdx,h1]
    · by_cases h2:c=34<;>simp [closeFrom,closeIdx,h1,h2]
  | c::d::r,k=>by
    have i1:=closeFrom_idx r (k+2)
    have i2:=closeFrom_idx (d::r) (k+1)
    by_cases h1:c=92
    · rw [closeFrom,closeIdx,if_pos h1,if_pos h1,i1]
      cases closeIdx r with
      | none=>rfl
      | some m=>simp only [Option.map_some];rw [show k+2+m=k+(m+2) by omega]
    · by_cases h2:c=34
      · simp [closeFrom,closeIdx,h2]
      · rw [closeFrom,closeIdx,if_neg h1,if_neg h1,if_neg h2,if_neg h2,i2]
        cases closeIdx (d::r) with
        | none=>rfl
        | some m=>simp only [Option.map_some];rw [show k+1+m=k+(m+1) by omega]
theorem unesc_grows:∀(l t:List UInt8),(unesc l t).2=true→∃s,(unesc l t).1=t++s
  | [],t=>fun _=>⟨[],by simp [unesc]⟩
  | [c],t=>by
    by_cases h1:c=92
    · simp [unesc,h1]
    · by_cases h2:c=34∨c=10∨c=9
      · simp [unesc,h1,h2]
      · intro _;exact⟨[c],by simp [unesc,h1,h2]⟩
  | c::d::r,t=>by
    by_cases h1:c=92
    · cases he:escB d with
      | none=>simp [unesc,h1,he]
      | some e =>
        have ih:=unesc_grows r (t++[e])
        rw [unesc,if_pos h1,he]
        intro h
        obtain⟨s,hs⟩:=ih h
        exact⟨e::s,by simpa using hs⟩
    · by_cases h2:c=34∨c=10∨c=9
      · simp [unesc,h1,h2]
      · have ih:=unesc_grows (d::r) (t++[c])
        rw [unesc_plain _ _ _ h1,if_neg h2]
        intro h
        obtain⟨s,hs⟩:=ih h
        exact⟨c::s,by simpa using hs⟩
def fin (o:List UInt8×Bool) (n:Nat):List UInt8×Nat:=if o.2=true∧o.1.length≤4096∧allB litZ o.1=true then (o.1,n) else ([],0)
theorem fin_no {o:List UInt8×Bool} (n:Nat) (h:o.2=false):fin o n=([],0):=by simp [fin,h]
theorem allB_append (p:Int→Bool) (a b:List UInt8):allB p (a++b)=(allB p a&&allB p b):=by simp [allB]
theorem fin_long (l t:List UInt8) (n:Nat) (h:4096<t.length):fin (unesc l t) n=([],0):=by
  unfold fin
  split
  · rename_i hh
    obtain⟨s,hs⟩:=unesc_grows l t hh.1
    rw [hs] at hh
    have:=hh.2.1
    simp at this
    omega
  · rfl
theorem fin_notlit (l t:List UInt8) (n:Nat) (h:allB litZ t=false):fin (unesc l t) n=([],0):=by
  unfold fin
  split
  · rename_i hh
    obtain⟨s,hs⟩:=unesc_grows l t hh.1
    rw [hs,allB_append,h] at hh
    simp at hh
  · rfl
theorem escB_lit {d e:UInt8} (h:escB d=some e):litZ (e.toNat:Int)=true:=by
  unfold escB at h
  by_cases h1:d=110
  · simp [h1] at h;subst h;decide
  · by_cases h2:d=116
    · simp [h2] at h;subst h;decide
    · by_cases h3:d=34
      · simp [h3] at h;subst h;decide
      · by_cases h4:d=92
        · simp [h4] at h;subst h;decide
        · simp [h1,h2,h3,h4] at h
theorem allB_one (p:Int→Bool) (c:UInt8):allB p [c]=p (c.toNat:Int):=by simp [allB]
def finAt (l t:List UInt8) (i:Nat):List UInt8×Nat:=match closeIdx l with|none=>([],0)|some m=>fin (unesc (l.take m) t) (i+m+2)
theorem fin_ok (t:List UInt8) (n:Nat) (h1:t.length≤4096) (h2:allB litZ t=true):fin (t,true) n=(t,n):=by simp [fin,h1,h2]
theorem unq_fin:∀(l t:List UInt8) (i:Nat),t.length≤4096→allB litZ t=true→unq l t false i=finAt l t i
  | [],t,i,_,_=>by simp [unq,finAt,closeIdx]
  | [c],t,i,ht,hl=>by
    rw [unq_cons]
    unfold finAt
    by_cases h1:c=92
    · simp [closeIdx,h1,unq]
    · by_cases h2:c=34
      · simp [closeIdx,h2,unesc,fin_ok t _ ht hl]
      · simp [closeIdx,h1,h2,unq]
  | c::d::r,t,i,ht,hl=>by
    rw [unq_cons]
    unfold finAt
    by_cases h1:c=92
    · have h2:¬c=34:=by subst h1;decide
      rw [if_neg h2,if_pos h1,closeIdx,if_pos h1]
      cases he:escB d with
      | none =>
        rw [unq,he]
        cases closeIdx r with
        | none=>rfl
        | some m=>simp only [Option.map_some,List.take_succ_cons];rw [fin_no];rw [unesc,if_pos h1,he]
      | some e =>
        rw [unq,he]
        have hl':allB litZ (t++[e])=true:=by rw [allB_append,hl,allB_one,escB_lit he];rfl
        by_cases h4:4096<t.length+1
        · simp only [h4,if_true]
          cases closeIdx r with
          | none=>rfl
          | some m =>
            simp only [Option.map_some,List.take_succ_cons]
            rw [unesc,if_pos h1,he]
            exact (fin_long _ _ _ (by simpa using h4)).symm
        · simp only [h4,if_false]
          rw [unq_fin r (t++[e]) (i+1+1) (by simp;omega) hl']
          unfold finAt
          cases closeIdx r with
          | none=>rfl
          | some m =>
            simp only [Option.map_some,List.take_succ_cons]
            rw [unesc,if_pos h1,he,show i+1+1+m+2=i+(m+2)+2 by omega]
    · by_cases h2:c=34
      · rw [if_pos h2,closeIdx,if_neg h1,if_pos h2]
        simp [unesc,fin_ok t _ ht hl]
      · rw [if_neg h2,if_neg h1,closeIdx,if_neg h1,if_neg h2]
        by_cases hb:c<32∨litZ (c.toNat:Int)=false
        · rw [if_pos hb]
          cases closeIdx (d::r) with
          | none=>rfl
          | some m =>
            simp only [Option.map_some,List.take_succ_cons]
            rw [unesc_plain _ _ _ h1]
            by_cases h3:c=34∨c=10∨c=9
            · rw [if_pos h3,fin_no];rfl
            · rw [if_neg h3]
              have hlit:litZ (c.toNat:Int)=false:=by
                rcases hb with hb|hb
                · rw [u8_lt32] at hb
                  have n1:¬(c.toNat:Int)=10:=fun e=>h3 (.inr (.inl ((u8_of (n:=10) (by omega)).1 e)))
                  have n2:¬(c.toNat:Int)=9:=fun e=>h3 (.inr (.inr ((u8_of (n:=9) (by omega)).1 e)))
                  simp [litZ];omega
                · exact hb
              exact (fin_notlit _ _ _ (by rw [allB_append,allB_one,hlit];simp)).symm
        · rw [if_neg hb]
          have hlit:litZ (c.toNat:Int)=true:=by
            cases e:litZ (c.toNat:Int) with
            | true=>rfl
            | false=>exact absurd (.inr e) hb
          have h3:¬(c=34∨c=10∨c=9):=by
            rintro (e|e|e)
            · exact h2 e
            · subst e;exact hb (.inl (by decide))
            · subst e;exact hb (.inl (by decide))
          by_cases h4:4096<t.length+1
          · rw [if_pos h4]
            cases closeIdx (d::r) with
            | none=>rfl
            | some m =>
              simp only [Option.map_some,List.take_succ_cons]
              rw [unesc_plain _ _ _ h1,if_neg h3]
              exact (fin_long _ _ _ (by simpa using h4)).symm
          · rw [if_neg h4,unq_fin (d::r) (t++[c]) (i+1) (by simp;omega) (by rw [allB_append,hl,allB_one,hlit];rfl)]
            unfold finAt
            cases closeIdx (d::r) with
            | none=>rfl
            | some m =>
              simp only [Option.map_some,List.take_succ_cons]
              rw [unesc_plain _ _ _ h1,if_neg h3,show i+1+m+2=i+(m+1)+2 by omega]
theorem has_one (l:List UInt8) (k:Nat) (b:UInt8):Lib.hasPrefix (l.drop k) [b]=true↔∃h:k<l.length,l[k]=b:=by
  by_cases h:k<l.length
  · rw [List.drop_eq_getElem_cons h]
    show (b==l[k]&&true)=true↔_
    simp only [Bool.and_true,beq_iff_eq]
    exact⟨fun e=>⟨h,e.symm⟩,fun ⟨_,e⟩=>e.symm⟩
  · rw [List.drop_eq_nil_of_le (by omega)]
    simp [Lib.hasPrefix,h]
theorem place_spec (b:Int):∀(r:List UInt8) (k:Nat),(placeFrom b r k = -1∧∀i (h:i<r.length),(r[i].toNat:Int)≠b)∨(∃n,∃h:n<r.length,placeFrom b r k=((k+n:Nat):Int)∧(r[n].toNat:Int)=b∧∀i (g:i<n),(r[i].toNat:Int)≠b)
  | [],k=>.inl ⟨rfl,fun i h=>by simp at h⟩
  | c::r,k=>by
    by_cases hc:(c.toNat:Int)=b
    · exact .inr ⟨0,by simp,by simp [placeFrom,hc],hc,fun i g=>by omega⟩
    · rcases place_spec b r (k+1) with ⟨h1,h2⟩|⟨n,hn,h1,h2,h3⟩
      · refine .inl ⟨by rw [placeFrom,if_neg hc,h1],fun i h=>?_⟩
        cases i with
        | zero=>exact hc
        | succ i=>exact h2 i (by simpa using h)
      · refine .inr ⟨n+1,by simpa using hn,by rw [placeFrom,if_neg hc,h1];congr 1;omega,h2,fun i g=>?_⟩
        cases i with
        | zero=>exact hc
        | succ i=>exact h3 i (by omega)
theorem lead_before (p:Nat→Int→Bool):∀(k:Nat) (l:List UInt8) (i:Nat) (_h:i<lead p k l) (g:i<l.length),p (k+i) (l[i].toNat:Int)=true
  | _,[],i,h,_=>by simp [lead] at h
  | k,b::r,i,h,g=>by
    rw [lead] at h
    split at h
    · rename_i hb
      cases i with
      | zero=>exact hb
      | succ i =>
        have:=lead_before p (k+1) r i (by omega) (by simpa using g)
        rw [show k+(i+1)=k+1+i by omega];exact this
    · omega
theorem lead_at (p:Nat→Int→Bool):∀(k:Nat) (l:List UInt8) (g:lead p k l<l.length),p (k+lead p k l) (l[lead p k l].toNat:Int)=false
  | _,[],g=>by simp at g
  | k,b::r,g=>by
    cases hb:p k (b.toNat:Int) with
    | false =>
      have e:lead p k (b::r)=0:=by simp [lead,hb]
      simp only [e,Nat.add_zero,List.getElem_cons_zero];exact hb
    | true =>
      have e:lead p k (b::r)=lead p (k+1) r+1:=by simp [lead,hb]
      have g':lead p (k+1) r<r.length:=by rw [e] at g;simpa using g
      have:=lead_at p (k+1) r g'
      simp only [e,List.getElem_cons_succ,show k+(lead p (k+1) r+1)=k+1+lead p (k+1) r by omega]
      exact this
theorem iri_not62 (i:Nat) (r:List UInt8) (h:i<iriLead r) (g:i<r.length):(r[i].toNat:Int)≠62:=by
  have:=lead_before _ 0 r i h g
  intro e
  rw [e] at this
  simp [iriZ,markZ] at this
theorem iriL_take (r:List UInt8) (n:Nat) (hn:n≤r.length):iriL (r.take n)=true↔0<n∧n≤iriLead r:=by
  unfold iriL
  have e:iriLead (r.take n)=min n (iriLead r):=lead_take _ 0 n r
  rw [e,List.length_take]
  cases n with
  | zero=>simp
  | succ n =>
    have hne:(r.take (n+1)).isEmpty=false:=by
      cases r with
      | nil=>simp at hn
      | cons b r=>rfl
    rw [hne];simp;omega
theorem bracket_ref (r:List UInt8):bracketS (60::r)=if 0<placeFrom 62 r 1∧iriL (r.take ((placeFrom 62 r 1).toNat-1))=true then (r.take ((placeFrom 62 r 1).toNat-1),(placeFrom 62 r 1).toNat+1) else ([],0):=by
 (have hpre:Lib.hasPrefix (60::r) [60]=true:=by simp [Lib.hasPrefix]);(unfold bracketS);(rw [if_pos hpre,show (60::r).drop 1=r from rfl,show (60::r).drop (iriLead r+1)=r.drop (iriLead r) from rfl]);have hh:=has_one r (iriLead r) 62;rcases place_spec 62 r 1 with ⟨h1,h2⟩|⟨n,hn,h1,h2,h3⟩
 ·(rw [h1,if_neg (show ¬(0<(-1:Int)∧_) from fun c=>by omega),if_pos]);(right);cases e:Lib.hasPrefix (r.drop (iriLead r)) [62] with
  | false=>rfl
  | true=>obtain⟨g,hg⟩:=hh.1 e;exact absurd (by rw [hg];rfl) (h2 _ g)
 ·(have ht:(((1+n:Nat):Int)).toNat-1=n:=by omega);rw [h1,ht];(have hm:r[n]=62:=(u8_of (n:=62) (by omega)).1 h2);have hle:iriLead r≤n:=by
   apply Nat.le_of_not_lt;intro g;exact iri_not62 n r g hn h2
  by_cases hi:iriL (r.take n)=true
  ·(obtain⟨hpos,hge⟩:=(iriL_take r n (by omega)).1 hi);(have hj:iriLead r=n:=by omega);rw [if_pos (show (0:Int)<((1+n:Nat):Int)∧_ from ⟨by omega,hi⟩),hj,if_neg]
   ·congr 1;omega
   ·rintro (c|c)
    ·omega
    ·rw [hj] at hh;rw [hh.2 ⟨hn,hm⟩] at c;cases c
  ·(rw [if_neg (show ¬((0:Int)<((1+n:Nat):Int)∧iriL (r.take n)=true) from fun c=>hi c.2),if_pos]);by_cases hj:iriLead r=0
   ·exact .inl hj
   ·(right);cases e:Lib.hasPrefix (r.drop (iriLead r)) [62] with
    | false=>rfl
    | true =>
      exfalso;obtain⟨g,hg⟩:=hh.1 e;have hnj:n=iriLead r:=by
       rcases Nat.lt_or_ge (iriLead r) n with c|c
       ·exact absurd (by rw [hg];rfl) (h3 _ c)
       ·omega
      exact hi ((iriL_take r n (by omega)).2 ⟨by omega,by omega⟩)
theorem langLead_min (r:List UInt8):∀k,k≤9→lead (fun k c=>decide (k≤8)&&smallZ c) k r=min (9-k) (lead (fun _ c=>smallZ c) 0 r):=by
  induction r with
  | nil=>intro k _;simp [lead]
  | cons b r ih =>
    intro k hk
    have sh:∀(j:Nat) (l:List UInt8),lead (fun _ c=>smallZ c) j l=lead (fun _ c=>smallZ c) 0 l:=by
      intro j l
      induction l generalizing j with
      | nil=>rfl
      | cons c l il=>rw [lead,lead,il (j+1),il (0+1)]
    rw [lead,lead,sh (0+1)]
    by_cases h8:k≤8
    · rw [ih (k+1) (by omega)]
      cases smallZ (b.toNat:Int) with
      | true=>simp [h8];omega
      | false=>simp
    · simp [h8];omega
theorem lang_ref (r:List UInt8):(if langL (r.take (lead (fun _ c=>smallZ c) 0 r))=true then (r.take (lead (fun _ c=>smallZ c) 0 r),lead (fun _ c=>smallZ c) 0 r+1) else ([],0))=if langLead r=0∨8<langLead r then ([],0) else (r.take (langLead r),langLead r+1):=by
 (have e:langLead r=min 9 (lead (fun _ c=>smallZ c) 0 r):=by unfold langLead;rw [langLead_min r 0 (by omega)]);(have hle:lead (fun _ c=>smallZ c) 0 r≤r.length:=lead_le _ _ _);(have e2:langLead (r.take (lead (fun _ c=>smallZ c) 0 r))=min (lead (fun _ c=>smallZ c) 0 r) (langLead r):=lead_take _ 0 _ r);have hl:langL (r.take (lead (fun _ c=>smallZ c) 0 r))=true↔1≤lead (fun _ c=>smallZ c) 0 r∧lead (fun _ c=>smallZ c) 0 r≤8:=by
  (unfold langL);rw [e2,List.length_take];cases hr:r with
  | nil=>simp [lead]
  | cons b l =>
    rw [←hr];(generalize lead (fun _ c=>smallZ c) 0 r=n at *);cases n with
    | zero=>simp
    | succ n =>
      (have hne:(r.take (n+1)).isEmpty=false:=by rw [hr];rfl);rw [hne];simp;omega
 by_cases h:1≤lead (fun _ c=>smallZ c) 0 r∧lead (fun _ c=>smallZ c) 0 r≤8
 ·rw [if_pos (hl.2 h),if_neg (by omega),show langLead r=lead (fun _ c=>smallZ c) 0 r by omega]
 ·rw [if_neg (fun c=>h (hl.1 c)),if_pos (by omega)]
def escOf (b:UInt8):List UInt8:=if b=34 then [92,34] else if b=92 then [92,92] else if b=10 then [92,110] else if b=9 then [92,116] else [b]
def escL:List UInt8→List UInt8
  | []=>[]
  | b::r=>escOf b++escL r
def tagT (y z:List UInt8):List UInt8:=if y.isEmpty then (if z.isEmpty then [] else 64::z) else 94::94::60::(y++[62])
def termT (t:TermL):List UInt8 :=
  if t.k=1 then 60::(t.x++[62]) else if t.k=3 then 95::58::t.x else if t.k=4 then 63::t.x
  else if t.k=2 then 34::(escL t.x++34::tagT t.y t.z) else []
theorem lead_stop (p:Nat→Int→Bool):∀(k:Nat) (l:List UInt8) (c:UInt8) (r:List UInt8),lead p k l=l.length→p (k+l.length) (c.toNat:Int)=false→lead p k (l++c::r)=l.length
  | k,[],c,r,_,hc=>by
    rw [List.nil_append,lead,if_neg (by rw [show k=k+([]:List UInt8).length from rfl,hc];decide)];rfl
  | k,b::l,c,r,h,hc=>by
    rw [lead] at h
    split at h
    · rename_i hb
      have ih:=lead_stop p (k+1) l c r (by simpa using h) (by rw [←hc];congr 1;simp;omega)
      rw [List.cons_append,lead,if_pos hb,ih];rfl
    · simp at h
theorem name_lead {x:List UInt8} (h:nameL x=true):x≠[]∧nameLead x=x.length:=by
  unfold nameL at h
  simp only [Bool.and_eq_true,Bool.not_eq_true',List.isEmpty_eq_false_iff,beq_iff_eq] at h
  exact h
theorem iri_lead {x:List UInt8} (h:iriL x=true):x≠[]∧iriLead x=x.length:=by
  unfold iriL at h
  simp only [Bool.and_eq_true,Bool.not_eq_true',List.isEmpty_eq_false_iff,beq_iff_eq] at h
  exact h
theorem lang_lead {x:List UInt8} (h:langL x=true):x≠[]∧langLead x=x.length∧x.length≤8:=by
  unfold langL at h
  simp only [Bool.and_eq_true,Bool.not_eq_true',List.isEmpty_eq_false_iff,beq_iff_eq,decide_eq_true_eq] at h
  exact⟨h.1.1,h.1.2,h.2⟩
theorem len_pos {α:Type} {x:List α} (h:x≠[]):0<x.length:=by
  cases x with
  | nil=>exact absurd rfl h
  | cons=>exact Nat.succ_pos _
theorem has_head (c:UInt8) (r:List UInt8):Lib.hasPrefix (c::r) [c]=true:=by simp [Lib.hasPrefix]
theorem has_two (c d:UInt8) (r:List UInt8):Lib.hasPrefix (c::d::r) [c,d]=true:=by simp [Lib.hasPrefix]
theorem bracket_back {x:List UInt8} (h:iriL x=true) (r:List UInt8):bracketS (60::(x++62::r))=(x,x.length+2):=by
  obtain⟨h1,h2⟩:=iri_lead h
  have hp:=len_pos h1
  have e:iriLead (x++62::r)=x.length:=lead_stop _ 0 x 62 r h2 (by
    have:iriZ ((62:UInt8).toNat:Int)=false:=by decide
    rw [this];exact Bool.and_false _)
  have d1:(60::(x++62::r)).drop 1=x++62::r:=rfl
  have d2:(60::(x++62::r)).drop (x.length+1)=62::r:=by rw [List.drop_succ_cons,List.drop_left]
  unfold bracketS
  rw [if_pos (has_head _ _),d1,e,d2,if_neg,List.take_left]
  rintro (c|c)
  · omega
  · rw [has_head] at c;cases c
theorem named_back {x:List UInt8} (h:nameL x=true) (k:Int) (a r:List UInt8):namedS k (a++(x++32::r)) a.length=(⟨k,x,[],[]⟩,a.length+x.length):=by
  obtain⟨h1,h2⟩:=name_lead h
  have hp:=len_pos h1
  have e:nameLead (x++32::r)=x.length:=lead_stop _ 0 x 32 r h2 (by
    have:∀k:Int,nameZ ((32:UInt8).toNat:Int) k=false:=fun k=>by simp [nameZ,letterZ,smallZ,bigZ,digitZ]
    rw [this];exact Bool.and_false _)
  unfold namedS
  rw [List.drop_left,e,if_neg (by omega),List.take_left]
theorem tag_back {y z:List UInt8} (h:tagL y z=true) (r:List UInt8):tagS (tagT y z++32::r)=(y,z,(tagT y z).length):=by
 (unfold tagL at h);(unfold tagT);cases hy:y with
 | nil =>
   cases hz:z with
   | nil=>rfl
   | cons c z2 =>
     rw [←hz];rw [hz,hy] at h;rw [←hz] at h;(have hz0:z.isEmpty=false:=by rw [hz];rfl);(rw [hz0,if_neg (by decide)] at h);have hl:langL z=true:=h;obtain⟨h1,h2,h3⟩:=lang_lead hl;have hp:=len_pos h1;have e:langLead (z++32::r)=z.length:=lead_stop _ 0 z 32 r h2 (by
      (have:smallZ ((32:UInt8).toNat:Int)=false:=by decide);rw [this];exact Bool.and_false _)
     (rw [if_pos (show ([]:List UInt8).isEmpty=true from rfl),if_neg (by rw [hz0];exact Bool.false_ne_true),List.cons_append]);have hS:langS (64::(z++32::r))=(z,z.length+1):=by
      (unfold langS);rw [show (64::(z++32::r)).drop 1=z++32::r from rfl,e,if_neg (by omega),List.take_left]
     (unfold tagS);rw [if_neg (by simp [Lib.hasPrefix]),if_pos (has_head _ _),hS];rfl
 | cons c y2 =>
   rw [←hy];have hz:z=[]:=by
    cases z with
    | nil=>rfl
    | cons=>rw [hy] at h;simp at h
   subst hz;have hi:iriL y=true:=by
    rw [hy] at h ⊢;simpa using h
   (rw [if_neg (by rw [hy];exact Bool.false_ne_true)]);(have hl:(94::94::60::(y++[62])++32::r:List UInt8)=94::94::(60::(y++62::(32::r))):=by simp);(have hd:(94::94::(60::(y++62::(32::r))):List UInt8).drop 2=60::(y++62::(32::r)):=rfl);have hS:typeS (94::94::(60::(y++62::(32::r))))=(y,y.length+4):=by
    (unfold typeS);rw [hd,bracket_back hi,if_neg (by simp)]
   rw [hl];(unfold tagS);rw [if_pos (has_two _ _ _),hS];simp
theorem unq_back:∀(x t r:List UInt8) (i:Nat),(x.all fun b=>litZ (b.toNat:Int))=true→t.length+x.length≤4096→unq (escL x++34::r) t false i=(t++x,i+(escL x).length+2)
  | [],t,r,i,_,_=>by rw [escL,List.nil_append,unq_cons,if_pos rfl];simp
  | b::x,t,r,i,h,hl=>by
    rw [List.all_cons,Bool.and_eq_true] at h
    rw [List.length_cons] at hl
    have ih:=fun (j:Nat)=>unq_back x (t++[b]) r j h.2 (by rw [List.length_append,List.length_singleton];omega)
    have hn:¬4096<t.length+1:=by omega
    have esc:∀(d:UInt8),escB d=some b→unq (92::d::(escL x++34::r)) t false i=(t++b::x,i+(2+(escL x).length)+2):=fun d hd=>by
      rw [unq_cons,if_neg (by decide),if_pos rfl,unq,hd]
      simp only
      rw [if_neg hn,ih]
      simp;omega
    have two:∀(d:UInt8),escOf b=[92,d]→escB d=some b→unq (escOf b++escL x++34::r) t false i=(t++b::x,i+(escOf b++escL x).length+2):=fun d he hd=>by
      rw [he,show [92,d]++escL x++34::r=92::d::(escL x++34::r) from rfl,esc d hd,show ([92,d]++escL x).length=2+(escL x).length by simp;omega]
    rw [escL]
    by_cases h1:b=34
    · subst h1
      exact two 34 rfl rfl
    · by_cases h2:b=92
      · subst h2
        exact two 92 rfl rfl
      · by_cases h3:b=10
        · subst h3
          exact two 110 rfl rfl
        · by_cases h4:b=9
          · subst h4
            exact two 116 rfl rfl
          · have he:escOf b=[b]:=by unfold escOf;rw [if_neg h1,if_neg h2,if_neg h3,if_neg h4]
            rw [he,show [b]++escL x++34::r=b::(escL x++34::r) from rfl,unq_cons,if_neg h1,if_neg h2,if_neg,if_neg hn,ih]
            · simp;omega
            · rintro (c|c)
              · have hlit:=h.1
                rw [u8_lt32] at c
                have n1:¬(b.toNat:Int)=10:=fun e=>h3 ((u8_of (n:=10) (by omega)).1 e)
                have n2:¬(b.toNat:Int)=9:=fun e=>h4 ((u8_of (n:=9) (by omega)).1 e)
                simp [litZ] at hlit
                omega
              · rw [h.1] at c;cases c
theorem literal_back {x y z:List UInt8} (hx:litL x=true) (h:tagL y z=true) (r:List UInt8):literalS (34::(escL x++34::tagT y z)++32::r)=(⟨2,x,y,z⟩,(34::(escL x++34::tagT y z)).length):=by
 (unfold litL at hx);rw [Bool.and_eq_true,decide_eq_true_eq] at hx;(have hs:34::(escL x++34::tagT y z)++32::r=34::(escL x++34::(tagT y z++32::r)):=by simp);have e:unquoteS (34::(escL x++34::(tagT y z++32::r)))=(x,(escL x).length+2):=by
  (unfold unquoteS);(rw [List.drop_succ_cons,List.drop_zero,unq_back x [] _ 0 hx.2 (by simpa using hx.1)]);simp
 have d:(34::(escL x++34::(tagT y z++32::r))).drop ((escL x).length+2)=tagT y z++32::r:=by
  rw [List.drop_succ_cons,show (escL x).length+1=(escL x++[34]).length by simp,show escL x++34::(tagT y z++32::r)=(escL x++[34])++(tagT y z++32::r) by simp,List.drop_left]
 rw [hs];(unfold literalS);(rw [e,if_neg (by simp),d,tag_back h]);simp;omega
theorem prefix_back {t:TermL} (h:rightL t.k t.x t.y t.z=true) (hk:t.k≠0) (r:List UInt8):prefixS (termT t++32::r)=(t,(termT t).length):=by
 obtain⟨k,x,y,z⟩:=t;dsimp only at h hk;(unfold rightL at h);(unfold termT);dsimp only;have bare:bareL y z=true→y=[]∧z=[]:=fun hb=>by
  (unfold bareL at hb);rw [Bool.and_eq_true,List.isEmpty_iff,List.isEmpty_iff] at hb;exact hb
 by_cases h1:k=1
 ·subst h1;rw [if_pos rfl,Bool.and_eq_true] at h;obtain⟨rfl,rfl⟩:=bare h.1;(rw [if_pos rfl,show 60::(x++[62])++32::r=60::(x++62::(32::r)) by simp]);(unfold prefixS iriS);(rw [if_pos (has_head _ _),bracket_back h.2,if_neg (by simp)]);simp
 ·rw [if_neg h1] at h ⊢;by_cases h3:k=3
  ·subst h3;rw [if_pos (.inl rfl),Bool.and_eq_true] at h;obtain⟨rfl,rfl⟩:=bare h.1;rw [if_pos rfl];have:=named_back h.2 3 [95,58] r;(unfold prefixS);(rw [if_neg (by simp [Lib.hasPrefix]),if_pos (by simp [Lib.hasPrefix])]);(simp only [List.cons_append,List.nil_append,List.length_cons,List.length_nil] at this ⊢);rw [this];simp;omega
  ·rw [if_neg h3];by_cases h4:k=4
   ·subst h4;rw [if_pos (.inr rfl),Bool.and_eq_true] at h;obtain⟨rfl,rfl⟩:=bare h.1;rw [if_pos rfl];have:=named_back h.2 4 [63] r;(unfold prefixS);(rw [if_neg (by simp [Lib.hasPrefix]),if_neg (by simp [Lib.hasPrefix]),if_pos (by simp [Lib.hasPrefix])]);(simp only [List.cons_append,List.nil_append,List.length_cons,List.length_nil] at this ⊢);rw [this];simp;omega
   ·(rw [if_neg (by rintro (c|c)<;>contradiction)] at h);rw [if_neg h4];by_cases h2:k=2
    ·subst h2;rw [if_pos rfl,Bool.and_eq_true] at h;rw [if_pos rfl];(unfold prefixS);rw [if_neg (by simp [Lib.hasPrefix]),if_neg (by simp [Lib.hasPrefix]),if_neg (by simp [Lib.hasPrefix]),if_pos (by simp [Lib.hasPrefix]),literal_back h.1 h.2]
    ·rw [if_neg h2,Bool.and_eq_true,Bool.and_eq_true,decide_eq_true_eq] at h;exact absurd h.1.1 hk
theorem nameL_ledA (l:List UInt8) (h:nameLead l≠0):nameL (l.take (nameLead l))=true:=by
  have e:nameLead (l.take (nameLead l))=min (nameLead l) (nameLead l):=lead_take _ 0 _ l
  have hle:nameLead l≤l.length:=lead_le _ 0 l
  unfold nameL
  rw [e,List.length_take,Nat.min_self,Nat.min_eq_left hle]
  cases l with
  | nil=>exact absurd rfl h
  | cons b r =>
    obtain⟨n,hn⟩:∃n,nameLead (b::r)=n+1:=⟨nameLead (b::r)-1,by omega⟩
    rw [hn];simp
theorem iriL_lead (l:List UInt8) (h:iriLead l≠0):iriL (l.take (iriLead l))=true :=
  (iriL_take l (iriLead l) (lead_le _ 0 l)).2 ⟨by omega,Nat.le_refl _⟩
theorem bracket_right (l:List UInt8) (h:(bracketS l).2≠0):iriL (bracketS l).1=true:=by
  unfold bracketS at h ⊢
  split
  · rename_i c
    rw [if_pos c] at h
    split
    · rename_i c2;rw [if_pos c2] at h;exact absurd rfl h
    · rename_i c2
      exact iriL_lead _ fun e=>c2 (.inl e)
  · rename_i c;rw [if_neg c] at h;exact absurd rfl h
theorem langL_ledA (l:List UInt8) (h0:langLead l≠0) (h8:langLead l≤8):langL (l.take (langLead l))=true:=by
  have e:langLead (l.take (langLead l))=min (langLead l) (langLead l):=lead_take _ 0 _ l
  have hle:langLead l≤l.length:=lead_le _ 0 l
  unfold langL
  rw [e,List.length_take,Nat.min_self,Nat.min_eq_left hle]
  cases l with
  | nil=>exact absurd rfl h0
  | cons b r =>
    obtain⟨n,hn⟩:∃n,langLead (b::r)=n+1:=⟨langLead (b::r)-1,by omega⟩
    rw [hn] at h8 ⊢
    simp;omega
theorem tag_right (r:List UInt8):tagL (tagS r).1 (tagS r).2.1=true:=by
  unfold tagS
  split
  · unfold typeS
    split
    · rfl
    · rename_i h
      unfold tagL
      dsimp only
      rw [bracket_right _ h]
      simp
  · split
    · unfold langS
      split
      · rfl
      · rename_i h
        have:=langL_ledA (r.drop 1) (fun c=>h (.inl c)) (Nat.le_of_not_lt fun c=>h (.inr c))
        unfold tagL
        dsimp only
        rw [this]
        split
        · rfl
        · rfl
    · rfl
theorem unq_right:∀(l t:List UInt8) (o:Bool) (i:Nat),(unq l t o i).2≠0→t.length≤4096→allB litZ t=true→(unq l t o i).1.length≤4096∧allB litZ (unq l t o i).1=true
  | [],t,o,i,h,_,_=>by rw [unq] at h;exact absurd rfl h
  | b::r,t,true,i,h,ht,hl=>by
    rw [unq] at h ⊢
    cases he:escB b with
    | none=>rw [he] at h;exact absurd rfl h
    | some c =>
      rw [he] at h
      simp only at h ⊢
      split at h
      · exact absurd rfl h
      · rename_i hc
        rw [if_neg hc]
        exact unq_right r (t++[c]) false (i+1) h (by simp;omega) (by rw [allB_append,hl,allB_one,escB_lit he];rfl)
  | b::r,t,false,i,h,ht,hl=>by
    rw [unq_cons] at h ⊢
    split at h
    · rename_i c;rw [if_pos c];exact⟨ht,hl⟩
    · rename_i c1
      rw [if_neg c1]
      split at h
      · rename_i c;rw [if_pos c];exact unq_right r t true (i+1) h ht hl
      · rename_i c2
        rw [if_neg c2]
        split at h
        · exact absurd rfl h
        · rename_i c3
          rw [if_neg c3]
          split at h
          · exact absurd rfl h
          · rename_i c4
            rw [if_neg c4]
            have hlit:litZ (b.toNat:Int)=true:=by
              cases e:litZ (b.toNat:Int) with
              | true=>rfl
              | false=>exact absurd (.inr e) c3
            exact unq_right r (t++[b]) false (i+1) h (by simp;omega) (by rw [allB_append,hl,allB_one,hlit];rfl)
theorem prefix_right (l:List UInt8) (h:0<(prefixS l).2):rightL (prefixS l).1.k (prefixS l).1.x (prefixS l).1.y (prefixS l).1.z=true∧(prefixS l).1.k≠0:=by
 (unfold prefixS at h ⊢);split
 ·rename_i c;rw [if_pos c] at h;(unfold iriS at h ⊢);split
  ·rename_i c2;rw [if_pos c2] at h;exact absurd h (by decide)
  ·rename_i c2;exact⟨by unfold rightL;dsimp only;rw [if_pos rfl,bracket_right _ c2];rfl,show (1:Int)≠0 by decide⟩
 ·rename_i c1;rw [if_neg c1] at h;have nm:∀(k:Int) (n:Nat),(k=3∨k=4)→0<(namedS k l n).2→rightL (namedS k l n).1.k (namedS k l n).1.x (namedS k l n).1.y (namedS k l n).1.z=true∧(namedS k l n).1.k≠0:=fun k n hk h=>by
   (unfold namedS at h ⊢);split
   ·rename_i c2;rw [if_pos c2] at h;exact absurd h (by decide)
   ·rename_i c2;(refine⟨?_,by dsimp only;omega⟩);(unfold rightL);dsimp only;rw [if_neg (by omega),if_pos hk,nameL_ledA _ c2];rfl
  split
  ·rename_i c;rw [if_pos c] at h;exact nm 3 2 (.inl rfl) h
  ·rename_i c2;rw [if_neg c2] at h;split
   ·rename_i c;rw [if_pos c] at h;exact nm 4 1 (.inr rfl) h
   ·rename_i c3;rw [if_neg c3] at h;split
    ·rename_i c;rw [if_pos c] at h;(unfold literalS at h ⊢);split
     ·rename_i c4;rw [if_pos c4] at h;exact absurd h (by decide)
     ·rename_i c4;(obtain⟨u1,u2⟩:=unq_right _ [] false 0 c4 (Nat.zero_le _) rfl);(refine⟨?_,show (2:Int)≠0 by decide⟩);(unfold rightL);dsimp only;(rw [if_neg (by decide),if_neg (by decide),if_pos rfl,tag_right,Bool.and_true]);(unfold litL unquoteS);rw [decide_eq_true u1];exact u2
    ·rename_i c;rw [if_neg c] at h;exact absurd h (by decide)
def tokT (t:TokL):List UInt8:=if t.k=2 then 63::t.x else if t.k=3 then termT t.t else t.x
def signsT:List (List UInt8):=[[60,61],[62,61],[33,61],[38,38],[124,124],[123],[125],[40],[41],[46],[44],[42],[43],[45],[47],[61],[60],[62],[33]]
inductive TokG:TokL→Prop where
  | word (x:List UInt8) (a:Int) (h:x≠[]) (h2:letterLead x=x.length):TokG ⟨1,x,noTerm,a⟩
  | var (x:List UInt8) (a:Int) (h:nameL x=true):TokG ⟨2,x,noTerm,a⟩
  | term (t:TermL) (a:Int) (h:rightL t.k t.x t.y t.z=true) (h2:t.k≠0) (h3:t.k≠4):TokG ⟨3,[],t,a⟩
  | num (x:List UInt8) (a:Int) (h:x≠[]) (h2:digitLead x=x.length):TokG ⟨4,x,noTerm,a⟩
  | sign (x:List UInt8) (a:Int) (h:x∈signsT):TokG ⟨5,x,noTerm,a⟩
theorem TokG.at {t:TokL} (h:TokG t) (a:Int):TokG (t.at a):=by
  cases h with
  | word x b h h2=>exact .word x a h h2
  | var x b h=>exact .var x a h
  | term t b h h2 h3=>exact .term t a h h2 h3
  | num x b h h2=>exact .num x a h h2
  | sign x b h=>exact .sign x a h
theorem litZ_digit {c:Int} (h:digitZ c=true):litZ c=true:=by simp [digitZ] at h;simp [litZ];omega
theorem lead_all (q:Int→Bool):∀(k:Nat) (l:List UInt8) (n:Nat),n≤lead (fun _ c=>q c) k l→((l.take n).all fun b=>q (b.toNat:Int))=true
  | _,[],n,_=>by rw [List.take_nil];rfl
  | _,_::_,0,_=>rfl
  | k,b::r,n+1,h=>by
    rw [lead] at h
    split at h
    · rename_i hb
      rw [List.take_succ_cons,List.all_cons,hb,lead_all q (k+1) r n (by omega)];rfl
    · omega
theorem decimal_right {l:List UInt8} {n:Nat} (hl:l.length≤4096) (hn:n≤digitLead l) (h:0<placesS (l.drop n)):litL (l.take (n+placesS (l.drop n)))=true:=by
 have h0:Lib.hasPrefix (l.drop n) [46]=true∧0<digitLead ((l.drop n).drop 1):=by
  (unfold placesS at h);split at h
  ·rename_i c;exact c
  ·exact absurd h (by decide)
 (have e:placesS (l.drop n)=digitLead ((l.drop n).drop 1)+1:=by unfold placesS;rw [if_pos h0]);(unfold litL);rw [Bool.and_eq_true,decide_eq_true_eq];(refine⟨by rw [List.length_take];omega,?_⟩);rw [e,List.take_add,List.all_append,Bool.and_eq_true];refine⟨?_,?_⟩
 ·have:=lead_all digitZ 0 l n hn;rw [List.all_eq_true] at this ⊢;exact fun b hb=>litZ_digit (this b hb)
 ·have h2:=h0.1;cases hd:l.drop n with
  | nil=>rw [hd] at h2;cases h2
  | cons c r =>
    rw [hd] at h2;(have hc:c=46:=by rw [pre_head] at h2;exact eq_of_beq h2);have:=lead_all digitZ 0 r (digitLead r) (Nat.le_refl _);(rw [show (c::r).drop 1=r from rfl,List.take_succ_cons,List.all_cons,hc,Bool.and_eq_true]);(refine⟨by decide,?_⟩);rw [List.all_eq_true] at this ⊢;exact fun b hb=>litZ_digit (this b hb)
theorem two_sign {l:List UInt8} (h:twoB l=true):l.take 2∈signsT:=by
  unfold twoB at h
  simp only [Bool.or_eq_true] at h
  rcases h with (((h|h)|h)|h)|h<;>(rw [pre_two _ _ _ h];decide)
theorem one_sign {l:List UInt8} (h:oneB l=true):l.take 1∈signsT:=by
  cases l with
  | nil=>cases h
  | cons c r =>
    unfold oneB oneZ at h
    simp only [decide_eq_true_eq,z123 c,z125 c,z40 c,z41 c,z46 c,z44 c,z42 c,z43 c,z45 c,z47 c,z61 c,z60 c,z62 c,z33 c] at h
    rcases h with rfl|rfl|rfl|rfl|rfl|rfl|rfl|rfl|rfl|rfl|rfl|rfl|rfl|rfl<;>(rw [List.take_succ_cons,List.take_zero];decide)
theorem take_lead (q:Int→Bool) (l:List UInt8):lead (fun _ c=>q c) 0 (l.take (lead (fun _ c=>q c) 0 l))=(l.take (lead (fun _ c=>q c) 0 l)).length:=by
  have hle:=lead_le (fun _ c=>q c) 0 l
  rw [lead_take,Nat.min_self,List.length_take];omega
theorem take_ne {l:List UInt8} {n:Nat} (h:0<n) (hn:n≤l.length):l.take n≠[]:=fun e=>by
  have:=congrArg List.length e
  rw [List.length_take,List.length_nil] at this
  omega
theorem word_good {l:List UInt8} (hl:l.length≤4096) (h:¬(wordS l).2=0):TokG (wordS l).1:=by
 (unfold wordS at h ⊢);split
 ·rename_i c;obtain⟨p1,p2⟩:=prefix_right l c;(unfold termTok);split
  ·rename_i c4;refine .var _ _ ?_;(unfold rightL at p1);(rw [c4,if_neg (by decide),if_pos (.inr rfl),Bool.and_eq_true] at p1);exact p1.2
  ·rename_i c4;exact .term _ _ p1 p2 c4
 ·rename_i c1;rw [if_neg c1] at h;split
  ·rename_i c;exact .word _ _ (take_ne c (lead_le _ 0 l)) (take_lead letterZ l)
  ·rename_i c2;rw [if_neg c2] at h;split
   ·rename_i c;(unfold digitsS);split
    ·rename_i c3;(refine .term _ _ ?_ (show (2:Int)≠0 by decide) (show (2:Int)≠4 by decide));(unfold rightL);dsimp only;(rw [if_neg (by decide),if_neg (by decide),if_pos rfl,decimal_right hl (Nat.le_refl _) c3]);rfl
    ·exact .num _ _ (take_ne c (lead_le _ 0 l)) (take_lead digitZ l)
   ·rename_i c3;rw [if_neg c3] at h;(unfold signS at h ⊢);split
    ·rename_i c4;rw [if_pos c4] at h;exact absurd rfl h
    ·rename_i c4;refine .sign _ _ ?_;(unfold signN at c4 ⊢);split
     ·rename_i c5;exact two_sign c5
     ·rename_i c5;rw [if_neg c5] at c4;split
      ·rename_i c6;exact one_sign c6
      ·rename_i c6;rw [if_neg c6] at c4;exact absurd rfl c4
theorem toks_good {l:List UInt8} (hl:l.length≤4096):∀f a,∀t∈(toksS l f a).1,TokG t
  | 0,a,t,h=>by cases h
  | f+1,a,t,h=>by
    rw [toksS] at h
    split at h
    · cases h
    · rename_i c1
      split at h
      · cases h
      · rename_i c2
        split at h
        · rcases List.mem_cons.1 h with rfl|h3
          · by_cases c3:(wordS (l.drop (begS l a))).2=0
            · rw [next_bad c2 c3] at c1;exact absurd (by decide) c1
            · rw [next_word c2 c3]
              exact (word_good (by rw [List.length_drop];omega) c3).at _
          · exact toks_good hl f _ t h3
        · cases h
theorem lex_good (l:List UInt8):∀t∈(lexS l).1,TokG t:=by
  unfold lexS
  split
  · intro t h;cases h
  · exact toks_good (by omega) _ _
theorem head_no {c:UInt8} {r:List UInt8} (h1:c≠60) (h2:c≠95) (h3:c≠63) (h4:c≠34):prefixS (c::r)=(noTerm,0):=by
  have e2:Lib.hasPrefix (c::r) [95,58]=false:=by
    cases h:Lib.hasPrefix (c::r) [95,58] with
    | false=>rfl
    | true =>
      cases r with
      | nil=>simp [Lib.hasPrefix] at h
      | cons d r=>simp [Lib.hasPrefix] at h;exact absurd h.1.symm h2
  unfold prefixS
  rw [pre_head,pre_head,pre_head,e2,beq_false_of_ne h1,beq_false_of_ne h3,beq_false_of_ne h4]
  rfl
theorem letter_head {c:UInt8} {r:List UInt8} (h:letterZ (c.toNat:Int)=true):prefixS (c::r)=(noTerm,0):=by
  refine head_no ?_ ?_ ?_ ?_<;>(rintro rfl;revert h;decide)
theorem digit_head {c:UInt8} {r:List UInt8} (h:digitZ (c.toNat:Int)=true):prefixS (c::r)=(noTerm,0)∧letterLead (c::r)=0:=by
  refine⟨?_,?_⟩
  · refine head_no ?_ ?_ ?_ ?_<;>(rintro rfl;revert h;decide)
  · unfold letterLead
    rw [lead,if_neg]
    simp [digitZ] at h
    simp [letterZ,smallZ,bigZ];omega
theorem sign_back {x:List UInt8} (h:x∈signsT) (r:List UInt8):wordS (x++32::r)=(⟨5,x,noTerm,0⟩,x.length)∧0<x.length∧spaceLead (x++32::r)=0:=by
  unfold signsT at h
  simp only [List.mem_cons,List.not_mem_nil,or_false] at h
  rcases h with rfl|rfl|rfl|rfl|rfl|rfl|rfl|rfl|rfl|rfl|rfl|rfl|rfl|rfl|rfl|rfl|rfl|rfl|rfl<;>exact⟨rfl,by decide,rfl⟩
theorem space_none {c:UInt8} {r:List UInt8} (h:spaceZ (c.toNat:Int)=false):spaceLead (c::r)=0:=by
  unfold spaceLead
  rw [lead,h];rfl
theorem word_back {t:TokL} (h:TokG t) (r:List UInt8):wordS (tokT t++32::r)=(t.at 0,(tokT t).length)∧0<(tokT t).length∧spaceLead (tokT t++32::r)=0:=by
 cases h with
 | word x a h h2 =>
   (show wordS (x++32::r)=(⟨1,x,noTerm,0⟩,x.length)∧0<x.length∧spaceLead (x++32::r)=0);(have e:letterLead (x++32::r)=x.length:=lead_stop _ 0 x 32 r h2 (by decide));have hp:=len_pos h;cases hx:x with
   | nil=>exact absurd hx h
   | cons c s =>
     have hc:letterZ (c.toNat:Int)=true:=by
      cases g:letterZ (c.toNat:Int) with
      | true=>rfl
      | false =>
        (unfold letterLead at h2);(rw [hx,lead,g,if_neg (by decide)] at h2);simp at h2
     have hP:=letter_head (r:=s++32::r) hc;rw [hx] at e hp;refine⟨?_,hp,?_⟩
     ·(unfold wordS);rw [e,show c::s++32::r=c::(s++32::r) from rfl,hP,if_neg (by decide),if_pos hp,show c::(s++32::r)=c::s++32::r from rfl,List.take_left]
     ·refine space_none ?_;(simp [letterZ,smallZ,bigZ] at hc);simp [spaceZ];omega
 | var x a h =>
   (show wordS (63::x++32::r)=(⟨2,x,noTerm,0⟩,(63::x).length)∧0<(63::x).length∧spaceLead (63::x++32::r)=0);have e:prefixS (63::x++32::r)=(⟨4,x,[],[]⟩,(63::x).length):=prefix_back (t:=⟨4,x,[],[]⟩) (by
    (unfold rightL);dsimp only;rw [if_neg (by decide),if_pos (.inr rfl),h];rfl) (show (4:Int)≠0 by decide) r
   refine⟨?_,Nat.succ_pos _,rfl⟩;(unfold wordS);rw [e,if_pos (show 0<(63::x).length from Nat.succ_pos _)];rfl
 | term t a h h2 h3 =>
   (show wordS (termT t++32::r)=(⟨3,[],t,0⟩,(termT t).length)∧0<(termT t).length∧spaceLead (termT t++32::r)=0);have e:=prefix_back h h2 r;have hs:∃c s,termT t=c::s∧spaceZ (c.toNat:Int)=false:=by
    (unfold rightL at h);(unfold termT);by_cases c1:t.k=1
    ·rw [if_pos c1];exact⟨_,_,rfl,by decide⟩
    ·rw [if_neg c1];by_cases c3:t.k=3
     ·rw [if_pos c3];exact⟨_,_,rfl,by decide⟩
     ·rw [if_neg c3,if_neg h3];by_cases c2:t.k=2
      ·rw [if_pos c2];exact⟨_,_,rfl,by decide⟩
      ·(rw [if_neg c1,if_neg (by rintro (c|c)<;>contradiction),if_neg c2,Bool.and_eq_true,Bool.and_eq_true,decide_eq_true_eq] at h);exact absurd h.1.1 h2
   obtain⟨c,s,hc,hz⟩:=hs;(have hp:0<(termT t).length:=by rw [hc];exact Nat.succ_pos _);(refine⟨?_,hp,by rw [hc];exact space_none hz⟩);(unfold wordS);rw [e,if_pos hp];(unfold termTok);rw [if_neg h3]
 | num x a h h2 =>
   (show wordS (x++32::r)=(⟨4,x,noTerm,0⟩,x.length)∧0<x.length∧spaceLead (x++32::r)=0);(have e:digitLead (x++32::r)=x.length:=lead_stop _ 0 x 32 r h2 (by decide));have hp:=len_pos h;have hD:digitsS (x++32::r) x.length=(⟨4,x,noTerm,0⟩,x.length):=by
    (unfold digitsS);rw [List.drop_left,if_neg (by unfold placesS;rw [if_neg (by rintro⟨c,_⟩;cases c)];decide),List.take_left]
   cases hx:x with
   | nil=>exact absurd hx h
   | cons c s =>
     have hc:digitZ (c.toNat:Int)=true:=by
      cases g:digitZ (c.toNat:Int) with
      | true=>rfl
      | false =>
        (unfold digitLead at h2);(rw [hx,lead,g,if_neg (by decide)] at h2);simp at h2
     obtain⟨hP,hL⟩:=digit_head (r:=s++32::r) hc;rw [hx] at e hp hD;refine⟨?_,hp,?_⟩
     ·(unfold wordS);(rw [e,show c::s++32::r=c::(s++32::r) from rfl,hP,hL,if_neg (by decide),if_neg (by decide),if_pos hp]);exact hD
     ·refine space_none ?_;(simp [digitZ] at hc);simp [spaceZ];omega
 | sign x a h=>exact sign_back h r
def spread:List TokL→(Nat→List UInt8)→Nat→List UInt8
  | [],_,_=>[]
  | t::T,b,i=>tokT t++32::(b i++spread T b (i+1))
theorem spread_snoc (t:TokL) (b:Nat→List UInt8):∀(T:List TokL) (i:Nat),spread (T++[t]) b i=spread T b i++(tokT t++32::b (i+T.length))
  | [],i=>by simp [spread]
  | s::T,i=>by
    rw [List.cons_append,spread,spread,spread_snoc t b T (i+1),show i+(s::T).length=i+1+T.length by rw [List.length_cons];omega]
    simp
theorem spread_long (b:Nat→List UInt8):∀(T:List TokL) (i:Nat),T.length≤(spread T b i).length
  | [],_=>Nat.le_refl _
  | t::T,i=>by
    have:=spread_long b T (i+1)
    rw [spread];simp;omega
def Spaces (l:List UInt8):Prop:=∀c∈l,spaceZ (c.toNat:Int)=true
theorem space_over:∀(s r:List UInt8) (k:Nat),Spaces s→lead (fun _ c=>spaceZ c) k (s++r)=s.length+lead (fun _ c=>spaceZ c) (k+s.length) r
  | [],r,k,_=>by simp
  | c::s,r,k,h=>by
    rw [List.cons_append,lead,if_pos (h c (List.mem_cons_self ..)),space_over s r (k+1) (fun d hd=>h d (List.mem_cons_of_mem _ hd)),List.length_cons,show k+1+s.length=k+(s.length+1) by omega]
    omega
theorem toks_back (l:List UInt8) (b:Nat→List UInt8) (hb:∀i,Spaces (b i)):∀(T:List TokL) (i f a:Nat) (s:List UInt8),a≤l.length→l.drop a=s++spread T b i→Spaces s→T.length<f→(∀t∈T,TokG t) →
    (toksS l f a).2.2=0∧(toksS l f a).2.1=0∧(toksS l f a).1.map (fun t=>t.at 0)=T.map fun t=>t.at 0
  | T,i,0,_,_,_,_,_,h,_=>absurd h (Nat.not_lt_zero _)
  | [],i,f+1,a,s,ha,hd,hs,_,_=>by
    have e:begS l a=l.length:=by
      unfold begS spaceLead
      rw [hd,space_over s _ 0 hs]
      have:=congrArg List.length hd
      rw [List.length_drop,List.length_append] at this
      simp only [spread,lead,List.length_nil] at this ⊢
      omega
    rw [toksS,next_end e,if_neg (by simp),if_pos e]
    exact⟨rfl,rfl,rfl⟩
  | t::T,i,f+1,a,s,ha,hd,hs,hf,hT=>by
    obtain⟨w1,w2,w3⟩:=word_back (hT t (List.mem_cons_self ..)) (b i++spread T b (i+1))
    have hlen:=congrArg List.length hd
    rw [List.length_drop,List.length_append,spread,List.length_append,List.length_cons] at hlen
    have e:begS l a=a+s.length:=by
      unfold begS spaceLead
      rw [hd,space_over s _ 0 hs,spread,lead_free _ (0+s.length) 0]
      unfold spaceLead at w3
      rw [w3];omega
    have hdr:l.drop (begS l a)=tokT t++32::(b i++spread T b (i+1)):=by
      rw [e,←List.drop_drop,hd,List.drop_left,spread]
    have c1:¬begS l a=l.length:=by omega
    have hn:=next_word c1 (by rw [hdr,w1];dsimp only;omega)
    rw [hdr,w1] at hn
    dsimp only at hn
    have ih:=toks_back l b hb T (i+1) f (begS l a+(tokT t).length) (32::b i) (by omega) (by
      rw [←List.drop_drop,hdr,List.drop_left];rfl) (fun c hc=>by
        rcases List.mem_cons.1 hc with rfl|hc
        · decide
        · exact hb i c hc) (by simpa using hf) (fun u hu=>hT u (List.mem_cons_of_mem _ hu))
    rw [toksS,hn,if_neg (by simp),if_neg c1]
    dsimp only
    rw [if_pos ih.1]
    refine⟨rfl,rfl,?_⟩
    rw [List.map_cons,List.map_cons,ih.2.2];rfl
theorem lex_back {T:List TokL} (hT:∀t∈T,TokG t) {b:Nat→List UInt8} (hb:∀i,Spaces (b i)) (h:(spread T b 0).length≤4096):(lexS (spread T b 0)).2.2=0∧(lexS (spread T b 0)).1.map (fun t=>t.at 0)=T.map fun t=>t.at 0:=by
  have hl:=spread_long b T 0
  have:=toks_back (spread T b 0) b hb T 0 ((spread T b 0).length+1) 0 [] (Nat.zero_le _) rfl (fun _ h=>by cases h) (by omega) hT
  unfold lexS
  rw [if_neg (by omega)]
  exact⟨this.1,this.2.2⟩
section
open Go.RowKit
theorem escL_append:∀a b:List UInt8,escL (a++b)=escL a++escL b
  | [],_=>rfl
  | c::a,b=>by rw [List.cons_append,escL,escL,escL_append a b,List.append_assoc]
theorem escOf_len (b:UInt8):(escOf b).length≤2:=by
  unfold escOf
  repeat' split
  all_goals simp
theorem escL_len:∀l:List UInt8,(escL l).length≤2*l.length
  | []=>Nat.le_refl _
  | b::r=>by
    have h1:=escOf_len b
    have h2:=escL_len r
    rw [escL,List.length_append,List.length_cons];omega
theorem escL_next (l:List UInt8) (k:Nat) (h:k<l.length):escL (l.take (k+1))=escL (l.take k)++escOf l[k]:=by
  rw [List.take_succ_eq_append_getElem h,escL_append]
  simp [escL]
theorem esc_grown {t:List UInt8} {l:List UInt8} {k:Nat} (ht:t=escL (l.take k)) (h:k<l.length) {e:List UInt8} (he:escOf l[k]=e):t++e=escL (l.take (k+1)):=by rw [escL_next l k h,ht,he]
theorem rescaped_calls (s:ByteArray) (w:World) (hs:s.size≤1000000):Calls Tryz.prog 111 #[.string s] w fun e w'=>e=.returned (.string (bs (escL s.data.toList)))∧w'=w:=by
 (go_enter Tryz.func111,Tryz.ntmps111);go_wp2;go_loop [3,4] (fun o i=>∃(k:Nat) (t:List UInt8),k≤s.size∧o=.string (bs t)∧i=.int .i64 k∧(bs t).size≤2*k∧Hid (t=escL (s.data.toList.take k))) (fun _ i=>s.size-(intOf i).toNat)
 case atStart=>exact⟨0,[],Nat.zero_le _,by rw [bs_nil],rfl,Nat.zero_le _,Hd rfl⟩
 case round =>
  obtain⟨k,t,hk,rfl,rfl,ht,HL⟩:=hrel;by_cases hp:k<s.size
  ·(have hl:k<s.data.toList.length:=by simpa using hp);have hg:=get_list s k hp;(have HN:=Hd (fun e he=>esc_grown (e:=e) HL.out hl he));rw [hg] at HN;by_cases h1:s[k]=34
   ·(have H0:=Hd (HN.out [92,34] (by rw [h1];rfl)));(have g1:((s[k].toNat:Int)==34)=true:=by rw [h1];rfl);clear hg HN h1;go_wp2;go_round
    case rel=>exact⟨k+1,t++[92,34],by omega,by rw [←bs_app];rfl,by go_num,by rw [bs_size] at ht ⊢;simp;omega,H0⟩
    case measure=>simp [intOf];omega
   by_cases h2:s[k]=92
   ·(have H0:=Hd (HN.out [92,92] (by rw [h2];rfl)));(have g1:((s[k].toNat:Int)==34)=false:=by rw [h2];rfl);(have g2:((s[k].toNat:Int)==92)=true:=by rw [h2];rfl);clear hg HN h1 h2;go_wp2;go_round
    case rel=>exact⟨k+1,t++[92,92],by omega,by rw [←bs_app];rfl,by go_num,by rw [bs_size] at ht ⊢;simp;omega,H0⟩
    case measure=>simp [intOf];omega
   by_cases h3:s[k]=10
   ·(have H0:=Hd (HN.out [92,110] (by rw [h3];rfl)));(have g1:((s[k].toNat:Int)==34)=false:=by rw [h3];rfl);(have g2:((s[k].toNat:Int)==92)=false:=by rw [h3];rfl);(have g3:((s[k].toNat:Int)==10)=true:=by rw [h3];rfl);clear hg HN h1 h2 h3;go_wp2;go_round
    case rel=>exact⟨k+1,t++[92,110],by omega,by rw [←bs_app];rfl,by go_num,by rw [bs_size] at ht ⊢;simp;omega,H0⟩
    case measure=>simp [intOf];omega
   by_cases h4:s[k]=9
   ·(have H0:=Hd (HN.out [92,116] (by rw [h4];rfl)));(have g1:((s[k].toNat:Int)==34)=false:=by rw [h4];rfl);(have g2:((s[k].toNat:Int)==92)=false:=by rw [h4];rfl);(have g3:((s[k].toNat:Int)==10)=false:=by rw [h4];rfl);(have g4:((s[k].toNat:Int)==9)=true:=by rw [h4];rfl);clear hg HN h1 h2 h3 h4;go_wp2;go_round
    case rel=>exact⟨k+1,t++[92,116],by omega,by rw [←bs_app];rfl,by go_num,by rw [bs_size] at ht ⊢;simp;omega,H0⟩
    case measure=>simp [intOf];omega
   (have H0:=Hd (HN.out [s[k]] (by unfold escOf;rw [if_neg h1,if_neg h2,if_neg h3,if_neg h4])));(have g1:((s[k].toNat:Int)==34)=false:=beq_eq_false_iff_ne.2 fun c=>h1 ((u8_of (n:=34) (by omega)).1 c));(have g2:((s[k].toNat:Int)==92)=false:=beq_eq_false_iff_ne.2 fun c=>h2 ((u8_of (n:=92) (by omega)).1 c));(have g3:((s[k].toNat:Int)==10)=false:=beq_eq_false_iff_ne.2 fun c=>h3 ((u8_of (n:=10) (by omega)).1 c));(have g4:((s[k].toNat:Int)==9)=false:=beq_eq_false_iff_ne.2 fun c=>h4 ((u8_of (n:=9) (by omega)).1 c));clear hg HN h1 h2 h3 h4;go_wp2;go_round
   case rel=>exact⟨k+1,t++[s[k]],by omega,by rw [one_bs s k hp,bs_app],by go_num,by rw [bs_size] at ht ⊢;simp;omega,H0⟩
   case measure=>simp [intOf];omega
  ·(have H0:=Hd (show t=escL s.data.toList from by rw [HL.out,List.take_of_length_le (by simpa using (by omega:s.size≤k))]));go_wp2;go_ret;exact⟨by rw [H0.out];rfl,rfl⟩
theorem rText_calls (t:TermL) (h:rightL t.k t.x t.y t.z=true) (hx:t.x.length≤100000) (hy:t.y.length≤100000) (hz:t.z.length≤100000) (w:World):Calls Tryz.prog 73 #[t.v] w fun e w'=>e=.returned (.string (bs (termT t)))∧Below w.heap.size w w':=by
 obtain⟨k,x,y,z⟩:=t;dsimp only at h hx hy hz;(have HES:=Hd (fun W=>rescaped_calls (bs x) W (by rw [bs_size];omega)));(simp only [bs_data] at HES);(have hx2:(bs x).size≤100000:=by rw [bs_size];exact hx);(have hy2:(bs y).size≤100000:=by rw [bs_size];exact hy);(have hz2:(bs z).size≤100000:=by rw [bs_size];exact hz);(have he2:(bs (escL x)).size≤200000:=by rw [bs_size];have:=escL_len x;omega);(unfold rightL at h);(simp only [TermL.v]);by_cases h1:k=1
 ·subst h1;(have HT:=Hd (show termT ⟨1,x,y,z⟩=[60]++x++[62] from rfl));clear h;(go_enter Tryz.func73,Tryz.ntmps73);go_wp2;go_ret;exact⟨by rw [HT.out,←bs_app,←bs_app];rfl,box_below _ _⟩
 rw [if_neg h1] at h;by_cases h3:k=3
 ·subst h3;(have HT:=Hd (show termT ⟨3,x,y,z⟩=[95,58]++x from rfl));clear h;(go_enter Tryz.func73,Tryz.ntmps73);go_wp2;go_ret;exact⟨by rw [HT.out,←bs_app];rfl,box_below _ _⟩
 by_cases h4:k=4
 ·subst h4;(have HT:=Hd (show termT ⟨4,x,y,z⟩=[63]++x from rfl));clear h;(go_enter Tryz.func73,Tryz.ntmps73);go_wp2;go_ret;exact⟨by rw [HT.out,←bs_app];rfl,box_below _ _⟩
 (rw [if_neg (by rintro (c|c)<;>contradiction)] at h);by_cases h2:k=2
 ·subst h2;(have ey:((bs y).toList !=[])=!y.isEmpty:=by rw [bs_toList];cases y<;>rfl);(have ez:((bs z).toList !=[])=!z.isEmpty:=by rw [bs_toList];cases z<;>rfl);(have ey2:(bs y).toList.isEmpty=y.isEmpty:=by rw [bs_toList]);(have ez2:(bs z).toList.isEmpty=z.isEmpty:=by rw [bs_toList]);clear h;by_cases hy0:y=[]
  ·subst hy0;by_cases hz0:z=[]
   ·subst hz0;(have HT:=Hd (show termT ⟨2,x,[],[]⟩=[34]++escL x++[34] from by unfold termT tagT;simp));(go_enter Tryz.func73,Tryz.ntmps73);(go_wp2_with fail);refine (HES.out _).mono ?_;rintro e w2 ⟨rfl,hw2⟩;subst hw2;go_wp2;go_ret;exact⟨by rw [HT.out,←bs_app,←bs_app];rfl,box_below _ _⟩
   ·(have hzb:z.isEmpty=false:=by cases z with|nil=>exact absurd rfl hz0|cons=>rfl);rw [hzb] at ez ez2;(have HT:=Hd (show termT ⟨2,x,[],z⟩=[34]++escL x++[34]++[64]++z from by unfold termT tagT;rw [hzb];simp));clear hz0 hzb;(go_enter Tryz.func73,Tryz.ntmps73);(go_wp2_with fail);refine (HES.out _).mono ?_;rintro e w2 ⟨rfl,hw2⟩;subst hw2;go_wp2;go_ret;exact⟨by rw [HT.out,←bs_app,←bs_app,←bs_app,←bs_app];rfl,box_below _ _⟩
  ·(have hyb:y.isEmpty=false:=by cases y with|nil=>exact absurd rfl hy0|cons=>rfl);rw [hyb] at ey ey2;(have HT:=Hd (show termT ⟨2,x,y,z⟩=[34]++escL x++[34]++[94,94,60]++y++[62] from by unfold termT tagT;rw [hyb];simp));clear hy0 hyb;(go_enter Tryz.func73,Tryz.ntmps73);(go_wp2_with fail);refine (HES.out _).mono ?_;rintro e w2 ⟨rfl,hw2⟩;subst hw2;go_wp2;go_ret;exact⟨by rw [HT.out,←bs_app,←bs_app,←bs_app,←bs_app,←bs_app];rfl,box_below _ _⟩
 rw [if_neg h2,Bool.and_eq_true,Bool.and_eq_true,decide_eq_true_eq] at h;obtain⟨⟨h0,_⟩,_⟩:=h;subst h0;(have HT:=Hd (show termT ⟨0,x,y,z⟩=[] from rfl));(go_enter Tryz.func73,Tryz.ntmps73);go_wp2;go_ret;exact⟨by rw [HT.out];rfl,box_below _ _⟩
def TokS5 (t:TokL):Prop:=t.x.length≤100000∧(t.t.x.length≤100000∧t.t.y.length≤100000∧t.t.z.length≤100000)
theorem rtext5_calls (t:TokL) (h:TokG t) (hs:TokS5 t) (w:World):Calls Tryz.prog 29 #[t.v] w fun e w'=>e=.returned (.string (bs (tokT t)))∧Below w.heap.size w w':=by
 obtain⟨s1,s2,s3,s4⟩:=hs;cases h with
 | word x a h h2 =>
   clear h h2 s1 s2 s3 s4;(simp only [TokL.v,noTerm]);(go_enter Tryz.func29,Tryz.ntmps29);go_wp2;go_ret;exact⟨rfl,by first|exact Below.refl _ _|exact box_below _ _⟩
 | num x a h h2 =>
   clear h h2 s1 s2 s3 s4;(simp only [TokL.v,noTerm]);(go_enter Tryz.func29,Tryz.ntmps29);go_wp2;go_ret;exact⟨rfl,by first|exact Below.refl _ _|exact box_below _ _⟩
 | sign x a h =>
   clear h s1 s2 s3 s4;(simp only [TokL.v,noTerm]);(go_enter Tryz.func29,Tryz.ntmps29);go_wp2;go_ret;exact⟨rfl,by first|exact Below.refl _ _|exact box_below _ _⟩
 | var x a h =>
   (have hx2:(bs x).size≤100000:=by rw [bs_size];exact s1);(have HT:=Hd (show tokT ⟨2,x,noTerm,a⟩=[63]++x from rfl));clear h s1 s2 s3 s4;(simp only [TokL.v,noTerm]);(go_enter Tryz.func29,Tryz.ntmps29);go_wp2;go_ret;exact⟨by rw [show tokT ⟨2,x,⟨0,[],[],[]⟩,a⟩=[63]++x from rfl,←bs_app];rfl,by first|exact Below.refl _ _|exact box_below _ _⟩
 | term u a h h2 h3 =>
   dsimp only at s2 s3 s4;(have HR:=Hd (fun W=>rRight_calls u.k (bs u.x) (bs u.y) (bs u.z) W (by rw [bs_size];unfold maxLen;omega) (by rw [bs_size];unfold maxLen;omega) (by rw [bs_size];unfold maxLen;omega)));(simp only [bs_data,h] at HR);(have HX:=Hd (fun W=>rText_calls u h s2 s3 s4 W));obtain⟨k,x,y,z⟩:=u;(have HT:=Hd (show tokT ⟨3,[],⟨k,x,y,z⟩,a⟩=termT ⟨k,x,y,z⟩ from rfl));clear h h2 h3 s1 s2 s3 s4;(simp only [TermL.v] at HX);(simp only [TokL.v]);(go_enter Tryz.func29,Tryz.ntmps29);(go_wp2_with fail);refine (HR.out _).mono ?_;rintro e w2 ⟨rfl,hb2⟩;have HB2:=Hd (one_box hb2);(have HZ:=Hd (blk_on (blk_new w 69 #[.int .i64 3,.string (bs []),.int .i64 k,.string (bs x),.string (bs y),.string (bs z),.int .i64 a]) hb2 (by simp)));clear hb2;have c2:=bq HZ.out 2;have c3:=bq HZ.out 3;have c4:=bq HZ.out 4;have c5:=bq HZ.out 5;(go_wp2_with fail);refine (HX.out _).mono ?_;rintro e w3 ⟨rfl,hb3⟩;have HB3:=Hd (HB2.out.trans (hb3.mono HB2.out.size));clear hb3;go_wp2;go_ret;exact⟨by rw [HT.out];rfl,HB3.out⟩
def Tok7 (w:World) (g o:Nat) (t:TokL):Prop :=
  w.cell? ⟨g,o,none⟩=some (.int .i64 t.k)∧w.cell? ⟨g,o+1,none⟩=some (.string (bs t.x))∧w.cell? ⟨g,o+2,none⟩=some (.int .i64 t.t.k)∧w.cell? ⟨g,o+3,none⟩=some (.string (bs t.t.x)) ∧
  w.cell? ⟨g,o+4,none⟩=some (.string (bs t.t.y))∧w.cell? ⟨g,o+5,none⟩=some (.string (bs t.t.z))∧w.cell? ⟨g,o+6,none⟩=some (.int .i64 t.a)
theorem rJoin1_calls (t:TokL) (h:TokG t) (hs:TokS5 t) (g o c:Nat) (w:World) (hc:Tok7 w g o t):Calls Tryz.prog 12 #[.slice (some ⟨g,o,none⟩) 1 c] w fun e w'=>e=.returned (.string (bs (tokT t)))∧Below w.heap.size w w':=by
 obtain⟨c0,c1,c2,c3,c4,c5,c6⟩:=hc;(have HT:=Hd (fun W=>rtext5_calls t h hs W));have hsz:(bs (tokT t)).size≤1000000:=by
  rw [bs_size];obtain⟨s1,s2,s3,s4⟩:=hs;have h1:=escL_len t.t.x;(unfold tokT termT tagT);(repeat' split);all_goals (first|(simp;omega)|simp)
 generalize tokT t=T at HT hsz ⊢;obtain⟨k,x,⟨k2,x2,y2,z2⟩,a⟩:=t;(simp only [TokL.v] at HT);dsimp only at c0 c1 c2 c3 c4 c5 c6;clear h hs;(go_enter Tryz.func12,Tryz.ntmps12);go_wp2;go_loopg [3,4] 1 (fun gh q i wr=>(gh=1∧i=.int .i64 0∧q=.string ⟨#[]⟩∧wr=w)∨(gh=0∧i=.int .i64 1∧q=.string (bs T)∧Hid (Below w.heap.size w wr)))
 case atStart=>exact .inl ⟨rfl,rfl,rfl,rfl⟩
 case round =>
  obtain⟨W1,rfl⟩:∃W1,W1=wr:=⟨_,rfl⟩;rcases hrel with ⟨rfl,rfl,rfl,hw⟩|⟨rfl,rfl,rfl,HB⟩
  ·subst hw;(go_wp2_with fail);refine (HT.out _).mono ?_;rintro e w2 ⟨rfl,hb2⟩;have HB2:=Hd hb2;clear hb2;go_wp2;go_roundg 0
   case measure=>omega
   case rel=>exact .inr ⟨rfl,rfl,by rw [←bs_nil,bs_app];rfl,HB2⟩
  ·go_wp2;go_ret;exact⟨rfl,HB.out⟩
end
end Go.Proofs.YtjpfoophipcglaaGreatDoor
