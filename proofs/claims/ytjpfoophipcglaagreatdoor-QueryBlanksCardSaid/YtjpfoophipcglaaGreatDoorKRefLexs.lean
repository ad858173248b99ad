/- Blanks, letters, digits by the document's own answer, and how many of them follow a place: the same as package lex's, for every text. -/
import Derived.Test.YtjpfoophipcglaaGreatDoorKBacks
import Derived.RegionTactic
import Derived.Test.YtjpfoophipcglaaGreatDoorKLexWords
namespace Go.Proofs.YtjpfoophipcglaaGreatDoor
set_option maxRecDepth 100000
set_option maxHeartbeats 8000000
section
open Go.RowKit
theorem spaceZ_atoms (c:Int):spaceZ c=((c==32)||(c==9)||(c==10)):=by
  rw [Bool.eq_iff_iff];simp [spaceZ,or_assoc]
theorem letterZ_atoms (c:Int):letterZ c=(betw 97 c 122||betw 65 c 90):=by
  rw [Bool.eq_iff_iff];simp [letterZ,smallZ,bigZ,betw]
theorem digitZ_atoms (c:Int):digitZ c=betw 48 c 57:=rfl
theorem rSpace_calls (b:Int) (w:World):Calls Tryz.prog 68 #[.int .u8 b] w fun e w'=>e=.returned (.bool (spaceZ b))∧w'=w:=by
  rw [spaceZ_atoms]
  cases h1:(b==32)<;>cases h2:(b==9)<;>cases h3:(b==10)<;>go_enter Tryz.func68,Tryz.ntmps68<;>go_wp2<;>go_ret<;>exact⟨rfl,rfl⟩
theorem rLetter_calls (b:Int) (w:World):Calls Tryz.prog 69 #[.int .u8 b] w fun e w'=>e=.returned (.bool (letterZ b))∧w'=w:=by
  rw [letterZ_atoms]
  cases h1:betw 97 b 122<;>cases h2:betw 65 b 90
  all_goals
    have H1:=Hd h1
    have H2:=Hd h2
    clear h1 h2
    go_enter Tryz.func69,Tryz.ntmps69
    go_wp2_with (go_at_call 105;refine (rBetween_calls _ _ _ _).mono ?_;rintro e w' ⟨rfl,hw⟩;obtain rfl:=hw.symm;clear hw;first|rw [H1.out] | rw [H2.out])
    go_ret
    exact⟨rfl,rfl⟩
theorem rDigit_calls (b:Int) (w:World):Calls Tryz.prog 70 #[.int .u8 b] w fun e w'=>e=.returned (.bool (digitZ b))∧w'=w:=by
  rw [digitZ_atoms]
  go_enter Tryz.func70,Tryz.ntmps70
  go_wp2_with (go_at_call 105;refine (rBetween_calls _ _ _ _).mono ?_;rintro e w' ⟨rfl,hw⟩;obtain rfl:=hw.symm;clear hw)
  go_ret
  exact⟨rfl,rfl⟩
theorem rRun1_calls (s:ByteArray) (a:Nat) (w:World) (hs:s.size≤281474976710656) (ha:a≤s.size+1):Calls Tryz.prog 27 #[.string s,.int .i64 a,.int .i64 1] w fun e w'=>e=.returned (.int .i64 (lead (fun _ c=>spaceZ c) 0 (s.data.toList.drop a)))∧w'=w:=by
 (go_enter Tryz.func27,Tryz.ntmps27);go_wp2;go_loop [7] (fun i=>∃n:Nat,n≤s.size∧i=.int .i64 n∧Hid (lead (fun _ c=>spaceZ c) 0 (s.data.toList.drop a)=n+lead (fun _ c=>spaceZ c) (a+n) (s.data.toList.drop (a+n)))) (fun i=>s.size-(intOf i).toNat)
 case atStart=>exact⟨0,Nat.zero_le _,rfl,Hd (by rw [Nat.zero_add,Nat.add_zero];exact lead_free _ _ _ _)⟩
 case round =>
  obtain⟨n,hn,rfl,HL⟩:=hrel;by_cases hp:a+n<s.size
  ·(have gp:(a:Int)+(n:Int)<(s.size:Int):=by omega);(have hl:a+n<s.data.toList.length:=by rw [←Lib.size_eq];exact hp);(have hyes:=lead_drop_yes (fun _ c=>spaceZ c) s.data.toList (a+n) hl);(have hno:=lead_drop_no (fun _ c=>spaceZ c) s.data.toList (a+n) hl);(have gb:((a:Int)+(n:Int)).toNat=a+n:=by omega);rw [get_list s (a+n) hp] at hyes hno;cases hz:spaceZ (s[a+n].toNat:Int) with
   | true =>
     have H0:=Hd (hyes hz);have HZ:=Hd hz;clear hyes hno hz;(go_wp2_with (go_at_call 68;refine (rSpace_calls _ _).mono ?_;rintro e w' ⟨rfl,hw⟩;obtain rfl:=hw.symm;clear hw;rw [HZ.out]));go_round
     case rel=>exact⟨n+1,by omega,by go_num,Hd (by rw [HL.out,H0.out,Nat.add_assoc a n 1];omega)⟩
     case measure=>simp [intOf];omega
   | false =>
     have H0:=Hd (hno hz);have HZ:=Hd hz;clear hyes hno hz;(go_wp2_with (go_at_call 68;refine (rSpace_calls _ _).mono ?_;rintro e w' ⟨rfl,hw⟩;obtain rfl:=hw.symm;clear hw;rw [HZ.out]));go_ret;exact⟨ret_int (by rw [HL.out,H0.out];omega),rfl⟩
  ·(have gp:¬(a:Int)+(n:Int)<(s.size:Int):=by omega);(have H0:=Hd (lead_drop_end (fun _ c=>spaceZ c) s.data.toList (a+n) (by rw [←Lib.size_eq];omega)));go_wp2;go_ret;exact⟨ret_int (by rw [HL.out,H0.out];omega),rfl⟩
theorem rRun2_calls (s:ByteArray) (a:Nat) (w:World) (hs:s.size≤281474976710656) (ha:a≤s.size+1):Calls Tryz.prog 27 #[.string s,.int .i64 a,.int .i64 2] w fun e w'=>e=.returned (.int .i64 (lead (fun _ c=>letterZ c) 0 (s.data.toList.drop a)))∧w'=w:=by
 (go_enter Tryz.func27,Tryz.ntmps27);go_wp2;go_loop [7] (fun i=>∃n:Nat,n≤s.size∧i=.int .i64 n∧Hid (lead (fun _ c=>letterZ c) 0 (s.data.toList.drop a)=n+lead (fun _ c=>letterZ c) (a+n) (s.data.toList.drop (a+n)))) (fun i=>s.size-(intOf i).toNat)
 case atStart=>exact⟨0,Nat.zero_le _,rfl,Hd (by rw [Nat.zero_add,Nat.add_zero];exact lead_free _ _ _ _)⟩
 case round =>
  obtain⟨n,hn,rfl,HL⟩:=hrel;by_cases hp:a+n<s.size
  ·(have gp:(a:Int)+(n:Int)<(s.size:Int):=by omega);(have hl:a+n<s.data.toList.length:=by rw [←Lib.size_eq];exact hp);(have hyes:=lead_drop_yes (fun _ c=>letterZ c) s.data.toList (a+n) hl);(have hno:=lead_drop_no (fun _ c=>letterZ c) s.data.toList (a+n) hl);(have gb:((a:Int)+(n:Int)).toNat=a+n:=by omega);rw [get_list s (a+n) hp] at hyes hno;cases hz:letterZ (s[a+n].toNat:Int) with
   | true =>
     have H0:=Hd (hyes hz);have HZ:=Hd hz;clear hyes hno hz;(go_wp2_with (go_at_call 69;refine (rLetter_calls _ _).mono ?_;rintro e w' ⟨rfl,hw⟩;obtain rfl:=hw.symm;clear hw;rw [HZ.out]));go_round
     case rel=>exact⟨n+1,by omega,by go_num,Hd (by rw [HL.out,H0.out,Nat.add_assoc a n 1];omega)⟩
     case measure=>simp [intOf];omega
   | false =>
     have H0:=Hd (hno hz);have HZ:=Hd hz;clear hyes hno hz;(go_wp2_with (go_at_call 69;refine (rLetter_calls _ _).mono ?_;rintro e w' ⟨rfl,hw⟩;obtain rfl:=hw.symm;clear hw;rw [HZ.out]));go_ret;exact⟨ret_int (by rw [HL.out,H0.out];omega),rfl⟩
  ·(have gp:¬(a:Int)+(n:Int)<(s.size:Int):=by omega);(have H0:=Hd (lead_drop_end (fun _ c=>letterZ c) s.data.toList (a+n) (by rw [←Lib.size_eq];omega)));go_wp2;go_ret;exact⟨ret_int (by rw [HL.out,H0.out];omega),rfl⟩
theorem rRun3_calls (s:ByteArray) (a:Nat) (w:World) (hs:s.size≤281474976710656) (ha:a≤s.size+1):Calls Tryz.prog 27 #[.string s,.int .i64 a,.int .i64 3] w fun e w'=>e=.returned (.int .i64 (lead (fun _ c=>digitZ c) 0 (s.data.toList.drop a)))∧w'=w:=by
 (go_enter Tryz.func27,Tryz.ntmps27);go_wp2;go_loop [7] (fun i=>∃n:Nat,n≤s.size∧i=.int .i64 n∧Hid (lead (fun _ c=>digitZ c) 0 (s.data.toList.drop a)=n+lead (fun _ c=>digitZ c) (a+n) (s.data.toList.drop (a+n)))) (fun i=>s.size-(intOf i).toNat)
 case atStart=>exact⟨0,Nat.zero_le _,rfl,Hd (by rw [Nat.zero_add,Nat.add_zero];exact lead_free _ _ _ _)⟩
 case round =>
  obtain⟨n,hn,rfl,HL⟩:=hrel;by_cases hp:a+n<s.size
  ·(have gp:(a:Int)+(n:Int)<(s.size:Int):=by omega);(have hl:a+n<s.data.toList.length:=by rw [←Lib.size_eq];exact hp);(have hyes:=lead_drop_yes (fun _ c=>digitZ c) s.data.toList (a+n) hl);(have hno:=lead_drop_no (fun _ c=>digitZ c) s.data.toList (a+n) hl);(have gb:((a:Int)+(n:Int)).toNat=a+n:=by omega);rw [get_list s (a+n) hp] at hyes hno;cases hz:digitZ (s[a+n].toNat:Int) with
   | true =>
     have H0:=Hd (hyes hz);have HZ:=Hd hz;clear hyes hno hz;(go_wp2_with (go_at_call 70;refine (rDigit_calls _ _).mono ?_;rintro e w' ⟨rfl,hw⟩;obtain rfl:=hw.symm;clear hw;rw [HZ.out]));go_round
     case rel=>exact⟨n+1,by omega,by go_num,Hd (by rw [HL.out,H0.out,Nat.add_assoc a n 1];omega)⟩
     case measure=>simp [intOf];omega
   | false =>
     have H0:=Hd (hno hz);have HZ:=Hd hz;clear hyes hno hz;(go_wp2_with (go_at_call 70;refine (rDigit_calls _ _).mono ?_;rintro e w' ⟨rfl,hw⟩;obtain rfl:=hw.symm;clear hw;rw [HZ.out]));go_ret;exact⟨ret_int (by rw [HL.out,H0.out];omega),rfl⟩
  ·(have gp:¬(a:Int)+(n:Int)<(s.size:Int):=by omega);(have H0:=Hd (lead_drop_end (fun _ c=>digitZ c) s.data.toList (a+n) (by rw [←Lib.size_eq];omega)));go_wp2;go_ret;exact⟨ret_int (by rw [HL.out,H0.out];omega),rfl⟩
end
section
open Go.RowKit
theorem place_from3 (r:List UInt8):placeFrom 62 (94::94::60::r) 0=placeFrom 62 r 3:=by
  simp [placeFrom]
theorem tagS_caret (r:List UInt8):(placeFrom 62 r 3 = -1∧tagS (94::94::60::r)=([],[],0))∨(∃n,n<r.length∧placeFrom 62 r 3=((3+n:Nat):Int)∧tagS (94::94::60::r)=if iriL (r.take n)=true then (r.take n,[],n+4) else ([],[],0)):=by
 (have hp:Lib.hasPrefix (94::94::60::r) [94,94]=true:=by simp [Lib.hasPrefix]);(have ht:tagS (94::94::60::r)=((typeS (94::94::60::r)).1,[],(typeS (94::94::60::r)).2):=by unfold tagS;rw [if_pos hp]);have hb:=bracket_ref r;(have hty:typeS (94::94::60::r)=if (bracketS (60::r)).2=0 then ([],0) else ((bracketS (60::r)).1,(bracketS (60::r)).2+2):=rfl);rcases place_spec 62 r 1 with ⟨h1,h2⟩|⟨n,hn,h1,h2,h3⟩
 ·(left);rcases place_spec 62 r 3 with ⟨g1,_⟩|⟨m,hm,g1,g2,_⟩
  ·refine⟨g1,?_⟩;(rw [h1,if_neg (fun c=>by omega)] at hb);rw [ht,hty,hb];rfl
  ·exact absurd g2 (h2 m hm)
 ·(right);rcases place_spec 62 r 3 with ⟨_,g2⟩|⟨m,hm,g1,g2,g3⟩
  ·exact absurd h2 (g2 n hn)
  ·have e:m=n:=by
    rcases Nat.lt_trichotomy m n with c|c|c
    ·exact absurd g2 (h3 m c)
    ·exact c
    ·exact absurd h2 (g3 n c)
   subst e;refine⟨m,hm,g1,?_⟩;(rw [h1,show (((1+m:Nat):Int)).toNat-1=m by omega,show (((1+m:Nat):Int)).toNat+1=m+2 by omega] at hb);by_cases hi:iriL (r.take m)=true
   ·(rw [if_pos (show (0:Int)<((1+m:Nat):Int)∧_ from ⟨by omega,hi⟩)] at hb);rw [ht,hty,hb,if_pos hi];simp
   ·(rw [if_neg (show ¬((0:Int)<((1+m:Nat):Int)∧iriL (r.take m)=true) from fun c=>hi c.2)] at hb);rw [ht,hty,hb,if_neg hi];rfl
theorem tagS_none (l:List UInt8) (h1:Lib.hasPrefix l [94,94,60]=false) (h2:Lib.hasPrefix l [64]=false):tagS l=([],[],0):=by
 (unfold tagS);rw [h2];by_cases h:Lib.hasPrefix l [94,94]=true
 ·rw [if_pos h];have hb:bracketS (l.drop 2)=([],0):=by
   (unfold bracketS);rw [if_neg];intro c;have:Lib.hasPrefix l [94,94,60]=true:=by
    match l,h,c with
    | a::b::d::r,h,c =>
      (simp [Lib.hasPrefix] at h c ⊢);exact⟨h.1,h.2,c⟩
    | [],h,_=>simp [Lib.hasPrefix] at h
    | [_],h,_=>simp [Lib.hasPrefix] at h
    | [_,_],_,c=>simp [Lib.hasPrefix] at c
   rw [this] at h1;cases h1
  (have:typeS l=([],0):=by unfold typeS;rw [hb];rfl);rw [this]
 ·rw [if_neg h];rfl
theorem tagS_short (l:List UInt8) (h:l.length≤3) (h2:Lib.hasPrefix l [64]=false):tagS l=([],[],0):=by
  cases h1:Lib.hasPrefix l [94,94,60] with
  | false=>exact tagS_none l h1 h2
  | true =>
    match l,h,h1 with
    | [a,b,c],_,h1 =>
      simp [Lib.hasPrefix] at h1
      obtain⟨rfl,rfl,rfl⟩:=h1
      rfl
    | [],_,h1=>simp [Lib.hasPrefix] at h1
    | [_],_,h1=>simp [Lib.hasPrefix] at h1
    | [_,_],_,h1=>simp [Lib.hasPrefix] at h1
theorem tagS_at (r:List UInt8):tagS (64::r)=if langL (r.take (lead (fun _ c=>smallZ c) 0 r))=true then ([],r.take (lead (fun _ c=>smallZ c) 0 r),lead (fun _ c=>smallZ c) 0 r+1) else ([],[],0):=by
  have h1:Lib.hasPrefix (64::r) [94,94]=false:=rfl
  have h2:Lib.hasPrefix (64::r) [64]=true:=by simp [Lib.hasPrefix]
  have hl:=lang_ref r
  have hs:langS (64::r)=if langLead r=0∨8<langLead r then ([],0) else (r.take (langLead r),langLead r+1):=rfl
  unfold tagS
  rw [h1,if_neg (by simp),if_pos h2,hs,←hl]
  split<;>rfl
theorem list_cons (s:ByteArray) (h:0<s.size):s.data.toList=s[0]::s.data.toList.drop 1:=by
  rw [←get_list s 0 h,←List.drop_eq_getElem_cons (by simpa using h)];rfl
theorem list_cons3 (s:ByteArray) (h:3<s.size):s.data.toList=s[0]::s[1]::s[2]::s.data.toList.drop 3:=by
  rw [←get_list s 0 (by omega),←get_list s 1 (by omega),←get_list s 2 (by omega),←List.drop_eq_getElem_cons (by simp;omega),←List.drop_eq_getElem_cons (by simp;omega),←List.drop_eq_getElem_cons (by simp;omega)];rfl
theorem not_pre (a c:UInt8) (r p:List UInt8) (h:¬a=c):Lib.hasPrefix (a::r) (c::p)=false:=by
  show ((c==a)&&p.isPrefixOf r)=false
  rw [show (c==a)=false from beq_eq_false_iff_ne.2 (fun e=>h e.symm)];rfl
theorem typed_plain (x s:ByteArray) (w:World) (hs:s.size≤281474976710656) (hS:Hid (tagS s.data.toList=([],[],0))) (h64:∀h:0<s.size,((s[0].toNat:Int)==64)=false) (hcar:3<s.size→∀(a:0<s.size) (b:1<s.size) (c:2<s.size),((s[0].toNat:Int)==94)=false∨((s[0].toNat:Int)==94)=true∧(((s[1].toNat:Int)==94)=false∨((s[1].toNat:Int)==94)=true∧((s[2].toNat:Int)==60)=false)):Calls Tryz.prog 200 #[.agg #[.int .i64 2,.string x,.string ⟨#[]⟩,.string ⟨#[]⟩],.string s] w fun e w'=>e=.returned (.tuple #[.agg #[.int .i64 2,.string x,.string (bs (tagS s.data.toList).1),.string (bs (tagS s.data.toList).2.1)],.int .i64 (tagS s.data.toList).2.2])∧Below w.heap.size w w':=by
 by_cases h3:3<s.size
 ·(have a:0<s.size:=by omega);(have b:1<s.size:=by omega);(have c:2<s.size:=by omega);have g64:=h64 a;rcases hcar h3 a b c with g|⟨g,g1|⟨g1,g2⟩⟩;all_goals
   clear hcar h64;(go_enter Tryz.func200,Tryz.ntmps200);go_wp2;refine bodyPost_ret (v:=.tuple #[.agg #[.int .i64 2,.string x,.string ⟨#[]⟩,.string ⟨#[]⟩],.int .i64 0]) (by simp [results,Tryz.results200,go_sem]) rfl ⟨by rw [hS.out];rfl,two_alloc _ _ _⟩
 ·by_cases a:0<s.size
  ·have g64:=h64 a;clear hcar h64;(go_enter Tryz.func200,Tryz.ntmps200);go_wp2;refine bodyPost_ret (v:=.tuple #[.agg #[.int .i64 2,.string x,.string ⟨#[]⟩,.string ⟨#[]⟩],.int .i64 0]) (by simp [results,Tryz.results200,go_sem]) rfl ⟨by rw [hS.out];rfl,two_alloc _ _ _⟩
  ·clear hcar h64;(go_enter Tryz.func200,Tryz.ntmps200);go_wp2;refine bodyPost_ret (v:=.tuple #[.agg #[.int .i64 2,.string x,.string ⟨#[]⟩,.string ⟨#[]⟩],.int .i64 0]) (by simp [results,Tryz.results200,go_sem]) rfl ⟨by rw [hS.out];rfl,two_alloc _ _ _⟩
theorem typed_at (x s:ByteArray) (w:World) (hs:s.size≤281474976710656) (h0:0<s.size) (g64:((s[0].toNat:Int)==64)=true) (N:Nat) (hN:Hid (lead (fun _ c=>smallZ c) 0 (s.data.toList.drop 1)=N)) (hS:Hid (tagS s.data.toList=if langL ((s.data.toList.drop 1).take N)=true then ([],(s.data.toList.drop 1).take N,N+1) else ([],[],0))):Calls Tryz.prog 200 #[.agg #[.int .i64 2,.string x,.string ⟨#[]⟩,.string ⟨#[]⟩],.string s] w fun e w'=>e=.returned (.tuple #[.agg #[.int .i64 2,.string x,.string (bs (tagS s.data.toList).1),.string (bs (tagS s.data.toList).2.1)],.int .i64 (tagS s.data.toList).2.2])∧Below w.heap.size w w':=by
 have g94:((s[0].toNat:Int)==94)=false:=by
  (have e:(s[0].toNat:Int)=64:=by simpa using g64);rw [e];rfl
 have hle:N+1≤s.size:=by
  (have:=lead_le_size (fun _ c=>smallZ c) s 1);rw [hN.out] at this;omega
 (go_enter Tryz.func200,Tryz.ntmps200);by_cases h3:3<s.size;all_goals
  (go_wp2_with fail);go_loop [7] (fun i=>∃k:Nat,k≤N∧i=.int .i64 ((1+k:Nat):Int)) (fun i=>N+1-(intOf i).toNat)
  case atStart=>exact⟨0,Nat.zero_le _,rfl⟩
  case round =>
   obtain⟨k,hk,rfl⟩:=hrel;by_cases hkN:k<N
   ·(have hi:1+k<s.size:=by omega);have hb:betw 97 (s[1+k].toNat:Int) 122=true:=by
     (have h:=lead_before (fun _ c=>smallZ c) 0 (s.data.toList.drop 1) k (by rw [hN.out];exact hkN) (by rw [List.length_drop,←Lib.size_eq];omega));rw [List.getElem_drop,get_list s (1+k) hi,smallZ_atoms] at h;exact h
    (go_wp2_with (go_at_call 105;refine (rBetween_calls _ _ _ _).mono ?_;rintro e w' ⟨rfl,hw⟩;subst hw));go_round
    case rel=>exact⟨k+1,by omega,by go_num⟩
    case measure=>simp [intOf];omega
   ·(obtain rfl:k=N:=by omega);have hout:(¬1+k<s.size)∨(∃hi:1+k<s.size,betw 97 (s[1+k].toNat:Int) 122=false):=by
     by_cases hi:1+k<s.size
     ·(right);refine⟨hi,?_⟩;(have h:=lead_at (fun _ c=>smallZ c) 0 (s.data.toList.drop 1) (by rw [hN.out,List.length_drop,←Lib.size_eq];omega));have e:(s.data.toList.drop 1)[lead (fun _ c=>smallZ c) 0 (s.data.toList.drop 1)]'(by rw [hN.out,List.length_drop,←Lib.size_eq];omega)=s[1+k]:=by
       rw [List.getElem_drop];(have:1+lead (fun _ c=>smallZ c) 0 (s.data.toList.drop 1)=1+k:=by rw [hN.out]);rw [←get_list s (1+k) hi];congr 1
      rw [e,smallZ_atoms] at h;exact h
     ·exact .inl hi
    rcases hout with hi|⟨hi,hb⟩;all_goals
     (go_wp2_with (first|(go_at_call 105;refine (rBetween_calls _ _ _ _).mono ?_;rintro e w' ⟨rfl,hw⟩;subst hw)|fail));(rw [piece_bs,show 1+k-1=k by omega]);(refine (rIsLang_calls (bs _) _ (by rw [bs_size,List.length_take,List.length_drop,←Lib.size_eq];unfold maxLen;omega)).mono ?_);rintro e w' ⟨rfl,hw⟩;subst hw;rw [bs_data];have hpb:=piece_bs s 1 (1+k);(rw [show 1+k-1=k by omega] at hpb);have HPB:=Hd hpb;clear hpb;obtain⟨G,hG⟩:∃G,List.take k (List.drop 1 s.data.toList)=G:=⟨_,rfl⟩;rw [hG] at hS HPB;rw [hG];clear hG;cases hl:langL G with
     | false =>
       (have hS':=Hd (hS.out.trans (if_neg (by rw [hl];simp))));go_wp2;refine bodyPost_ret (v:=.tuple #[.agg #[.int .i64 2,.string x,.string ⟨#[]⟩,.string ⟨#[]⟩],.int .i64 0]) (by simp [results,Tryz.results200,go_sem]) rfl ⟨by rw [hS'.out];rfl,two_alloc _ _ _⟩
     | true =>
       have hS':=Hd (hS.out.trans (if_pos hl));go_wp2;(go_region);go_wp2;refine bodyPost_ret (v:=.tuple #[.agg #[.int .i64 2,.string x,.string ⟨#[]⟩,.string (s.extract 1 (1+k))],.int .i64 (1+k)]) (by simp [results,Tryz.results200,go_sem]) rfl ⟨?_,?_⟩
       ·rw [hS'.out,HPB.out,show (1+(k:Int))=((k+1:Nat):Int) by omega];rfl
       ·exact (two_alloc _ _ _).drew
theorem typed_caret (x s:ByteArray) (w:World) (hs:s.size≤281474976710656) (h3:3<s.size) (g0:((s[0].toNat:Int)==94)=true) (g1:((s[1].toNat:Int)==94)=true) (g2:((s[2].toNat:Int)==60)=true) (hL:Hid (s.data.toList=94::94::60::s.data.toList.drop 3)):Calls Tryz.prog 200 #[.agg #[.int .i64 2,.string x,.string ⟨#[]⟩,.string ⟨#[]⟩],.string s] w fun e w'=>e=.returned (.tuple #[.agg #[.int .i64 2,.string x,.string (bs (tagS s.data.toList).1),.string (bs (tagS s.data.toList).2.1)],.int .i64 (tagS s.data.toList).2.2])∧Below w.heap.size w w':=by
 have hc:=tagS_caret (s.data.toList.drop 3);have hp:=Hd (place_from3 (s.data.toList.drop 3));rw [←hL.out] at hc hp;have g64:((s[0].toNat:Int)==64)=false:=by
  (have e:(s[0].toNat:Int)=94:=by simpa using g0);rw [e];rfl
 rcases hc with ⟨hq,hS⟩|⟨n,hn,hq,hS⟩
 ·have HS:=Hd hS;have HP:=Hd (hp.out.trans hq);clear hS hq;(go_enter Tryz.func200,Tryz.ntmps200);(go_wp2_with fail);(refine (place_calls _ _ _ (len_ok (by omega))).mono ?_);rintro e w' ⟨rfl,hw⟩;subst hw;rw [HP.out];go_wp2;refine bodyPost_ret (v:=.tuple #[.agg #[.int .i64 2,.string x,.string ⟨#[]⟩,.string ⟨#[]⟩],.int .i64 0]) (by simp [results,Tryz.results200,go_sem]) rfl ⟨by rw [HS.out];rfl,two_alloc _ _ _⟩
 ·have HS:=Hd hS;have HP:=Hd (hp.out.trans hq);(have hlt:3+n<s.size:=by rw [List.length_drop,←Lib.size_eq] at hn;omega);clear hS hq hn;have hpb:=piece_bs s 3 (3+n);(rw [show 3+n-3=n by omega] at hpb);have HPB:=Hd hpb;clear hpb;(go_enter Tryz.func200,Tryz.ntmps200);(go_wp2_with fail);(refine (place_calls _ _ _ (len_ok (by omega))).mono ?_);rintro e w' ⟨rfl,hw⟩;subst hw;rw [HP.out];(go_wp2_with fail);rw [HPB.out];(refine (rIsIri_calls (bs _) _ (by rw [bs_size,List.length_take,List.length_drop,←Lib.size_eq];unfold maxLen;omega)).mono ?_);rintro e w' ⟨rfl,hw⟩;subst hw;rw [bs_data];obtain⟨G,hG⟩:∃G,List.take n (List.drop 3 s.data.toList)=G:=⟨_,rfl⟩;rw [hG] at HS HPB;rw [hG];clear hG;cases hl:iriL G with
  | false =>
    (have hS':=Hd (HS.out.trans (if_neg (by rw [hl];simp))));go_wp2;refine bodyPost_ret (v:=.tuple #[.agg #[.int .i64 2,.string x,.string ⟨#[]⟩,.string ⟨#[]⟩],.int .i64 0]) (by simp [results,Tryz.results200,go_sem]) rfl ⟨by rw [hS'.out];rfl,two_alloc _ _ _⟩
  | true =>
    have hS':=Hd (HS.out.trans (if_pos hl));go_wp2;(go_region);go_wp2;refine bodyPost_ret (v:=.tuple #[.agg #[.int .i64 2,.string x,.string (s.extract 3 (3+n)),.string ⟨#[]⟩],.int .i64 (3+n+1)]) (by simp [results,Tryz.results200,go_sem]) rfl ⟨?_,?_⟩
    ·rw [hS'.out,HPB.out,show (3+(n:Int)+1)=((n+4:Nat):Int) by omega];rfl
    ·exact (two_alloc _ _ _).drew
end
section
open Go.RowKit
theorem pre_take2 (l:List UInt8) (a b:UInt8):Lib.hasPrefix l [a,b]=(l.take 2==[a,b]):=by
  match l with
  | []=>rfl
  | [c] =>
    rw [Bool.eq_iff_iff]
    simp [Lib.hasPrefix]
  | c::d::r =>
    unfold Lib.hasPrefix
    show (a==c&&(b==d&&List.isPrefixOf [] r))=([c,d]==[a,b])
    rw [Bool.eq_iff_iff]
    simp only [Bool.and_eq_true,beq_iff_eq,List.isPrefixOf_nil_left,and_true,List.cons.injEq]
    exact⟨fun h=>⟨h.1.symm,h.2.symm⟩,fun h=>⟨h.1.symm,h.2.symm⟩⟩
theorem single_has (b:Int):hasB b [123,125,40,41,46,44,42,43,45,47,61,60,62,33]=oneZ b:=by
  rw [Bool.eq_iff_iff];simp [hasB,oneZ];omega
theorem twoB_take (l:List UInt8):twoB l=(l.take 2==[60,61]||l.take 2==[62,61]||l.take 2==[33,61]||l.take 2==[38,38]||l.take 2==[124,124]):=by
  unfold twoB;simp only [pre_take2]
theorem oneB_get (s:ByteArray) (h:0<s.size):oneB s.data.toList=oneZ (s[0].toNat:Int):=by rw [list_cons s h];rfl
theorem sign_two {l:List UInt8} (h:twoB l=true):signN l=2:=by unfold signN;rw [h];rfl
theorem sign_one {l:List UInt8} (h:twoB l=false) (h1:oneB l=true):signN l=1:=by unfold signN;rw [h,h1];rfl
theorem sign_none {l:List UInt8} (h:twoB l=false) (h1:oneB l=false):signN l=0:=by unfold signN;rw [h,h1];rfl
theorem rsign_calls (s:ByteArray) (w:World) (_hs:s.size≤281474976710656) (h1:1≤s.size):Calls Tryz.prog 108 #[.string s] w fun e w'=>e=.returned (.int .i64 (signN s.data.toList))∧w'=w:=by
 have hpb:=piece_bs s 0 2;rw [List.drop_zero,Nat.sub_zero] at hpb;(have hX:(s.extract 0 2).toList=s.data.toList.take 2:=by rw [hpb,bs_toList]);have h0:0<s.size:=h1;(have hlen:2≤s.size→(s.data.toList.take 2).length=2:=fun h=>by rw [List.length_take,←Lib.size_eq];omega);have hshort:¬2≤s.size→twoB s.data.toList=false:=fun h=>by
  rw [Bool.eq_false_iff];intro c;have:=two_len _ c;rw [←Lib.size_eq] at this;exact h this
 have htb:=twoB_take s.data.toList;have hob:=oneB_get s h0;rw [←hX] at htb;(have g0:(0:Int).toNat=0:=rfl);clear hpb hX hlen;by_cases h2:2≤s.size
 ·clear hshort;by_cases hall:twoB s.data.toList=true
  ·have HS:=Hd (sign_two hall);rw [hall] at htb;clear hob hall;have hc:=htb.symm;(simp only [Bool.or_eq_true,beq_iff_eq] at hc);clear htb;rcases hc with (((k|k)|k)|k)|k
   ·(have b0:((s.extract 0 2).toList==[60,61])=true:=by rw [k];decide);clear k;(go_enter Tryz.func108,Tryz.ntmps108);go_wp2;go_ret;exact⟨by rw [HS.out];rfl,rfl⟩
   ·(have b0:((s.extract 0 2).toList==[60,61])=false:=by rw [k];decide);(have b1:((s.extract 0 2).toList==[62,61])=true:=by rw [k];decide);clear k;(go_enter Tryz.func108,Tryz.ntmps108);go_wp2;go_ret;exact⟨by rw [HS.out];rfl,rfl⟩
   ·(have b0:((s.extract 0 2).toList==[60,61])=false:=by rw [k];decide);(have b1:((s.extract 0 2).toList==[62,61])=false:=by rw [k];decide);(have b2:((s.extract 0 2).toList==[33,61])=true:=by rw [k];decide);clear k;(go_enter Tryz.func108,Tryz.ntmps108);go_wp2;go_ret;exact⟨by rw [HS.out];rfl,rfl⟩
   ·(have b0:((s.extract 0 2).toList==[60,61])=false:=by rw [k];decide);(have b1:((s.extract 0 2).toList==[62,61])=false:=by rw [k];decide);(have b2:((s.extract 0 2).toList==[33,61])=false:=by rw [k];decide);(have b3:((s.extract 0 2).toList==[38,38])=true:=by rw [k];decide);clear k;(go_enter Tryz.func108,Tryz.ntmps108);go_wp2;go_ret;exact⟨by rw [HS.out];rfl,rfl⟩
   ·(have b0:((s.extract 0 2).toList==[60,61])=false:=by rw [k];decide);(have b1:((s.extract 0 2).toList==[62,61])=false:=by rw [k];decide);(have b2:((s.extract 0 2).toList==[33,61])=false:=by rw [k];decide);(have b3:((s.extract 0 2).toList==[38,38])=false:=by rw [k];decide);(have b4:((s.extract 0 2).toList==[124,124])=true:=by rw [k];decide);clear k;(go_enter Tryz.func108,Tryz.ntmps108);go_wp2;go_ret;exact⟨by rw [HS.out];rfl,rfl⟩
  ·(have hall':twoB s.data.toList=false:=by simpa using hall);rw [hall'] at htb;have hc:=htb.symm;(simp only [Bool.or_eq_false_iff] at hc);obtain⟨⟨⟨⟨b0,b1⟩,b2⟩,b3⟩,b4⟩:=hc;clear htb hall;cases hz:oneZ (s[0].toNat:Int) with
   | true =>
     (have HS:=Hd (sign_one hall' (by rw [hob];exact hz)));have HZ:=Hd hz;clear hob hz hall';(go_enter Tryz.func108,Tryz.ntmps108);(go_wp2_with (go_at_call 140;refine (rIs_calls _ _ _ (by decide)).mono ?_;rintro e w' ⟨rfl,hw⟩;obtain rfl:=hw.symm;clear hw;rw [show (ByteArray.mk #[123,125,40,41,46,44,42,43,45,47,61,60,62,33]).data.toList=[123,125,40,41,46,44,42,43,45,47,61,60,62,33] from rfl,single_has,HZ.out]));go_ret;exact⟨by rw [HS.out];rfl,rfl⟩
   | false =>
     (have HS:=Hd (sign_none hall' (by rw [hob];exact hz)));have HZ:=Hd hz;clear hob hz hall';(go_enter Tryz.func108,Tryz.ntmps108);(go_wp2_with (go_at_call 140;refine (rIs_calls _ _ _ (by decide)).mono ?_;rintro e w' ⟨rfl,hw⟩;obtain rfl:=hw.symm;clear hw;rw [show (ByteArray.mk #[123,125,40,41,46,44,42,43,45,47,61,60,62,33]).data.toList=[123,125,40,41,46,44,42,43,45,47,61,60,62,33] from rfl,single_has,HZ.out]));go_ret;exact⟨by rw [HS.out];rfl,rfl⟩
 ·have hall':=hshort h2;(have g2:¬(2:Int)≤(s.size:Int):=by omega);clear hshort htb;cases hz:oneZ (s[0].toNat:Int) with
  | true =>
    (have HS:=Hd (sign_one hall' (by rw [hob];exact hz)));have HZ:=Hd hz;clear hob hz hall';(go_enter Tryz.func108,Tryz.ntmps108);(go_wp2_with (go_at_call 140;refine (rIs_calls _ _ _ (by decide)).mono ?_;rintro e w' ⟨rfl,hw⟩;obtain rfl:=hw.symm;clear hw;rw [show (ByteArray.mk #[123,125,40,41,46,44,42,43,45,47,61,60,62,33]).data.toList=[123,125,40,41,46,44,42,43,45,47,61,60,62,33] from rfl,single_has,HZ.out]));go_ret;exact⟨by rw [HS.out];rfl,rfl⟩
  | false =>
    (have HS:=Hd (sign_none hall' (by rw [hob];exact hz)));have HZ:=Hd hz;clear hob hz hall';(go_enter Tryz.func108,Tryz.ntmps108);(go_wp2_with (go_at_call 140;refine (rIs_calls _ _ _ (by decide)).mono ?_;rintro e w' ⟨rfl,hw⟩;obtain rfl:=hw.symm;clear hw;rw [show (ByteArray.mk #[123,125,40,41,46,44,42,43,45,47,61,60,62,33]).data.toList=[123,125,40,41,46,44,42,43,45,47,61,60,62,33] from rfl,single_has,HZ.out]));go_ret;exact⟨by rw [HS.out];rfl,rfl⟩
end
section
open Go.RowKit
theorem byte_eq {a:UInt8} {n:Nat} (hn:n<256) (h:(a.toNat:Int)=n):a=UInt8.ofNat n:=(u8_of hn).1 h
theorem typed_calls (x s:ByteArray) (w:World) (hs:s.size≤281474976710656):Calls Tryz.prog 200 #[.agg #[.int .i64 2,.string x,.string ⟨#[]⟩,.string ⟨#[]⟩],.string s] w fun e w'=>e=.returned (.tuple #[.agg #[.int .i64 2,.string x,.string (bs (tagS s.data.toList).1),.string (bs (tagS s.data.toList).2.1)],.int .i64 (tagS s.data.toList).2.2])∧Below w.heap.size w w':=by
 by_cases h0:0<s.size
 ·have hl:=list_cons s h0;by_cases e64:(s[0].toNat:Int)=64
  ·refine typed_at x s w hs h0 (beq_iff_eq.2 e64) _ (Hd rfl) (Hd ?_);have:=tagS_at (s.data.toList.drop 1);rw [←this,←show s[0]=64 from byte_eq (n:=64) (by omega) e64,←hl]
  ·have n64:Lib.hasPrefix s.data.toList [64]=false:=by
    rw [hl];exact not_pre _ _ _ _ (fun c=>e64 (by rw [c];rfl))
   (have h64:∀h:0<s.size,((s[0].toNat:Int)==64)=false:=fun _=>beq_eq_false_iff_ne.2 e64);by_cases h3:3<s.size
   ·have hl3:=list_cons3 s h3;by_cases e0:(s[0].toNat:Int)=94
    ·by_cases e1:(s[1].toNat:Int)=94
     ·by_cases e2:(s[2].toNat:Int)=60
      ·refine typed_caret x s w hs h3 (beq_iff_eq.2 e0) (beq_iff_eq.2 e1) (beq_iff_eq.2 e2) (Hd ?_);(conv=>lhs;rw [hl3]);rw [show s[0]=94 from byte_eq (n:=94) (by omega) e0,show s[1]=94 from byte_eq (n:=94) (by omega) e1,show s[2]=60 from byte_eq (n:=60) (by omega) e2]
      ·(refine typed_plain x s w hs (Hd (tagS_none _ ?_ n64)) h64 (fun _ _ _ _=>.inr ⟨beq_iff_eq.2 e0,.inr ⟨beq_iff_eq.2 e1,beq_eq_false_iff_ne.2 e2⟩⟩));rw [hl3];(show (_&&(_&&((60:UInt8)==s[2]&&_)))=false);(rw [show ((60:UInt8)==s[2])=false from beq_eq_false_iff_ne.2 (fun c=>e2 (by rw [←c];rfl))]);simp
     ·(refine typed_plain x s w hs (Hd (tagS_none _ ?_ n64)) h64 (fun _ _ _ _=>.inr ⟨beq_iff_eq.2 e0,.inl (beq_eq_false_iff_ne.2 e1)⟩));rw [hl3];(show (_&&((94:UInt8)==s[1]&&_))=false);(rw [show ((94:UInt8)==s[1])=false from beq_eq_false_iff_ne.2 (fun c=>e1 (by rw [←c];rfl))]);simp
    ·(refine typed_plain x s w hs (Hd (tagS_none _ ?_ n64)) h64 (fun _ _ _ _=>.inl (beq_eq_false_iff_ne.2 e0)));rw [hl];exact not_pre _ _ _ _ (fun c=>e0 (by rw [c];rfl))
   ·exact typed_plain x s w hs (Hd (tagS_short _ (by rw [←Lib.size_eq];omega) n64)) h64 (fun h=>absurd h h3)
 ·(have hnil:s.data.toList=[]:=List.eq_nil_of_length_eq_zero (by rw [←Lib.size_eq];omega));exact typed_plain x s w hs (Hd (by rw [hnil];rfl)) (fun h=>absurd h h0) (fun h=>by omega)
theorem unquoteS_ref (l:List UInt8):unquoteS l=match closeIdx (l.drop 1) with|none=>([],0)|some m=>fin (unescS ((l.drop 1).take m)) (m+2):=by
  unfold unquoteS
  rw [unq_fin (l.drop 1) [] 0 (by simp) rfl]
  unfold finAt
  cases closeIdx (l.drop 1) with
  | none=>rfl
  | some m=>simp only [Nat.zero_add];rfl
theorem closeIdx_lt:∀(l:List UInt8) (m:Nat),closeIdx l=some m→m<l.length
  | [],m,h=>by simp [closeIdx] at h
  | [c],m,h=>by
    simp only [closeIdx] at h
    split at h
    · cases h
    · split at h
      · simp at h;subst h;simp
      · cases h
  | c::d::r,m,h=>by
    simp only [closeIdx] at h
    split at h
    · obtain⟨n,hn,rfl⟩:=Option.map_eq_some_iff.1 h
      have:=closeIdx_lt r n hn
      simp;omega
    · split at h
      · simp at h;subst h;simp
      · obtain⟨n,hn,rfl⟩:=Option.map_eq_some_iff.1 h
        have:=closeIdx_lt (d::r) n hn
        simp at this ⊢;omega
theorem rliteral_calls (s:ByteArray) (w:World) (hs:s.size≤281474976710656) (h1:1≤s.size):Calls Tryz.prog 143 #[.string s] w fun e w'=>e=.returned (.tuple #[(literalS s.data.toList).1.v,.int .i64 (literalS s.data.toList).2])∧Below w.heap.size w w':=by
 have hU:=unquoteS_ref s.data.toList;have hC:closeZ s.data.toList=_:=closeFrom_idx (s.data.toList.drop 1) 1;cases hi:closeIdx (s.data.toList.drop 1) with
 | none =>
   rw [hi] at hU hC;dsimp only at hU hC;(have HS:=Hd (show literalS s.data.toList=(noTerm,0) by unfold literalS;rw [hU];rfl));have HC:=Hd hC;clear hU hC hi;(go_enter Tryz.func143,Tryz.ntmps143);(go_wp2_with fail);refine (closing_calls _ _ hs).mono ?_;rintro e w' ⟨rfl,hw⟩;subst hw;rw [HC.out];go_wp2;refine bodyPost_ret (v:=.tuple #[noTerm.v,.int .i64 0]) (by simp [results,Tryz.results143,noTerm,TermL.v,bs_nil,go_sem]) rfl ⟨by rw [HS.out];rfl,box_below _ _⟩
 | some m =>
   rw [hi] at hU hC;dsimp only at hU hC;have hm:1+m<s.size:=by
    have:=closeIdx_lt _ _ hi;rw [List.length_drop,←Lib.size_eq] at this;omega
   (obtain⟨n,hn,hn1⟩:∃n,1+m=n∧1≤n:=⟨1+m,rfl,by omega⟩);rw [hn] at hC hm;have HC:=Hd hC;have hpb:=piece_bs s 1 n;(rw [show n-1=m by omega] at hpb);have HPB:=Hd hpb;(have HM:=Hd (show m+2=n+1 by omega));obtain⟨G,hG⟩:∃G,List.take m (List.drop 1 s.data.toList)=G:=⟨_,rfl⟩;(have hGl:G.length≤281474976710656:=by rw [←hG,List.length_take,List.length_drop,←Lib.size_eq];omega);rw [hG] at hU HPB;clear hC hi hpb hG hn;(go_enter Tryz.func143,Tryz.ntmps143);(go_wp2_with fail);refine (closing_calls _ _ hs).mono ?_;rintro e w' ⟨rfl,hw⟩;subst hw;rw [HC.out];have HU:=Hd hU;clear hU;(go_wp2_with fail);rw [HPB.out];(refine (unescaped_calls (bs _) _ (by rw [bs_size];exact hGl)).mono ?_);rintro e w' ⟨rfl,hw⟩;subst hw;rw [bs_data];obtain⟨o,ho⟩:∃o,unescS G=o:=⟨_,rfl⟩;rw [ho] at HU;rw [ho];clear ho;obtain⟨t,ok⟩:=o;dsimp only;have hno:¬(ok=true∧t.length≤4096∧allB litZ t=true)→literalS s.data.toList=(noTerm,0):=fun h=>by
    (have:unquoteS s.data.toList=([],0):=by rw [HU.out];exact if_neg h);unfold literalS;rw [this];rfl
   cases ok with
   | false =>
     (have HS:=Hd (hno (fun c=>by cases c.1)));clear hno;go_wp2;refine bodyPost_ret (v:=.tuple #[noTerm.v,.int .i64 0]) (by simp [results,Tryz.results143,noTerm,TermL.v,bs_nil,go_sem]) rfl ⟨by rw [HS.out];rfl,box_below _ _⟩
   | true =>
     by_cases h4:(bs t).size≤4096
     ·cases hl:allB litZ t with
      | false =>
        (have HS:=Hd (hno (fun c=>by rw [hl] at c;cases c.2.2)));clear hno;(go_wp2_with (go_at_call 104;refine (rAll2_calls (bs t) _ (by unfold maxLen;omega)).mono ?_;rintro e w' ⟨rfl,hw⟩;subst hw;rw [bs_data]));refine bodyPost_ret (v:=.tuple #[noTerm.v,.int .i64 0]) (by simp [results,Tryz.results143,noTerm,TermL.v,bs_nil,go_sem]) rfl ⟨by rw [HS.out];rfl,box_below _ _⟩
      | true =>
        (have hq:unquoteS s.data.toList=(t,m+2):=by rw [HU.out];exact if_pos ⟨rfl,h4,hl⟩);have HS:=Hd (show literalS s.data.toList=(⟨2,t,(tagS (s.data.toList.drop (m+2))).1,(tagS (s.data.toList.drop (m+2))).2.1⟩,m+2+(tagS (s.data.toList.drop (m+2))).2.2) by
         unfold literalS;rw [hq];rfl)
        clear hno hq;(go_wp2_with (go_at_call 104;refine (rAll2_calls (bs t) _ (by unfold maxLen;omega)).mono ?_;rintro e w' ⟨rfl,hw⟩;subst hw;rw [bs_data]));rw [drop_bs s (n+1),←HM.out];(refine (typed_calls (bs t) (bs _) _ (by rw [bs_size,List.length_drop,←Lib.size_eq];omega)).mono ?_);rintro e w1 ⟨rfl,hb1⟩;rw [bs_data];obtain⟨hc,hf⟩:=bcell hb1;(have hz:w.heap.size<w1.heap.size:=by have:=hb1.size;simp at this;omega);have hlen:(tagS (List.drop (m+2) s.data.toList)).2.2≤s.size+9:=by
         have h1:=typeS_le (List.drop (m+2) s.data.toList);have h2:=langS_le (List.drop (m+2) s.data.toList);rw [List.length_drop,←Lib.size_eq] at h1;(unfold tagS);split
         ·exact Nat.le_trans h1 (by omega)
         ·split
          ·exact Nat.le_trans h2 (by omega)
          ·simp
        generalize tagS (List.drop (m+2) s.data.toList)=g at hlen HS;obtain⟨y,z,j⟩:=g;dsimp only at hlen HS;dsimp only;(have q0:w1.cell? ⟨w.heap.size,0,none⟩=some (.int .i64 0):=by rw [hc _ _ (by simp)];simp [go_sem]);(have q1:w1.cell? ⟨w.heap.size,1,none⟩=some (.string ⟨#[]⟩):=by rw [hc _ _ (by simp)];simp [go_sem]);(have q2:w1.cell? ⟨w.heap.size,2,none⟩=some (.string ⟨#[]⟩):=by rw [hc _ _ (by simp)];simp [go_sem]);(have q3:w1.cell? ⟨w.heap.size,3,none⟩=some (.string ⟨#[]⟩):=by rw [hc _ _ (by simp)];simp [go_sem]);go_wp2;refine bodyPost_ret (v:=.tuple #[.agg #[.int .i64 2,.string (bs t),.string (bs y),.string (bs z)],.int .i64 (n+1+j)]) (by simp [results,Tryz.results143,q0,q1,q2,q3,hz,World.cell?_alloc_lt,go_sem]) rfl ⟨?_,?_⟩
        ·rw [HS.out,HM.out,show ((n:Int)+1+(j:Int))=((n+1+j:Nat):Int) by omega];rfl
        ·exact (((((one_box hb1).setCell (Nat.le_refl _) _).setCell (Nat.le_refl _) _).setCell (Nat.le_refl _) _).setCell (Nat.le_refl _) _).alloc (by simp;omega) _
     ·(have HS:=Hd (hno (fun c=>h4 c.2.1)));clear hno;go_wp2;refine bodyPost_ret (v:=.tuple #[noTerm.v,.int .i64 0]) (by simp [results,Tryz.results143,noTerm,TermL.v,bs_nil,go_sem]) rfl ⟨by rw [HS.out];rfl,box_below _ _⟩
end
section
open Go.RowKit
theorem hp_cons (a c:UInt8) (r:List UInt8):Lib.hasPrefix (a::r) [c]=(c==a):=by
  show (c==a&&true)=_;rw [Bool.and_true]
theorem prefix_iri (r:List UInt8):(placeFrom 62 r 1 = -1∧prefixS (60::r)=(noTerm,0))∨(∃N,1≤N∧N≤r.length∧placeFrom 62 r 1=(N:Int)∧prefixS (60::r)=if iriL (r.take (N-1))=true then (⟨1,r.take (N-1),[],[]⟩,N+1) else (noTerm,0)):=by
 have hb:=bracket_ref r;have hp:prefixS (60::r)=if (bracketS (60::r)).2=0 then (noTerm,0) else (⟨1,(bracketS (60::r)).1,[],[]⟩,(bracketS (60::r)).2):=by
  unfold prefixS;rw [hp_cons];rfl
 rcases place_spec 62 r 1 with ⟨h1,_⟩|⟨n,hn,h1,_,_⟩
 ·(left);(rw [h1,if_neg (fun c=>by omega)] at hb);exact⟨h1,by rw [hp,hb];rfl⟩
 ·(right);(refine⟨1+n,by omega,by omega,h1,?_⟩);(rw [h1,show (((1+n:Nat):Int)).toNat=1+n by omega] at hb);by_cases hi:iriL (r.take (1+n-1))=true
  ·(rw [if_pos (show (0:Int)<((1+n:Nat):Int)∧_ from ⟨by omega,hi⟩)] at hb);rw [hp,hb,if_pos hi];simp
  ·(rw [if_neg (show ¬((0:Int)<((1+n:Nat):Int)∧iriL (r.take (1+n-1))=true) from fun c=>hi c.2)] at hb);rw [hp,hb,if_neg hi];rfl
theorem prefix_var (r:List UInt8):prefixS (63::r)=namedS 4 (63::r) 1:=by
  unfold prefixS
  rw [hp_cons,hp_cons,show Lib.hasPrefix (63::r) [95,58]=false from rfl];rfl
theorem prefix_lit (r:List UInt8):prefixS (34::r)=literalS (34::r):=by
  unfold prefixS
  rw [hp_cons,hp_cons,hp_cons,show Lib.hasPrefix (34::r) [95,58]=false from rfl];rfl
theorem prefix_blank (r:List UInt8):prefixS (95::58::r)=namedS 3 (95::58::r) 2:=by
  unfold prefixS
  rw [hp_cons,show Lib.hasPrefix (95::58::r) [95,58]=true from by simp [Lib.hasPrefix]];rfl
theorem prefix_under (b:UInt8) (r:List UInt8) (h:¬b=58):prefixS (95::b::r)=(noTerm,0):=by
  unfold prefixS
  rw [hp_cons,hp_cons,hp_cons,show Lib.hasPrefix (95::b::r) [95,58]=false from by
    show ((95:UInt8)==95&&((58:UInt8)==b&&true))=false
    rw [show ((58:UInt8)==b)=false from beq_eq_false_iff_ne.2 (fun c=>h c.symm)];rfl]
  rfl
theorem prefix_else (a:UInt8) (r:List UInt8) (h1:¬a=60) (h2:¬a=95) (h3:¬a=63) (h4:¬a=34):prefixS (a::r)=(noTerm,0):=by
  unfold prefixS
  rw [not_pre _ _ _ _ h1,not_pre _ _ _ _ h2,not_pre _ _ _ _ h3,not_pre _ _ _ _ h4];rfl
theorem prefix_short (l:List UInt8) (h:l.length<2):prefixS l=(noTerm,0):=by
  match l,h with
  | [],_=>rfl
  | [a],_ =>
    by_cases h1:a=60
    · subst h1;rfl
    · by_cases h2:a=63
      · subst h2;rfl
      · by_cases h3:a=34
        · subst h3;rfl
        · by_cases h4:a=95
          · subst h4;rfl
          · exact prefix_else a [] h1 h4 h2 h3
theorem list_cons2 (s:ByteArray) (h:1<s.size):s.data.toList=s[0]::s[1]::s.data.toList.drop 2:=by
  rw [←get_list s 0 (by omega),←get_list s 1 (by omega),←List.drop_eq_getElem_cons (by simp;omega),←List.drop_eq_getElem_cons (by simp;omega)];rfl
theorem rPrefix_calls (s:ByteArray) (w:World) (hs:s.size≤281474976710656):Calls Tryz.prog 107 #[.string s] w fun e w'=>e=.returned (.tuple #[(prefixS s.data.toList).1.v,.int .i64 (prefixS s.data.toList).2])∧Below w.heap.size w w':=by
 by_cases h2:s.size<2
 ·(have HS:=Hd (prefix_short s.data.toList (by rw [←Lib.size_eq];exact h2)));(go_enter Tryz.func107,Tryz.ntmps107);go_wp2;refine bodyPost_ret (v:=.tuple #[noTerm.v,.int .i64 0]) (by simp [results,Tryz.results107,noTerm,TermL.v,bs_nil,go_sem]) rfl ⟨by rw [HS.out];rfl,box_below _ _⟩
 (have h0:0<s.size:=by omega);(have h1:1<s.size:=by omega);have hl:=list_cons s h0;have hl2:=list_cons2 s h1;by_cases e60:(s[0].toNat:Int)=60
 ·have g60:((s[0].toNat:Int)==60)=true:=beq_iff_eq.2 e60;(rw [show s[0]=60 from byte_eq (n:=60) (by omega) e60] at hl);have hp:placeFrom 62 s.data.toList 0=placeFrom 62 (s.data.toList.drop 1) 1:=by
   (conv=>lhs;rw [hl]);simp [placeFrom]
  have hq:=prefix_iri (s.data.toList.drop 1);rw [←hl] at hq;clear hl hl2 e60;rcases hq with ⟨hP,hS⟩|⟨N,hN1,hN2,hP,hS⟩
  ·have HP:=Hd (hp.trans hP);have HS:=Hd hS;clear hp hP hS;(go_enter Tryz.func107,Tryz.ntmps107);(go_wp2_with fail);(refine (place_calls _ _ _ (len_ok (by omega))).mono ?_);rintro e w' ⟨rfl,hw⟩;subst hw;rw [HP.out];go_wp2;refine bodyPost_ret (v:=.tuple #[noTerm.v,.int .i64 0]) (by simp [results,Tryz.results107,noTerm,TermL.v,bs_nil,go_sem]) rfl ⟨by rw [HS.out];rfl,box_below _ _⟩
  ·have HP:=Hd (hp.trans hP);have HS:=Hd hS;(have hNs:N<s.size:=by rw [List.length_drop,←Lib.size_eq] at hN2;omega);have HPB:=Hd (piece_bs s 1 N);clear hp hP hS hN2;(go_enter Tryz.func107,Tryz.ntmps107);(go_wp2_with fail);(refine (place_calls _ _ _ (len_ok (by omega))).mono ?_);rintro e w' ⟨rfl,hw⟩;subst hw;rw [HP.out];(go_wp2_with fail);rw [HPB.out];(refine (rIsIri_calls (bs _) _ (by rw [bs_size,List.length_take,List.length_drop,←Lib.size_eq];unfold maxLen;omega)).mono ?_);rintro e w' ⟨rfl,hw⟩;subst hw;rw [bs_data];obtain⟨G,hG⟩:∃G,List.take (N-1) (List.drop 1 s.data.toList)=G:=⟨_,rfl⟩;rw [hG] at HS HPB;rw [hG];clear hG;cases hi:iriL G with
   | false =>
     (have HS':=Hd (HS.out.trans (if_neg (by rw [hi];simp))));go_wp2;refine bodyPost_ret (v:=.tuple #[noTerm.v,.int .i64 0]) (by simp [results,Tryz.results107,noTerm,TermL.v,bs_nil,go_sem]) rfl ⟨by rw [HS'.out];rfl,box_below _ _⟩
   | true =>
     have HS':=Hd (HS.out.trans (if_pos hi));go_wp2;refine bodyPost_ret (v:=.tuple #[.agg #[.int .i64 1,.string (s.extract 1 N),.string ⟨#[]⟩,.string ⟨#[]⟩],.int .i64 (N+1)]) (by simp [results,Tryz.results107,go_sem]) rfl ⟨by rw [HS'.out,HPB.out];rfl,box_below _ _⟩
 have g60:((s[0].toNat:Int)==60)=false:=beq_eq_false_iff_ne.2 e60;by_cases e34:(s[0].toNat:Int)=34
 ·have g34:((s[0].toNat:Int)==34)=true:=beq_iff_eq.2 e34;(rw [show s[0]=34 from byte_eq (n:=34) (by omega) e34] at hl);have hS:=prefix_lit (s.data.toList.drop 1);rw [←hl] at hS;have HS:=Hd hS;clear hl hl2 e60 e34 hS;(go_enter Tryz.func107,Tryz.ntmps107);(go_wp2_with fail);(refine (rliteral_calls _ _ hs (by omega)).mono ?_);rintro e w1 ⟨rfl,hb1⟩;obtain⟨hc,hf⟩:=bcell hb1;(have hz:w.heap.size<w1.heap.size:=by have:=hb1.size;simp at this;omega);generalize literalS s.data.toList=p at HS;obtain⟨⟨k,x,y,z⟩,n⟩:=p;(simp only [TermL.v]);go_wp2;(refine bodyPost_ret (v:=.tuple #[.agg #[.int .i64 k,.string (bs x),.string (bs y),.string (bs z)],.int .i64 n]) (by simp [results,Tryz.results107,hc,go_sem]) rfl ⟨by rw [HS.out];rfl,?_⟩);exact ((((one_box hb1).setCell (Nat.le_refl _) _).setCell (Nat.le_refl _) _).setCell (Nat.le_refl _) _).setCell (Nat.le_refl _) _
 have g34:((s[0].toNat:Int)==34)=false:=beq_eq_false_iff_ne.2 e34;by_cases e63:(s[0].toNat:Int)=63
 ·have g63:((s[0].toNat:Int)==63)=true:=beq_iff_eq.2 e63;(rw [show s[0]=63 from byte_eq (n:=63) (by omega) e63] at hl);have hS:=prefix_var (s.data.toList.drop 1);rw [←hl] at hS;have hn:nameLead (s.data.toList.drop 1)≤s.size-1:=lead_le_size _ s 1;(unfold namedS at hS);obtain⟨N,hN⟩:∃N,nameLead (s.data.toList.drop 1)=N:=⟨_,rfl⟩;rw [hN] at hS hn;have HN:=Hd hN;have HPB:=Hd (piece_bs s 1 (N+1));clear hl hl2 e60 e34 e63 hN;by_cases hz:N=0
  ·have HS:=Hd (hS.trans (if_pos hz));(have gN:¬(0:Int)<(N:Int):=by omega);clear hS hz;(go_enter Tryz.func107,Tryz.ntmps107);(go_wp2_with fail);rw [drop_bs s 1];(refine (nameLen_calls (bs _) _ (by rw [bs_size,List.length_drop,←Lib.size_eq];omega)).mono ?_);rintro e w' ⟨rfl,hw⟩;subst hw;rw [bs_data,HN.out];go_wp2;refine bodyPost_ret (v:=.tuple #[noTerm.v,.int .i64 0]) (by simp [results,Tryz.results107,noTerm,TermL.v,bs_nil,go_sem]) rfl ⟨by rw [HS.out];rfl,box_below _ _⟩
  ·have HS:=Hd (hS.trans (if_neg hz));(have gN:(0:Int)<(N:Int):=by omega);clear hS;(go_enter Tryz.func107,Tryz.ntmps107);(go_wp2_with fail);rw [drop_bs s 1];(refine (nameLen_calls (bs _) _ (by rw [bs_size,List.length_drop,←Lib.size_eq];omega)).mono ?_);rintro e w' ⟨rfl,hw⟩;subst hw;rw [bs_data,HN.out];go_wp2;(refine bodyPost_ret (v:=.tuple #[.agg #[.int .i64 4,.string (s.extract 1 (N+1)),.string ⟨#[]⟩,.string ⟨#[]⟩],.int .i64 (N+1)]) (by simp [results,Tryz.results107,go_sem]) rfl ⟨?_,box_below _ _⟩);rw [HS.out,HPB.out,show N+1-1=N by omega,show ((N:Int)+1)=((1+N:Nat):Int) by omega];rfl
 have g63:((s[0].toNat:Int)==63)=false:=beq_eq_false_iff_ne.2 e63;by_cases e95:(s[0].toNat:Int)=95
 ·have g95:((s[0].toNat:Int)==95)=true:=beq_iff_eq.2 e95;(rw [show s[0]=95 from byte_eq (n:=95) (by omega) e95] at hl2);have hn:nameLead (s.data.toList.drop 2)≤s.size-2:=lead_le_size _ s 2;obtain⟨N,hN⟩:∃N,nameLead (s.data.toList.drop 2)=N:=⟨_,rfl⟩;have HN:=Hd hN;have HPB:=Hd (piece_bs s 2 (N+2));by_cases e58:(s[1].toNat:Int)=58
  ·have g58:((s[1].toNat:Int)==58)=true:=beq_iff_eq.2 e58;(rw [show s[1]=58 from byte_eq (n:=58) (by omega) e58] at hl2);have hS:=prefix_blank (s.data.toList.drop 2);rw [←hl2] at hS;(unfold namedS at hS);rw [hN] at hS hn;clear hl hl2 e60 e34 e63 e95 e58 hN;by_cases hz:N=0
   ·have HS:=Hd (hS.trans (if_pos hz));(have gN:¬(0:Int)<(N:Int):=by omega);clear hS hz;(go_enter Tryz.func107,Tryz.ntmps107);(go_wp2_with fail);rw [drop_bs s 2];(refine (nameLen_calls (bs _) _ (by rw [bs_size,List.length_drop,←Lib.size_eq];omega)).mono ?_);rintro e w' ⟨rfl,hw⟩;subst hw;rw [bs_data,HN.out];go_wp2;refine bodyPost_ret (v:=.tuple #[noTerm.v,.int .i64 0]) (by simp [results,Tryz.results107,noTerm,TermL.v,bs_nil,go_sem]) rfl ⟨by rw [HS.out];rfl,box_below _ _⟩
   ·have HS:=Hd (hS.trans (if_neg hz));(have gN:(0:Int)<(N:Int):=by omega);clear hS;(go_enter Tryz.func107,Tryz.ntmps107);(go_wp2_with fail);rw [drop_bs s 2];(refine (nameLen_calls (bs _) _ (by rw [bs_size,List.length_drop,←Lib.size_eq];omega)).mono ?_);rintro e w' ⟨rfl,hw⟩;subst hw;rw [bs_data,HN.out];go_wp2;(refine bodyPost_ret (v:=.tuple #[.agg #[.int .i64 3,.string (s.extract 2 (N+2)),.string ⟨#[]⟩,.string ⟨#[]⟩],.int .i64 (N+2)]) (by simp [results,Tryz.results107,go_sem]) rfl ⟨?_,box_below _ _⟩);rw [HS.out,HPB.out,show N+2-2=N by omega,show ((N:Int)+2)=((2+N:Nat):Int) by omega];rfl
  ·have g58:((s[1].toNat:Int)==58)=false:=beq_eq_false_iff_ne.2 e58;(have hS:=prefix_under s[1] (s.data.toList.drop 2) (fun c=>e58 (by rw [c];rfl)));rw [←hl2] at hS;have HS:=Hd hS;clear hl hl2 e60 e34 e63 e95 e58 hN hS;(go_enter Tryz.func107,Tryz.ntmps107);(go_wp2_with fail);rw [drop_bs s 2];(refine (nameLen_calls (bs _) _ (by rw [bs_size,List.length_drop,←Lib.size_eq];omega)).mono ?_);rintro e w' ⟨rfl,hw⟩;subst hw;rw [bs_data,HN.out];go_wp2;refine bodyPost_ret (v:=.tuple #[noTerm.v,.int .i64 0]) (by simp [results,Tryz.results107,noTerm,TermL.v,bs_nil,go_sem]) rfl ⟨by rw [HS.out];rfl,box_below _ _⟩
 ·have g95:((s[0].toNat:Int)==95)=false:=beq_eq_false_iff_ne.2 e95;(have hS:=prefix_else s[0] (s.data.toList.drop 1) (fun c=>e60 (by rw [c];rfl)) (fun c=>e95 (by rw [c];rfl)) (fun c=>e63 (by rw [c];rfl)) (fun c=>e34 (by rw [c];rfl)));rw [←hl] at hS;have HS:=Hd hS;clear hl hl2 e60 e34 e63 e95 hS;(go_enter Tryz.func107,Tryz.ntmps107);go_wp2;refine bodyPost_ret (v:=.tuple #[noTerm.v,.int .i64 0]) (by simp [results,Tryz.results107,noTerm,TermL.v,bs_nil,go_sem]) rfl ⟨by rw [HS.out];rfl,box_below _ _⟩
end
section
open Go.RowKit
def rwordS (l:List UInt8):TokL×Nat:=if (wordS l).2=0 then (⟨5,[],noTerm,0⟩,0) else wordS l
def RWordT (w:World) (l:List UInt8) (e:Ending) (w':World):Prop:=e=.returned (.tuple #[(rwordS l).1.v,.int .i64 (rwordS l).2])∧Below w.heap.size w w'
theorem rword_var {l:List UInt8} (h:0<(prefixS l).2) (hk:(prefixS l).1.k=4):rwordS l=(⟨2,(prefixS l).1.x,noTerm,0⟩,(prefixS l).2):=by
  unfold rwordS;rw [word_term h];unfold termTok;rw [if_pos hk];exact if_neg (by omega)
theorem rword_term {l:List UInt8} (h:0<(prefixS l).2) (hk:¬(prefixS l).1.k=4):rwordS l=(⟨3,[],(prefixS l).1,0⟩,(prefixS l).2):=by
  unfold rwordS;rw [word_term h];unfold termTok;rw [if_neg hk];exact if_neg (by omega)
theorem rword_letters {l:List UInt8} (h:¬0<(prefixS l).2) (h2:0<letterLead l):rwordS l=(⟨1,l.take (letterLead l),noTerm,0⟩,letterLead l):=by
  unfold rwordS;rw [word_letters h h2];exact if_neg (by omega)
theorem rword_dec {l:List UInt8} (h:¬0<(prefixS l).2) (h2:¬0<letterLead l) (h3:0<digitLead l) (h4:Lib.hasPrefix (l.drop (digitLead l)) [46]=true) (h5:0<digitLead (l.drop (digitLead l+1))):rwordS l=(⟨3,[],⟨2,l.take (digitLead l+1+digitLead (l.drop (digitLead l+1))),decT,[]⟩,0⟩,digitLead l+1+digitLead (l.drop (digitLead l+1))):=by
 have hp:placesS (l.drop (digitLead l))=digitLead (l.drop (digitLead l+1))+1:=by
  unfold placesS;rw [List.drop_drop];exact if_pos ⟨h4,h5⟩
 (unfold rwordS;rw [word_digits h h2 h3];unfold digitsS;rw [hp,if_pos (by omega:0<digitLead (l.drop (digitLead l+1))+1)]);rw [if_neg (by dsimp only;omega),show digitLead l+(digitLead (l.drop (digitLead l+1))+1)=digitLead l+1+digitLead (l.drop (digitLead l+1)) by omega]
theorem rword_num {l:List UInt8} (h:¬0<(prefixS l).2) (h2:¬0<letterLead l) (h3:0<digitLead l) (h4:¬(Lib.hasPrefix (l.drop (digitLead l)) [46]=true∧0<digitLead (l.drop (digitLead l+1)))):rwordS l=(⟨4,l.take (digitLead l),noTerm,0⟩,digitLead l):=by
  have hp:placesS (l.drop (digitLead l))=0:=by
    unfold placesS;rw [List.drop_drop];exact if_neg h4
  unfold rwordS;rw [word_digits h h2 h3];unfold digitsS;rw [hp,if_neg (by omega:¬0<0)]
  exact if_neg (by dsimp only;omega)
theorem rword_sign {l:List UInt8} (h:¬0<(prefixS l).2) (h2:¬0<letterLead l) (h3:¬0<digitLead l):rwordS l=(⟨5,l.take (signN l),noTerm,0⟩,signN l):=by
  have hw:wordS l=signS l:=by unfold wordS;rw [if_neg h,if_neg h2,if_neg h3]
  unfold rwordS;rw [hw];unfold signS
  by_cases h0:signN l=0
  · rw [if_pos h0,h0];rfl
  · rw [if_neg h0];exact if_neg h0
theorem byte46 (s:ByteArray) (d:Nat) (h:d<s.size):Lib.hasPrefix (s.data.toList.drop d) [46]=decide ((s[d].toNat:Int)=46):=by
  rw [stop_ahead _ _ (by rw [←Lib.size_eq];exact h),get_list s d h]
theorem rword_calls (s:ByteArray) (w:World) (hs:s.size≤281474976710656) (h1:1≤s.size):Calls Tryz.prog 71 #[.string s] w (RWordT w s.data.toList):=by
 (have hle:(prefixS s.data.toList).2≤s.size:=by rw [Lib.size_eq];exact prefix_le _);(have hll:letterLead s.data.toList≤s.size:=by rw [Lib.size_eq];exact lead_le _ 0 _);(have hdl:digitLead s.data.toList≤s.size:=by rw [Lib.size_eq];exact lead_le _ 0 _);have hw0:=@rword_var s.data.toList;have hw1:=@rword_term s.data.toList;have hw2:=@rword_letters s.data.toList;have hw3:=@rword_dec s.data.toList;have hw4:=@rword_num s.data.toList;have hw5:=@rword_sign s.data.toList;have hsn:=signN_le s.data.toList;have hfl:digitLead (s.data.toList.drop (digitLead s.data.toList+1))≤s.size-(digitLead s.data.toList+1):=lead_le_size _ s _;(have hR1:Hid (∀W,Calls Tryz.prog 27 #[.string s,.int .i64 0,.int .i64 2] W fun e w'=>e=.returned (.int .i64 (letterLead s.data.toList))∧w'=W):=Hd fun W=>rRun2_calls s 0 W hs (by omega));(have hR2:Hid (∀W,Calls Tryz.prog 27 #[.string s,.int .i64 0,.int .i64 3] W fun e w'=>e=.returned (.int .i64 (digitLead s.data.toList))∧w'=W):=Hd fun W=>rRun3_calls s 0 W hs (by omega));have hR3:digitLead s.data.toList≤s.size→Hid (∀W,Calls Tryz.prog 27 #[.string s,.int .i64 ((digitLead s.data.toList:Int)+1),.int .i64 3] W fun e w'=>e=.returned (.int .i64 (digitLead (s.data.toList.drop (digitLead s.data.toList+1))))∧w'=W):=fun h=>Hd fun W=>by
  (have:=rRun3_calls s (digitLead s.data.toList+1) W hs (by omega));(rw [show ((digitLead s.data.toList+1:Nat):Int)=(digitLead s.data.toList:Int)+1 by omega] at this);exact this
 replace hR3:=hR3 hdl;rw [←Lib.size_eq] at hsn;obtain⟨q,hq⟩:∃q,prefixS s.data.toList=q:=⟨_,rfl⟩;obtain⟨m,hm⟩:∃m,letterLead s.data.toList=m:=⟨_,rfl⟩;obtain⟨d,hd⟩:∃d,digitLead s.data.toList=d:=⟨_,rfl⟩;obtain⟨g,hg⟩:∃g,signN s.data.toList=g:=⟨_,rfl⟩;rw [hq] at hle hw0 hw1 hw2 hw3 hw4 hw5;rw [hm] at hll hw2 hw3 hw4 hw5 hR1;rw [hd] at hdl hw3 hw4 hw5 hR2 hR3 hfl;rw [hg] at hw5 hsn;have h46:∀h:d<s.size,_:=byte46 s d;(have h46n:s.size≤d→Lib.hasPrefix (s.data.toList.drop d) [46]=false:=fun h=>stop_none _ _ (by rw [←Lib.size_eq];exact h));obtain⟨f,hf⟩:∃f,digitLead (s.data.toList.drop (d+1))=f:=⟨_,rfl⟩;rw [hf] at hw3 hw4 hR3 hfl;obtain⟨⟨k,x,y,z⟩,n⟩:=q;dsimp only at hle hw0 hw1 hw2 hw3 hw4 hw5;have HQ:=Hd hq;have HG:=Hd hg;have HW0:=Hd hw0;have HW1:=Hd hw1;have HW2:=Hd hw2;have HW3:=Hd hw3;have HW4:=Hd hw4;have HW5:=Hd hw5;have H46:=Hd h46;have H46N:=Hd h46n;clear hq hm hd hg hf hw0 hw1 hw2 hw3 hw4 hw5 h46 h46n;(go_enter Tryz.func71,Tryz.ntmps71);(go_wp2_with fail);refine (rPrefix_calls s _ hs).mono ?_;rintro e w1 ⟨rfl,hb1⟩;rw [HQ.out];(simp only [TermL.v]);(have hB1:=blk_on (blk_new w 69 zero7) hb1 (by rw [World.size_alloc];exact Nat.lt_succ_self _));have hb1':=one_box hb1;have hz1:w.heap.size<w1.heap.size:=blk_lt hB1;have hzz:=hz1;have HBB:=Hd hb1';clear hb1 hb1';obtain⟨q0,q1,q2,q3,q4,q5,q6⟩:=blk_cells7 hB1;(have fr:=fun i=>blk_free hB1 i);clear hB1;by_cases h0:0<n
 ·(have g0:(0:Int)<(n:Int):=by omega);by_cases hk:k=4
  ·have HS:=Hd (HW0.out h0 hk);subst hk;clear HW0 HW1 HW2 HW3 HW4 HW5;go_wp2;(refine bodyPost_ret (v:=.tuple #[.agg #[.int .i64 2,.string (bs x),.int .i64 0,.string ⟨#[]⟩,.string ⟨#[]⟩,.string ⟨#[]⟩,.int .i64 0],.int .i64 n]) (by simp [results,Tryz.results71,q0,q1,q2,q3,q4,q5,q6,hzz,World.cell?_alloc_lt,go_sem]) rfl ⟨by rw [HS.out];rfl,?_⟩);repeat (with_reducible (first|exact HBB.out|refine Below.setCell ?_ (by first|exact Nat.le_refl _|omega|(simp;omega)) _|refine Below.alloc ?_ (by first|omega|(simp;omega)) _))
  ·have HS:=Hd (HW1.out h0 hk);have gk:(k==4)=false:=beq_eq_false_iff_ne.2 hk;clear HW0 HW1 HW2 HW3 HW4 HW5;go_wp2;(refine bodyPost_ret (v:=.tuple #[.agg #[.int .i64 3,.string ⟨#[]⟩,.int .i64 k,.string (bs x),.string (bs y),.string (bs z),.int .i64 0],.int .i64 n]) (by simp [results,Tryz.results71,q0,q1,q2,q3,q4,q5,q6,hzz,World.cell?_alloc_lt,go_sem]) rfl ⟨by rw [HS.out];rfl,?_⟩);repeat (with_reducible (first|exact HBB.out|refine Below.setCell ?_ (by first|exact Nat.le_refl _|omega|(simp;omega)) _|refine Below.alloc ?_ (by first|omega|(simp;omega)) _))
 ·have HW:=Hd h0;(have g0:¬(0:Int)<(n:Int):=by omega);clear HW0 HW1 h0;(go_wp2_with fail);refine (hR1.out _).mono ?_;rintro e w2 ⟨rfl,hw2⟩;obtain rfl:=hw2.symm;clear hw2;by_cases hm0:0<m
  ·have HS:=Hd (HW2.out HW.out hm0);have hpb:=piece_bs s 0 m;rw [List.drop_zero,Nat.sub_zero] at hpb;have HPB:=Hd hpb;clear hpb;go_wp2;(refine bodyPost_ret (v:=.tuple #[.agg #[.int .i64 1,.string (s.extract 0 m),.int .i64 0,.string ⟨#[]⟩,.string ⟨#[]⟩,.string ⟨#[]⟩,.int .i64 0],.int .i64 m]) (by simp [results,Tryz.results71,q0,q1,q2,q3,q4,q5,q6,hzz,World.cell?_alloc_lt,go_sem]) rfl ⟨by rw [HS.out,HPB.out];rfl,?_⟩);repeat (with_reducible (first|exact HBB.out|refine Below.setCell ?_ (by first|exact Nat.le_refl _|omega|(simp;omega)) _|refine Below.alloc ?_ (by first|omega|(simp;omega)) _))
  ·have HW':=Hd hm0;(have g1:¬(0:Int)<(m:Int):=by omega);clear hm0 HW2;(go_wp2_with fail);refine (hR2.out _).mono ?_;rintro e w2 ⟨rfl,hw2⟩;obtain rfl:=hw2.symm;clear hw2;by_cases hd0:0<d
   ·have HD0:=Hd hd0;(have gd:(0:Int)<(d:Int):=by omega);(have gs:(d:Int)+1+(f:Int)=((d+1+f:Nat):Int):=by omega);have GS:=Hd gs;clear gs;(have hyes:Hid (Lib.hasPrefix (s.data.toList.drop d) [46]=true)→0<f→rwordS s.data.toList=_:=fun a b=>HW3.out HW.out HW'.out hd0 a.out b);have HY:=Hd hyes;(have hnot:¬(Lib.hasPrefix (s.data.toList.drop d) [46]=true∧0<f)→rwordS s.data.toList=_:=fun a=>HW4.out HW.out HW'.out hd0 a);have HN:=Hd hnot;clear hyes hnot HW3 HW4 HW5;have hpb:=piece_bs s 0 d;rw [List.drop_zero,Nat.sub_zero] at hpb;have HPB:=Hd hpb;have hpb2:=piece_bs s 0 (d+1+f);rw [List.drop_zero,Nat.sub_zero] at hpb2;have HPB2:=Hd hpb2;clear hpb hpb2;by_cases hds:d<s.size
    ·by_cases e46:(s[d].toNat:Int)=46
     ·have gb:((s[d].toNat:Int)==46)=true:=beq_iff_eq.2 e46;have HP:=Hd ((H46.out hds).trans (decide_eq_true e46));clear e46;by_cases hf0:0<f
      ·have HS:=Hd (HY.out HP hf0);(have gf:(0:Int)<(f:Int):=by omega);(have gsz:(d:Int)+1+(f:Int)≤(s.size:Int):=by omega);(go_wp2_with (go_at_call 27;refine (hR3.out _).mono ?_;rintro e w2 ⟨rfl,hw2⟩;obtain rfl:=hw2.symm;clear hw2));(refine bodyPost_ret (v:=.tuple #[.agg #[.int .i64 3,.string ⟨#[]⟩,.int .i64 2,.string (s.extract 0 (d+1+f)),.string (bs decT),.string ⟨#[]⟩,.int .i64 0],.int .i64 ((d:Int)+1+(f:Int))]) (by simp [results,Tryz.results71,q0,q1,q2,q3,q4,q5,q6,hzz,World.cell?_alloc_lt,go_sem];rfl) rfl ⟨by rw [HS.out,HPB2.out,GS.out];rfl,?_⟩);repeat (with_reducible (first|exact HBB.out|refine Below.setCell ?_ (by first|exact Nat.le_refl _|omega|(simp;omega)) _|refine Below.alloc ?_ (by first|omega|(simp;omega)) _))
      ·(have HS:=Hd (HN.out (fun c=>hf0 c.2)));(have gf:¬(0:Int)<(f:Int):=by omega);(go_wp2_with (go_at_call 27;refine (hR3.out _).mono ?_;rintro e w2 ⟨rfl,hw2⟩;obtain rfl:=hw2.symm;clear hw2));(refine bodyPost_ret (v:=.tuple #[.agg #[.int .i64 4,.string (s.extract 0 d),.int .i64 0,.string ⟨#[]⟩,.string ⟨#[]⟩,.string ⟨#[]⟩,.int .i64 0],.int .i64 d]) (by simp [results,Tryz.results71,q0,q1,q2,q3,q4,q5,q6,hzz,World.cell?_alloc_lt,go_sem]) rfl ⟨by rw [HS.out,HPB.out];rfl,?_⟩);repeat (with_reducible (first|exact HBB.out|refine Below.setCell ?_ (by first|exact Nat.le_refl _|omega|(simp;omega)) _|refine Below.alloc ?_ (by first|omega|(simp;omega)) _))
     ·have gb:((s[d].toNat:Int)==46)=false:=beq_eq_false_iff_ne.2 e46;(have HS:=Hd (HN.out (fun c=>by have h:=(H46.out hds).symm.trans c.1;simp at h;exact e46 (by omega))));clear e46;go_wp2;(refine bodyPost_ret (v:=.tuple #[.agg #[.int .i64 4,.string (s.extract 0 d),.int .i64 0,.string ⟨#[]⟩,.string ⟨#[]⟩,.string ⟨#[]⟩,.int .i64 0],.int .i64 d]) (by simp [results,Tryz.results71,q0,q1,q2,q3,q4,q5,q6,hzz,World.cell?_alloc_lt,go_sem]) rfl ⟨by rw [HS.out,HPB.out];rfl,?_⟩);repeat (with_reducible (first|exact HBB.out|refine Below.setCell ?_ (by first|exact Nat.le_refl _|omega|(simp;omega)) _|refine Below.alloc ?_ (by first|omega|(simp;omega)) _))
    ·(have HS:=Hd (HN.out (fun c=>by rw [H46N.out (by omega)] at c;cases c.1)));(have gds:¬(d:Int)<(s.size:Int):=by omega);go_wp2;(refine bodyPost_ret (v:=.tuple #[.agg #[.int .i64 4,.string (s.extract 0 d),.int .i64 0,.string ⟨#[]⟩,.string ⟨#[]⟩,.string ⟨#[]⟩,.int .i64 0],.int .i64 d]) (by simp [results,Tryz.results71,q0,q1,q2,q3,q4,q5,q6,hzz,World.cell?_alloc_lt,go_sem]) rfl ⟨by rw [HS.out,HPB.out];rfl,?_⟩);repeat (with_reducible (first|exact HBB.out|refine Below.setCell ?_ (by first|exact Nat.le_refl _|omega|(simp;omega)) _|refine Below.alloc ?_ (by first|omega|(simp;omega)) _))
   ·have HS:=Hd (HW5.out HW.out HW'.out hd0);(have g2:¬(0:Int)<(d:Int):=by omega);clear hd0 HW3 HW4 HW5;have hpb:=piece_bs s 0 g;rw [List.drop_zero,Nat.sub_zero] at hpb;have HPB:=Hd hpb;clear hpb;(go_wp2_with fail);refine (rsign_calls s _ hs h1).mono ?_;rintro e w2 ⟨rfl,hw2⟩;obtain rfl:=hw2.symm;clear hw2;rw [HG.out];go_wp2;(refine bodyPost_ret (v:=.tuple #[.agg #[.int .i64 5,.string (s.extract 0 g),.int .i64 0,.string ⟨#[]⟩,.string ⟨#[]⟩,.string ⟨#[]⟩,.int .i64 0],.int .i64 g]) (by simp [results,Tryz.results71,q0,q1,q2,q3,q4,q5,q6,hzz,World.cell?_alloc_lt,go_sem]) rfl ⟨by rw [HS.out,HPB.out];rfl,?_⟩);repeat (with_reducible (first|exact HBB.out|refine Below.setCell ?_ (by first|exact Nat.le_refl _|omega|(simp;omega)) _|refine Below.alloc ?_ (by first|omega|(simp;omega)) _))
end
section
open Go.RowKit
theorem ret_next {t u:TokL} {a b c d:Int} (h1:t=u) (h2:a=b) (h3:c=d):Ending.returned (.tuple #[t.v,.int .i64 a,.int .i64 c])=.returned (.tuple #[u.v,.int .i64 b,.int .i64 d]):=by rw [h1,h2,h3]
theorem rword_none {l:List UInt8} (h:(wordS l).2=0):rwordS l=(⟨5,[],noTerm,0⟩,0):=if_pos h
theorem rword_some {l:List UInt8} (h:¬(wordS l).2=0):rwordS l=wordS l:=if_neg h
theorem rNext_calls (s:ByteArray) (a:Nat) (w:World) (hs:s.size≤281474976710656) (ha:a≤s.size):Calls Tryz.prog 28 #[.string s,.int .i64 a] w (NextT w s.data.toList a):=by
 (have hbl:=begS_le (l:=s.data.toList) (a:=a) (by rw [←Lib.size_eq];exact ha));rw [←Lib.size_eq] at hbl;have hne:=@next_end s.data.toList a;have hnb:=@next_bad s.data.toList a;have hnw:=@next_word s.data.toList a;rw [←Lib.size_eq] at hne hnb hnw;have hgl:(wordS (s.data.toList.drop (begS s.data.toList a))).2≤s.size-begS s.data.toList a:=by
  have:=word_le (s.data.toList.drop (begS s.data.toList a));rw [List.length_drop,←Lib.size_eq] at this;exact this
 (have hb:begS s.data.toList a=a+spaceLead (s.data.toList.drop a):=rfl);(have hR1:Hid (∀W,Calls Tryz.prog 27 #[.string s,.int .i64 a,.int .i64 1] W fun e w'=>e=.returned (.int .i64 (spaceLead (s.data.toList.drop a)))∧w'=W):=Hd fun W=>rRun1_calls s a W hs (by omega));obtain⟨p,hp⟩:∃p,spaceLead (s.data.toList.drop a)=p:=⟨_,rfl⟩;rw [hp] at hb hR1;rw [hb] at hbl hne hnb hnw hgl;have hdb:=drop_bs s (a+p);(have hRl:(s.data.toList.drop (a+p)).length=s.size-(a+p):=by rw [List.length_drop,←Lib.size_eq]);obtain⟨R,hR⟩:∃R,s.data.toList.drop (a+p)=R:=⟨_,rfl⟩;rw [hR] at hnb hnw hgl hdb hRl;have hrn:=@rword_none R;have hrs:=@rword_some R;obtain⟨W,hW⟩:∃W,wordS R=W:=⟨_,rfl⟩;rw [hW] at hnb hnw hgl hrn hrs;obtain⟨⟨tk,tx,⟨uk,ux,uy,uz⟩,ta⟩,n⟩:=W;dsimp only at hnb hnw hgl hrn hrs;have HE:=Hd hne;have HNB:=Hd hnb;have HNW:=Hd hnw;have HDB:=Hd hdb;have HRN:=Hd hrn;have HRS:=Hd hrs;have HRL:=Hd hRl;clear hb hne hnb hnw hdb hW hR hp hrn hrs hRl;(go_enter Tryz.func28,Tryz.ntmps28);(go_wp2_with fail);refine (hR1.out _).mono ?_;rintro e w1 ⟨rfl,hw1⟩;(obtain⟨w1,hw1',hB1,hb1'⟩:∃W,W=w1∧Blk W w.heap.size 69 zero7∧Below w.heap.size w W:=⟨w1,rfl,by rw [hw1];exact blk_new w 69 zero7,by rw [hw1];exact box_below _ _⟩);subst hw1';clear hw1;have hz1:w.heap.size<w1.heap.size:=blk_lt hB1;by_cases h0:a+p=s.size
 ·have HS:=Hd (HE.out h0);have HBB:=Hd hb1';(have g0:((a:Int)+(p:Int)==(s.size:Int))=true:=beq_iff_eq.2 (by omega));have H0:=Hd h0;obtain⟨q0,q1,q2,q3,q4,q5,q6⟩:=blk_cells7 hB1;(have fr:=fun i=>blk_free hB1 i);clear h0 hB1 hb1';go_wp2;(refine bodyPost_ret (v:=.tuple #[.agg #[.int .i64 0,.string ⟨#[]⟩,.int .i64 0,.string ⟨#[]⟩,.string ⟨#[]⟩,.string ⟨#[]⟩,.int .i64 0],.int .i64 ((a:Int)+(p:Int)),.int .i64 0]) (by simp [results,Tryz.results28,q0,q1,q2,q3,q4,q5,q6,go_sem]) rfl ⟨by rw [HS.out];exact ret_next (t:=noTok) (u:=noTok) (a:=(a:Int)+(p:Int)) (b:=(s.size:Int)) (c:=0) (d:=0) rfl (by have:=H0.out;omega) rfl,?_⟩);repeat (with_reducible (first|exact HBB.out|refine Below.setCell ?_ (by first|exact Nat.le_refl _|omega|(simp;omega)) _|refine Below.alloc ?_ (by first|omega|(simp;omega)) _))
 ·(have g0:((a:Int)+(p:Int)==(s.size:Int))=false:=beq_eq_false_iff_ne.2 (by omega));(have gs:(a:Int)+(p:Int)≤(s.size:Int):=by omega);by_cases hn:n=0
  ·have HS:=Hd (HNB.out h0 hn);have HRW:=Hd (HRN.out hn);clear hn;(go_wp2_with fail);rw [HDB.out];(refine (rword_calls (bs R) _ (by rw [bs_size,HRL.out];omega) (by rw [bs_size,HRL.out];omega)).mono ?_);rintro e w2 ⟨rfl,hb2⟩;rw [bs_data,HRW.out];(simp only [TokL.v,noTerm,bs_nil]);have hB2:=blk_on hB1 hb2 hz1;have hzz:=blk_lt hB2;have HBB:=Hd (hb1'.trans (hb2.mono hb1'.size));clear hB1 hb2 hb1' h0;obtain⟨q0,q1,q2,q3,q4,q5,q6⟩:=blk_cells7 hB2;(have fr:=fun i=>blk_free hB2 i);clear hB2;go_wp2;(refine bodyPost_ret (v:=.tuple #[.agg #[.int .i64 0,.string ⟨#[]⟩,.int .i64 0,.string ⟨#[]⟩,.string ⟨#[]⟩,.string ⟨#[]⟩,.int .i64 0],.int .i64 0,.int .i64 2]) (by simp [results,Tryz.results28,q0,q1,q2,q3,q4,q5,q6,hzz,World.cell?_alloc_lt,go_sem]) rfl ⟨by rw [HS.out];rfl,?_⟩);repeat (with_reducible (first|exact HBB.out|refine Below.setCell ?_ (by first|exact Nat.le_refl _|omega|(simp;omega)) _|refine Below.alloc ?_ (by first|omega|(simp;omega)) _))
  ·have HS:=Hd (HNW.out h0 hn);have HRW:=Hd (HRS.out hn);(have g1:((n:Int)==0)=false:=beq_eq_false_iff_ne.2 (by omega));clear hn;(go_wp2_with fail);rw [HDB.out];(refine (rword_calls (bs R) _ (by rw [bs_size,HRL.out];omega) (by rw [bs_size,HRL.out];omega)).mono ?_);rintro e w2 ⟨rfl,hb2⟩;rw [bs_data,HRW.out];(simp only [TokL.v]);have hB2:=blk_on hB1 hb2 hz1;have hzz:=blk_lt hB2;have HBB:=Hd (hb1'.trans (hb2.mono hb1'.size));clear hB1 hb2 hb1' h0;obtain⟨q0,q1,q2,q3,q4,q5,q6⟩:=blk_cells7 hB2;(have fr:=fun i=>blk_free hB2 i);clear hB2;go_wp2;(refine bodyPost_ret (v:=.tuple #[.agg #[.int .i64 tk,.string (bs tx),.int .i64 uk,.string (bs ux),.string (bs uy),.string (bs uz),.int .i64 ((a:Int)+(p:Int))],.int .i64 ((a:Int)+(p:Int)+(n:Int)),.int .i64 0]) (by simp [results,Tryz.results28,q0,q1,q2,q3,q4,q5,q6,hzz,World.cell?_alloc_lt,go_sem]) rfl ⟨by rw [HS.out];exact ret_next (t:=⟨tk,tx,⟨uk,ux,uy,uz⟩,(a:Int)+(p:Int)⟩) (u:=⟨tk,tx,⟨uk,ux,uy,uz⟩,((a+p:Nat):Int)⟩) (a:=(a:Int)+(p:Int)+(n:Int)) (b:=((a+p+n:Nat):Int)) (c:=0) (d:=0) (by rw [show ((a+p:Nat):Int)=(a:Int)+(p:Int) by omega]) (by omega) rfl,?_⟩);repeat (with_reducible (first|exact HBB.out|refine Below.setCell ?_ (by first|exact Nat.le_refl _|omega|(simp;omega)) _|refine Below.alloc ?_ (by first|omega|(simp;omega)) _))
end
section
open Go.RowKit
def RLexR (w:World) (l:List UInt8) (f:Nat) (v a:Value) (wr:World):Prop :=
  ∃(T:List TokL) (p:Nat),a=.int .i64 (begS l p)∧wr.ownsRow w.heap.size 69 7 v T.length (tokCells T)∧Below w.heap.size w wr∧Hid (Run5 l T f p)∧p≤l.length∧T.length≤p∧l.length-p<f
theorem sp_yes {b:UInt8} {r:List UInt8} (h:spaceZ (b.toNat:Int)=true):spaceLead (b::r)=spaceLead r+1:=by
  have e:spaceLead (b::r)=if spaceZ (b.toNat:Int) then lead (fun _ c=>spaceZ c) (0+1) r+1 else 0:=rfl
  rw [e,if_pos h,lead_free _ (0+1) 0];rfl
theorem sp_no {b:UInt8} {r:List UInt8} (h:¬spaceZ (b.toNat:Int)=true):spaceLead (b::r)=0:=by
  have e:spaceLead (b::r)=if spaceZ (b.toNat:Int) then lead (fun _ c=>spaceZ c) (0+1) r+1 else 0:=rfl
  rw [e,if_neg h]
theorem beg_beg (l:List UInt8) (a:Nat):begS l (begS l a)=begS l a:=by
  have key:∀(l:List UInt8),spaceLead (l.drop (spaceLead l))=0:=by
    intro l
    induction l with
    | nil=>rfl
    | cons b r ih =>
      by_cases h:spaceZ (b.toNat:Int)=true
      · rw [sp_yes h,List.drop_succ_cons];exact ih
      · rw [sp_no h,List.drop_zero,sp_no h]
  unfold begS
  rw [←List.drop_drop,key];rfl
theorem next_beg (l:List UInt8) (a:Nat):nextS l (begS l a)=nextS l a:=by
  unfold nextS;rw [beg_beg]
theorem rLex_calls (s:ByteArray) (w:World):Calls Tryz.prog 11 #[.string s] w (LexT w (lexS s.data.toList)):=by
 (have HSL:=Hd (show s.data.toList.length=s.size from (Lib.size_eq s).symm));by_cases h4:4096<s.size
 ·(have HE:=Hd (show lexS s.data.toList=([],0,3) by unfold lexS;rw [if_pos (by rw [HSL.out];exact h4)]));(have g:(4096:Int)<(s.size:Int):=by omega);(go_enter Tryz.func11,Tryz.ntmps11);go_wp2;refine bodyPost_ret (v:=.tuple #[.slice none 0 0,.int .i64 0,.int .i64 3]) (by simp [results,Tryz.results11,go_sem]) rfl (lex_none HE.out (Below.refl _ _))
 ·(have hs:s.size≤4096:=by omega);(have HE:=Hd (show lexS s.data.toList=toksS s.data.toList (s.size+1) 0 by unfold lexS;rw [if_neg (by rw [HSL.out];exact h4),HSL.out]));(have g:¬(4096:Int)<(s.size:Int):=by omega);obtain⟨i0,hi,hz0,hz1,hz2⟩:=info_parts info_token;(have hmade:=World.ownsRow_made (base:=w.heap.size) (e:=69) (size:=7) w #[] 0 (Nat.le_refl _) (by unfold maxLen;omega) rfl);have HMADE:=Hd hmade;have hstart:=run_start s.data.toList;rw [HSL.out] at hstart;have HST:=Hd hstart;(have HB0:=Hd (show begS s.data.toList 0=spaceLead s.data.toList by unfold begS;simp));have hR1:Hid (∀W,Calls Tryz.prog 27 #[.string s,.int .i64 0,.int .i64 1] W fun e w'=>e=.returned (.int .i64 (begS s.data.toList 0))∧w'=W):=Hd fun W=>by
   rw [HB0.out];exact rRun1_calls s 0 W (by omega) (by omega)
  clear hmade hstart;(go_enter Tryz.func11,Tryz.ntmps11);(go_wp2_with fail);refine (hR1.out _).mono ?_;rintro e w0 ⟨rfl,hw0⟩;obtain rfl:=hw0.symm;clear hw0;go_wp2;go_loopg [5,6] (s.size+1) (fun g v a wr=>RLexR w s.data.toList g v a wr)
  case atStart=>exact⟨[],0,rfl,HMADE.out,box_below _ _,HST.out,Nat.zero_le _,Nat.le_refl _,by rw [HSL.out];omega⟩
  case round =>
   obtain⟨W1,rfl⟩:∃W1,W1=wr:=⟨_,rfl⟩;obtain⟨T,p,rfl,hown,hbw,hrun,hpl,hTp,hfl⟩:=hrel;rw [HSL.out] at hpl hfl;(obtain⟨f,rfl⟩:∃f,gk=f+1:=⟨gk-1,by omega⟩);(have hT4:T.length≤4096:=by omega);(have hbl:=begS_le (l:=s.data.toList) (a:=p) (by rw [HSL.out];exact hpl));rw [HSL.out] at hbl;(have hnT:=rNext_calls s (begS s.data.toList p) W1 (by omega) hbl);(unfold NextT at hnT);rw [next_beg] at hnT;have hrb:=@run_bad s.data.toList T (f+1) p hrun.out;have hrw:=@run_word s.data.toList T f p hrun.out;have hre:=@run_end s.data.toList T (f+1) p hrun.out;rw [HSL.out] at hrb hrw hre;obtain⟨v5,c5,rfl⟩:=row_slice hown;by_cases hb:begS s.data.toList p=s.size
   ·have HE':=Hd (hre hb);(have gb:¬((begS s.data.toList p:Nat):Int)<(s.size:Int):=by omega);clear hnT hrb hrw hre hb hrun;go_wp2;(refine bodyPost_ret (v:=.tuple #[.slice v5 T.length c5,.int .i64 0,.int .i64 0]) (by simp [results,Tryz.results11,go_sem]) rfl ?_);rw [HE.out];exact lex_all HE'.out hown hbw
   ·obtain⟨⟨wt,n⟩,hW⟩:∃W,wordS (s.data.toList.drop (begS s.data.toList p))=W:=⟨_,rfl⟩;(have gb:((begS s.data.toList p:Nat):Int)<(s.size:Int):=by omega);by_cases hn:n=0
    ·(have hq:nextS s.data.toList p=(noTok,0,2):=next_bad (by rw [HSL.out];exact hb) (by rw [hW];exact hn));rw [hq] at hnT;(have hE:=hrb hb (by rw [hW];exact hn));have HE':=Hd hE;have HN:=Hd hnT;clear hnT hrb hrw hre hq hE hb hrun hW;obtain⟨b,hbe⟩:∃b,begS s.data.toList p=b:=⟨_,rfl⟩;rw [hbe] at HN HE' gb hbl ⊢;clear hbe;(go_wp2_with fail);refine HN.out.mono ?_;rintro e w1 ⟨rfl,hb1⟩;(simp only [TokL.v,noTok,noTerm,bs_nil]);have hbw1:=hbw.trans (hb1.mono hbw.size);have hz1':w.heap.size≤w1.heap.size:=hbw1.size;clear hb1 hown hbw;go_wp2;(refine bodyPost_ret (v:=.tuple #[.slice none 0 0,.int .i64 b,.int .i64 2]) (by simp [results,Tryz.results11,go_sem]) rfl ?_);rw [HE.out];exact lex_none HE'.out (hbw1.alloc hz1' _)
    ·(have hwn:¬(wordS (s.data.toList.drop (begS s.data.toList p))).2=0:=by rw [hW];exact hn);(have hq:=next_word (l:=s.data.toList) (a:=p) (by rw [HSL.out];exact hb) hwn);have hr:=hrw hb hwn;have hle:=word_le (s.data.toList.drop (begS s.data.toList p));have hge:=begS_ge s.data.toList p;rw [List.length_drop,HSL.out] at hle;rw [hq] at hnT hr;rw [hW] at hnT hr hle;dsimp only at hnT hr hle;obtain⟨b,hbe⟩:∃b,begS s.data.toList p=b:=⟨_,rfl⟩;rw [hbe] at hnT hr hle hbl hb hge gb ⊢;obtain⟨wk,wx,⟨uk,ux,uy,uz⟩,wa⟩:=wt;(simp only [TokL.at] at hnT hr);have hR:=hr.1;have HR:=Hd hR;have HN:=Hd hnT;(have gT:(T.length:Int)<4096:=by omega);(have hbn:b+n≤s.size:=by omega);(have HBN:=Hd (show begS s.data.toList (b+n)=(b+n)+spaceLead (s.data.toList.drop (b+n)) from rfl));have hR2:Hid (∀W,Calls Tryz.prog 27 #[.string s,.int .i64 ((b:Int)+(n:Int)),.int .i64 1] W fun e w'=>e=.returned (.int .i64 (spaceLead (s.data.toList.drop (b+n))))∧w'=W):=Hd fun W=>by
      rw [show ((b:Int)+(n:Int))=((b+n:Nat):Int) by omega];exact rRun1_calls s (b+n) W (by omega) (by omega)
     (have hsl:=begS_le (l:=s.data.toList) (a:=b+n) (by rw [HSL.out];exact hbn));rw [HBN.out,HSL.out] at hsl;obtain⟨q,hqq⟩:∃q,spaceLead (s.data.toList.drop (b+n))=q:=⟨_,rfl⟩;rw [hqq] at HBN hR2 hsl;clear hnT hrb hrw hre hq hr hR hbe hrun hW hwn hqq;(go_wp2_with fail);refine HN.out.mono ?_;rintro e w1 ⟨rfl,hb1⟩;(simp only [TokL.v]);have hown1:=rowOn hown hb1;have hbw1:=hbw.trans (hb1.mono hbw.size);have hz1':w.heap.size≤w1.heap.size:=hbw1.size;clear hb1 hown hbw;(go_wp2_with (first|(go_at_call 27;refine (hR2.out _).mono ?_;rintro e wn ⟨rfl,hwn⟩;obtain rfl:=hwn.symm;clear hwn)|(at_builtin;(refine wpList_append_own _ rfl (.tmp 35) (.tmp 37) 36 rfl w.heap.size 69 i0 noTok.v 7 88 Tryz.underlying36 hi hz0 hz1 hz2 rfl (by decide) _ _ _ rfl ((hown1.alloc _).alloc _) ⟨w1.heap.size+1,0,none⟩ 1 1 [.int .i64 wk,.string (bs wx),.int .i64 uk,.string (bs ux),.string (bs uy),.string (bs uz),.int .i64 b] rfl rfl (news7 _ _ _ _ _ _ _ _ _ (by simp)) (by intro u hu;simp at hu;rcases hu with rfl|rfl|rfl|rfl|rfl|rfl|rfl<;>rfl) (by unfold maxLen;omega) (by omega) (by simp;omega) ?_;intro v3 w3 hown4 hgrow4 hnil4;have HN4:=Hd hnil4;clear hnil4;have HO4:=Hd hown4;clear hown4;have HG4:=Hd hgrow4;clear hgrow4))));go_roundg f
     case measure=>omega
     case rel=>exact⟨T++[⟨wk,wx,⟨uk,ux,uy,uz⟩,b⟩],b+n,by rw [HBN.out];go_num,by rw [tokCells_append,List.length_append,tokCells_one];exact HO4.out,((hbw1.alloc hz1' _).alloc (by simp;omega) _).grown HG4.out (by simp;omega) (fun q hq=>(hown1.lt q hq).1),HR,by rw [HSL.out];omega,by rw [List.length_append,List.length_singleton];omega,by rw [HSL.out];omega⟩
end
end Go.Proofs.YtjpfoophipcglaaGreatDoor
