/- How many letters, digits and blanks a text begins with; where the next word must begin: package lex's small functions, for every text. -/
import Derived.Test.YtjpfoophipcglaaGreatDoorKLexPlains
import Derived.Test.YtjpfoophipcglaaGreatDoorKTermAheads
import Derived.Shelf.Strings.SlTrimAscii
namespace Go.Proofs.YtjpfoophipcglaaGreatDoor
set_option maxRecDepth 100000
set_option maxHeartbeats 8000000
section
open Go.RowKit
theorem isLetter_calls (r:Int) (w:World):Calls Tryz.prog 148 #[.int .i32 r] w fun e w'=>e=.returned (.bool (letterZ r))∧w'=w:=by
  go_enter Tryz.func148,Tryz.ntmps148
  go_wp2
  all_goals go_ret
  all_goals exact⟨ret_bool (by rw [Bool.eq_iff_iff];simp [letterZ,smallZ,bigZ]<;>omega),rfl⟩
theorem isDigit_calls (r:Int) (w:World):Calls Tryz.prog 150 #[.int .i32 r] w fun e w'=>e=.returned (.bool (digitZ r))∧w'=w:=by
  by_cases h1:48≤r<;>by_cases h2:r≤57<;>go_enter Tryz.func150,Tryz.ntmps150<;>go_wp2<;>go_ret<;>exact⟨by simp [digitZ, *],rfl⟩
theorem leadingLetter_calls (s:ByteArray) (w:World) (_hs:s.size≤maxLen):Calls Tryz.prog 147 #[.string s,.func (.func 148) #[] #[]] w fun e w'=>e=.returned (.int .i64 (letterLead s.data.toList))∧Below w.heap.size w w':=by
 (unfold maxLen at _hs);(go_enter Tryz.func147,Tryz.ntmps147);go_wp2;go_loopw [5] (fun _ w'=>∃k:Nat,w'=w.iter s k∧k≤s.size∧Hid (letterLead s.data.toList=k+lead (fun _ c=>letterZ c) k (s.data.toList.drop k))) (fun _ w'=>s.size-w'.iterPos w.heap.size)
 case atStart=>exact⟨0,rfl,Nat.zero_le _,Hd (by simp [letterLead])⟩
 case round =>
  obtain⟨k,rfl,hk,HL⟩:=hrel;by_cases hp:k<s.size
  ·(have hnx:∀ty,(Instr.next (.pointer (some ⟨w.heap.size,0,none⟩)) true ty).run Tryz.prog (w.iter s k)=_:=fun ty=>run_next_any w s k ty hp);have hr:=rune_of s k hp;(have hl:k<s.data.toList.length:=by simpa using hp);have hd:1≤(Utf8.decode s k).2:=width_pos s k hp;generalize ((Utf8.decode s k).1:Int)=r at hr hnx;generalize (Utf8.decode s k).2=d at hr hd hnx;generalize hb:(s.data.toList[k]'hl).toNat=b at hr;by_cases hz:letterZ r=true
   ·(have hlow:¬128≤r:=fun h=>by rw [letter_high h] at hz;cases hz);(obtain⟨rfl,rfl⟩:r=(b:Int)∧d=1:=hr.resolve_right fun h=>hlow h.1);(have h0:=lead_drop_yes (fun _ c=>letterZ c) s.data.toList k hl);rw [hb] at h0;have H0:=Hd (h0 hz);clear h0 hb hr;(go_wp2_with (go_at_call 148;refine (isLetter_calls _ _).mono ?_;rintro e w' ⟨rfl,rfl⟩));go_roundw
    case rel=>exact⟨k+1,rfl,by omega,Hd (by rw [HL.out,H0.out];omega)⟩
    case measure=>simp;omega
   ·(have hz':letterZ r=false:=by simpa using hz);(have h0:=lead_drop_no (fun _ c=>letterZ c) s.data.toList k hl);rw [hb] at h0;have H0:=Hd (h0 (by
     rcases hr with h|h
     ·rw [←h.1];exact hz'
     ·exact letter_high (by omega)))
    clear h0 hb hr hz;(go_wp2_with (go_at_call 148;refine (isLetter_calls _ _).mono ?_;rintro e w' ⟨rfl,rfl⟩));go_ret;exact⟨ret_int (by rw [HL.out,H0.out];omega),iter_below _ _ _⟩
  ·(have hnx:∀ty,(Instr.next (.pointer (some ⟨w.heap.size,0,none⟩)) true ty).run Tryz.prog (w.iter s k)=_:=fun ty=>run_next_end w s k ty hp);go_wp2;go_ret;exact⟨ret_int (by rw [HL.out,lead_drop_end _ _ _ (by simpa using (by omega:s.size≤k))];omega),iter_below _ _ _⟩
theorem leadingDigit_calls (s:ByteArray) (w:World) (_hs:s.size≤maxLen):Calls Tryz.prog 147 #[.string s,.func (.func 150) #[] #[]] w fun e w'=>e=.returned (.int .i64 (digitLead s.data.toList))∧Below w.heap.size w w':=by
 (unfold maxLen at _hs);(go_enter Tryz.func147,Tryz.ntmps147);go_wp2;go_loopw [5] (fun _ w'=>∃k:Nat,w'=w.iter s k∧k≤s.size∧Hid (digitLead s.data.toList=k+lead (fun _ c=>digitZ c) k (s.data.toList.drop k))) (fun _ w'=>s.size-w'.iterPos w.heap.size)
 case atStart=>exact⟨0,rfl,Nat.zero_le _,Hd (by simp [digitLead])⟩
 case round =>
  obtain⟨k,rfl,hk,HL⟩:=hrel;by_cases hp:k<s.size
  ·(have hnx:∀ty,(Instr.next (.pointer (some ⟨w.heap.size,0,none⟩)) true ty).run Tryz.prog (w.iter s k)=_:=fun ty=>run_next_any w s k ty hp);have hr:=rune_of s k hp;(have hl:k<s.data.toList.length:=by simpa using hp);have hd:1≤(Utf8.decode s k).2:=width_pos s k hp;generalize ((Utf8.decode s k).1:Int)=r at hr hnx;generalize (Utf8.decode s k).2=d at hr hd hnx;generalize hb:(s.data.toList[k]'hl).toNat=b at hr;by_cases hz:digitZ r=true
   ·(have hlow:¬128≤r:=fun h=>by rw [digit_high h] at hz;cases hz);(obtain⟨rfl,rfl⟩:r=(b:Int)∧d=1:=hr.resolve_right fun h=>hlow h.1);(have h0:=lead_drop_yes (fun _ c=>digitZ c) s.data.toList k hl);rw [hb] at h0;have H0:=Hd (h0 hz);clear h0 hb hr;(go_wp2_with (go_at_call 150;refine (isDigit_calls _ _).mono ?_;rintro e w' ⟨rfl,rfl⟩));go_roundw
    case rel=>exact⟨k+1,rfl,by omega,Hd (by rw [HL.out,H0.out];omega)⟩
    case measure=>simp;omega
   ·(have hz':digitZ r=false:=by simpa using hz);(have h0:=lead_drop_no (fun _ c=>digitZ c) s.data.toList k hl);rw [hb] at h0;have H0:=Hd (h0 (by
     rcases hr with h|h
     ·rw [←h.1];exact hz'
     ·exact digit_high (by omega)))
    clear h0 hb hr hz;(go_wp2_with (go_at_call 150;refine (isDigit_calls _ _).mono ?_;rintro e w' ⟨rfl,rfl⟩));go_ret;exact⟨ret_int (by rw [HL.out,H0.out];omega),iter_below _ _ _⟩
  ·(have hnx:∀ty,(Instr.next (.pointer (some ⟨w.heap.size,0,none⟩)) true ty).run Tryz.prog (w.iter s k)=_:=fun ty=>run_next_end w s k ty hp);go_wp2;go_ret;exact⟨ret_int (by rw [HL.out,lead_drop_end _ _ _ (by simpa using (by omega:s.size≤k))];omega),iter_below _ _ _⟩
theorem TrimLeft_calls (s:ByteArray) (w:World):Calls Tryz.prog 113 #[.string s,.string ⟨#[32,9,10]⟩] w fun e w'=>e=.returned (.string (bs (s.data.toList.drop (spaceLead s.data.toList))))∧Below w.heap.size w w':=by
  have:=Any.strings_TrimLeft_laid Tryz.lays161 (by kernel_rfl) s ⟨#[32,9,10]⟩ w (by decide) (ascii_of_all (by decide))
  rw [show (ByteArray.data ⟨#[32,9,10]⟩).toList=[32,9,10] from rfl,trim_lead] at this
  exact this
theorem begin_calls (s:ByteArray) (a:Nat) (w:World) (hs:s.size≤maxLen) (ha:a≤s.size):Calls Tryz.prog 75 #[.string s,.int .i64 a] w fun e w'=>e=.returned (.int .i64 (begS s.data.toList a))∧Below w.heap.size w w':=by
 (unfold maxLen at hs);(have hb:=begS_le (l:=s.data.toList) (a:=a) (by rw [←Lib.size_eq];exact ha));have hsp:=space_le (s.data.toList.drop a);rw [List.length_drop,←Lib.size_eq] at hsp;rw [←Lib.size_eq] at hb;(have HB:=Hd (show begS s.data.toList a=a+spaceLead (s.data.toList.drop a) from rfl));have hsz:((s.data.toList.drop a).drop (spaceLead (s.data.toList.drop a))).length=s.size-(a+spaceLead (s.data.toList.drop a)):=by
  rw [List.length_drop,List.length_drop,←Lib.size_eq];omega
 obtain⟨n,hn⟩:∃n,spaceLead (s.data.toList.drop a)=n:=⟨_,rfl⟩;obtain⟨R,hR⟩:∃R,(s.data.toList.drop a).drop n=R:=⟨_,rfl⟩;rw [hn] at HB hsz hsp;rw [hR] at hsz;have HN:=Hd hn;have HR:=Hd hR;(have HZ:=Hd (show (bs R).size=s.size-(a+n) from hsz));(have hbl:(bs R).size≤s.size:=by rw [HZ.out];omega);clear hn hR hsz;(go_enter Tryz.func75,Tryz.ntmps75);(go_wp2_with fail);rw [drop_bs s a];refine (TrimLeft_calls (bs _) _).mono ?_;rintro e w1 ⟨rfl,hb1⟩;rw [bs_data,HN.out,HR.out];go_wp2;go_ret;exact⟨ret_int (by rw [HB.out,HZ.out];omega),hb1⟩
end
section
open Go.RowKit
theorem ascii_step (row:ByteArray) (k:Nat) (h:k<row.size) (ha:(row[k]'h).toNat<128):(Utf8.decode row k).2=1:=by rw [decode_ascii row k h ha]
theorem oneOf1_calls (row:ByteArray) (s:ByteArray) (w:World) (hrow:∀k (h:k<row.size),(row[k]'h).toNat<128) (hrs:row.size≤100):Calls Tryz.prog 207 #[.string row,.int .i64 1,.string s] w fun e w'=>e=.returned (.string (bs (pickS row.data.toList 1 s.data.toList row.size 0)))∧Below w.heap.size w w':=by
 have HROW:=Hd hrow;clear hrow;(go_enter Tryz.func207,Tryz.ntmps207);go_wp2;go_loopw [7] (fun _ w'=>∃k:Nat,w'=w.iter row k∧k≤row.size∧Hid (pickS row.data.toList 1 s.data.toList row.size 0=pickS row.data.toList 1 s.data.toList (row.size-k) k)) (fun _ w'=>row.size-w'.iterPos w.heap.size)
 case atStart=>exact⟨0,rfl,Nat.zero_le _,Hd rfl⟩
 case round =>
  obtain⟨k,rfl,hk,HL⟩:=hrel;by_cases hp:k<row.size
  ·(have hnx:∀ty,(Instr.next (.pointer (some ⟨w.heap.size,0,none⟩)) true ty).run Tryz.prog (w.iter row k)=_:=fun ty=>run_next_any w row k ty hp);rw [ascii_step row k hp (HROW.out k hp)] at hnx;(obtain⟨f,hf⟩:∃f,row.size-k=f+1:=⟨row.size-k-1,by omega⟩);have HF:=Hd hf;rw [HF.out] at HL;clear hf;have hm:k % 1=0:=Nat.mod_one k;(have g1:((k:Int).tmod 1==0)=true:=by simp);(have g2:((k:Int) % 1==0)=true:=by simp);obtain⟨P,hP⟩:∃P,(row.data.toList.drop k).take 1=P:=⟨_,rfl⟩;have hpb:=piece_bs row k (k+1);rw [Nat.add_sub_cancel_left,hP] at hpb;have HPB:=Hd hpb;(have gk:(k:Int)+1≤(row.size:Int):=by omega);cases hh:Lib.hasPrefix s.data.toList P with
   | true =>
     (have HY:=Hd (pick_yes (f:=f) (k:=k) hm (by rw [hP];exact hh)));have HH:=Hd hh;have HP:=Hd hP;clear hh hP hpb hm;(go_wp2_with (go_at_call 201;rw [HPB.out];refine (Tryz.strings_HasPrefix _ _ _).mono ?_;rintro e w' ⟨rfl,rfl⟩;rw [bs_data,HH.out]));go_ret;exact⟨by rw [HL.out,HY.out,HP.out,HPB.out];rfl,iter_below _ _ _⟩
   | false =>
     (have HN:=Hd (pick_no (f:=f) (k:=k) (fun _=>by rw [hP];exact hh)));have HH:=Hd hh;clear hh hP hpb hm;(go_wp2_with (go_at_call 201;rw [HPB.out];refine (Tryz.strings_HasPrefix _ _ _).mono ?_;rintro e w' ⟨rfl,rfl⟩;rw [bs_data,HH.out]));go_roundw
     case rel=>exact⟨k+1,rfl,by omega,Hd (by rw [HL.out,HN.out,show row.size-(k+1)=f by have:=HF.out;omega])⟩
     case measure=>simp;omega
  ·(have hnx:∀ty,(Instr.next (.pointer (some ⟨w.heap.size,0,none⟩)) true ty).run Tryz.prog (w.iter row k)=_:=fun ty=>run_next_end w row k ty hp);(have HZ:=Hd (show row.size-k=0 by omega));go_wp2;go_ret;exact⟨by rw [HL.out,HZ.out];rfl,iter_below _ _ _⟩
theorem oneOf2_calls (row:ByteArray) (s:ByteArray) (w:World) (hrow:∀k (h:k<row.size),(row[k]'h).toNat<128) (hdiv:row.size % 2=0) (hrs:row.size≤100):Calls Tryz.prog 207 #[.string row,.int .i64 2,.string s] w fun e w'=>e=.returned (.string (bs (pickS row.data.toList 2 s.data.toList row.size 0)))∧Below w.heap.size w w':=by
 have HROW:=Hd hrow;clear hrow;(go_enter Tryz.func207,Tryz.ntmps207);go_wp2;go_loopw [7] (fun _ w'=>∃k:Nat,w'=w.iter row k∧k≤row.size∧Hid (pickS row.data.toList 2 s.data.toList row.size 0=pickS row.data.toList 2 s.data.toList (row.size-k) k)) (fun _ w'=>row.size-w'.iterPos w.heap.size)
 case atStart=>exact⟨0,rfl,Nat.zero_le _,Hd rfl⟩
 case round =>
  obtain⟨k,rfl,hk,HL⟩:=hrel;by_cases hp:k<row.size
  ·(have hnx:∀ty,(Instr.next (.pointer (some ⟨w.heap.size,0,none⟩)) true ty).run Tryz.prog (w.iter row k)=_:=fun ty=>run_next_any w row k ty hp);rw [ascii_step row k hp (HROW.out k hp)] at hnx;(obtain⟨f,hf⟩:∃f,row.size-k=f+1:=⟨row.size-k-1,by omega⟩);have HF:=Hd hf;rw [HF.out] at HL;clear hf;by_cases hm:k % 2=0
   ·(have g1:((k:Int).tmod 2==0)=true:=by rw [Int.tmod_eq_emod_of_nonneg (by omega)];exact beq_iff_eq.2 (by omega));(have g2:((k:Int) % 2==0)=true:=beq_iff_eq.2 (by omega));obtain⟨P,hP⟩:∃P,(row.data.toList.drop k).take 2=P:=⟨_,rfl⟩;have hpb:=piece_bs row k (k+2);rw [Nat.add_sub_cancel_left,hP] at hpb;have HPB:=Hd hpb;(have gk:(k:Int)+2≤(row.size:Int):=by omega);cases hh:Lib.hasPrefix s.data.toList P with
    | true =>
      (have HY:=Hd (pick_yes (f:=f) (k:=k) hm (by rw [hP];exact hh)));have HH:=Hd hh;have HP:=Hd hP;clear hh hP hpb hm;(go_wp2_with (go_at_call 201;rw [HPB.out];refine (Tryz.strings_HasPrefix _ _ _).mono ?_;rintro e w' ⟨rfl,rfl⟩;rw [bs_data,HH.out]));go_ret;exact⟨by rw [HL.out,HY.out,HP.out,HPB.out];rfl,iter_below _ _ _⟩
    | false =>
      (have HN:=Hd (pick_no (f:=f) (k:=k) (fun _=>by rw [hP];exact hh)));have HH:=Hd hh;clear hh hP hpb hm;(go_wp2_with (go_at_call 201;rw [HPB.out];refine (Tryz.strings_HasPrefix _ _ _).mono ?_;rintro e w' ⟨rfl,rfl⟩;rw [bs_data,HH.out]));go_roundw
      case rel=>exact⟨k+1,rfl,by omega,Hd (by rw [HL.out,HN.out,show row.size-(k+1)=f by have:=HF.out;omega])⟩
      case measure=>simp;omega
   ·(have g1:((k:Int).tmod 2==0)=false:=by rw [Int.tmod_eq_emod_of_nonneg (by omega)];exact beq_eq_false_iff_ne.2 (by omega));(have g2:((k:Int) % 2==0)=false:=beq_eq_false_iff_ne.2 (by omega));(have HN:=Hd (pick_no (row:=row.data.toList) (n:=2) (l:=s.data.toList) (f:=f) (k:=k) (fun h=>absurd h hm)));clear hm;(go_wp2_with fail);go_roundw
    case rel=>exact⟨k+1,rfl,by omega,Hd (by rw [HL.out,HN.out,show row.size-(k+1)=f by have:=HF.out;omega])⟩
    case measure=>simp;omega
  ·(have hnx:∀ty,(Instr.next (.pointer (some ⟨w.heap.size,0,none⟩)) true ty).run Tryz.prog (w.iter row k)=_:=fun ty=>run_next_end w row k ty hp);(have HZ:=Hd (show row.size-k=0 by omega));go_wp2;go_ret;exact⟨by rw [HL.out,HZ.out];rfl,iter_below _ _ _⟩
end
section
open Go.RowKit
theorem cutStop_calls (s:ByteArray) (w:World) :
    Calls Tryz.prog 246 #[.string s,.string ⟨#[46]⟩] w fun e w'=>e=.returned (.tuple #[.string (bs (Lib.trimPrefix s.data.toList [46])),.bool (Lib.hasPrefix s.data.toList [46])])∧w'=w:=Tryz.strings_CutPrefix s ⟨#[46]⟩ w
theorem placesAhead_calls (s:ByteArray) (w:World) (hs:s.size≤maxLen):Calls Tryz.prog 206 #[.string s] w fun e w'=>e=.returned (.int .i64 (placesS s.data.toList))∧Below w.heap.size w w':=by
 (unfold maxLen at hs);cases hst:Lib.hasPrefix s.data.toList [46] with
 | false =>
   (have HT:=Hd (show Lib.trimPrefix s.data.toList [46]=s.data.toList by unfold Lib.trimPrefix;rw [hst];rfl));have HST:=Hd hst;(have HS:=Hd (show placesS s.data.toList=0 by unfold placesS;rw [hst];simp));clear hst;(go_enter Tryz.func206,Tryz.ntmps206);(go_wp2_with fail);refine (cutStop_calls _ _).mono ?_;rintro e w0 ⟨rfl,hw⟩;obtain rfl:=hw.symm;rw [HT.out,HST.out];(go_wp2_with fail);(refine (leadingDigit_calls (bs s.data.toList) _ (by rw [bs_of];unfold maxLen;omega)).mono ?_);rintro e w1 ⟨rfl,hb1⟩;go_wp2;go_ret;exact⟨by rw [HS.out];rfl,hb1⟩
 | true =>
   have h1:=Lib.hasPrefix_le hst;rw [←Lib.size_eq] at h1;(have hl:(s.data.toList.drop 1).length=s.size-1:=by rw [List.length_drop,←Lib.size_eq]);(have hd:=lead_le (fun _ c=>digitZ c) 0 (s.data.toList.drop 1));(rw [show lead (fun _ c=>digitZ c) 0 (s.data.toList.drop 1)=digitLead (s.data.toList.drop 1) from rfl,hl] at hd);(have hS:placesS s.data.toList=if 0<digitLead (s.data.toList.drop 1) then digitLead (s.data.toList.drop 1)+1 else 0:=by unfold placesS;rw [hst];simp);(have hT:Lib.trimPrefix s.data.toList [46]=s.data.toList.drop 1:=by unfold Lib.trimPrefix;rw [hst];rfl);obtain⟨R,hR⟩:∃R,s.data.toList.drop 1=R:=⟨_,rfl⟩;rw [hR] at hl hd hS hT;(have hRl:(bs R).size≤s.size:=by rw [bs_size,hl];omega);have HT:=Hd hT;have HST:=Hd hst;obtain⟨n,hn⟩:∃n,digitLead R=n:=⟨_,rfl⟩;rw [hn] at hS hd;have HS:=Hd hS;have HN:=Hd hn;clear hst hn hl hS hT hR;by_cases h0:0<n
   ·have HS2:=Hd (HS.out.trans (if_pos h0));(go_enter Tryz.func206,Tryz.ntmps206);(go_wp2_with fail);refine (cutStop_calls _ _).mono ?_;rintro e w0 ⟨rfl,hw⟩;obtain rfl:=hw.symm;rw [HT.out,HST.out];(go_wp2_with fail);(refine (leadingDigit_calls (bs R) _ (by unfold maxLen;omega)).mono ?_);rintro e w1 ⟨rfl,hb1⟩;rw [bs_data,HN.out];go_wp2;go_ret;exact⟨ret_int (by rw [HS2.out];omega),hb1⟩
   ·have HS2:=Hd (HS.out.trans (if_neg h0));(go_enter Tryz.func206,Tryz.ntmps206);(go_wp2_with fail);refine (cutStop_calls _ _).mono ?_;rintro e w0 ⟨rfl,hw⟩;obtain rfl:=hw.symm;rw [HT.out,HST.out];(go_wp2_with fail);(refine (leadingDigit_calls (bs R) _ (by unfold maxLen;omega)).mono ?_);rintro e w1 ⟨rfl,hb1⟩;rw [bs_data,HN.out];go_wp2;go_ret;exact⟨ret_int (by rw [HS2.out];rfl),hb1⟩
theorem double_ascii:∀k (h:k<(ByteArray.mk #[60,61,62,61,33,61,38,38,124,124]).size),((ByteArray.mk #[60,61,62,61,33,61,38,38,124,124])[k]'h).toNat<128:=by decide
theorem single_ascii:∀k (h:k<(ByteArray.mk #[123,125,40,41,46,44,42,43,45,47,61,60,62,33]).size),((ByteArray.mk #[123,125,40,41,46,44,42,43,45,47,61,60,62,33])[k]'h).toNat<128:=by decide
theorem signAhead_calls (s:ByteArray) (w:World):Calls Tryz.prog 152 #[.string s] w fun e w'=>e=.returned (.string (bs (signT s.data.toList)))∧Below w.heap.size w w':=by
 have h1:Hid (∀W,Calls Tryz.prog 207 #[.string ⟨#[60,61,62,61,33,61,38,38,124,124]⟩,.int .i64 2,.string s] W fun e w'=>e=.returned (.string (bs (twoT s.data.toList)))∧Below W.heap.size W w'):=Hd fun W=>by
  (have:=oneOf2_calls ⟨#[60,61,62,61,33,61,38,38,124,124]⟩ s W double_ascii (by decide) (by decide));rw [←pick_two];exact this
 have h2:Hid (∀W,Calls Tryz.prog 207 #[.string ⟨#[123,125,40,41,46,44,42,43,45,47,61,60,62,33]⟩,.int .i64 1,.string s] W fun e w'=>e=.returned (.string (bs (oneT s.data.toList)))∧Below W.heap.size W w'):=Hd fun W=>by
  (have:=oneOf1_calls ⟨#[123,125,40,41,46,44,42,43,45,47,61,60,62,33]⟩ s W single_ascii (by decide));rw [←pick_one];exact this
 (have HS:=Hd (show signT s.data.toList=_ from rfl));obtain⟨T,hT⟩:∃T,twoT s.data.toList=T:=⟨_,rfl⟩;obtain⟨O,hO⟩:∃O,oneT s.data.toList=O:=⟨_,rfl⟩;rw [hT] at h1;rw [hO] at h2;(have HS:Hid (signT s.data.toList=if T≠[] then T else O):=Hd (by unfold signT;rw [hT,hO]));clear hT hO;by_cases hn:T=[]
 ·(have HS2:=Hd (HS.out.trans (if_neg (by rw [hn];simp))));subst hn;clear HS;(go_enter Tryz.func152,Tryz.ntmps152);(go_wp2_with fail);refine (h1.out _).mono ?_;rintro e w1 ⟨rfl,hb1⟩;rw [bs_nil];(go_wp2_with fail);refine (h2.out _).mono ?_;rintro e w2 ⟨rfl,hb2⟩;go_wp2;go_ret;exact⟨by rw [HS2.out];rfl,hb1.trans (hb2.mono hb1.size)⟩
 ·have HS2:=Hd (HS.out.trans (if_pos hn));(have g1:(bs T).toList.isEmpty=false:=by rw [bs_toList];simpa using hn);clear HS hn;(go_enter Tryz.func152,Tryz.ntmps152);(go_wp2_with fail);refine (h1.out _).mono ?_;rintro e w1 ⟨rfl,hb1⟩;go_wp2;go_ret;exact⟨by rw [HS2.out];rfl,hb1⟩
end
end Go.Proofs.YtjpfoophipcglaaGreatDoor
