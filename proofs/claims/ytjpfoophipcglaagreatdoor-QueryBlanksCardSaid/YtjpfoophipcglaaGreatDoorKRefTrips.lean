/- What the document's own answers for bytes and texts come to. -/
import Derived.Test.YtjpfoophipcglaaGreatDoorKTermChecks
namespace Go.Proofs.YtjpfoophipcglaaGreatDoor
set_option maxRecDepth 100000
set_option maxHeartbeats 8000000
section
open Go.RowKit
def hasB (b:Int) (l:List UInt8):Bool:=l.any fun c=>decide ((c.toNat:Int)=b)
def allB (p:Int→Bool) (l:List UInt8):Bool:=l.all fun c=>p (c.toNat:Int)
theorem hasB_step (b:Int) (l:List UInt8) (k:Nat) (h:k<l.length):hasB b (l.drop k)=(decide ((l[k].toNat:Int)=b)||hasB b (l.drop (k+1))):=by
  rw [List.drop_eq_getElem_cons h];rfl
theorem hasB_end (b:Int) (l:List UInt8) (k:Nat) (h:l.length≤k):hasB b (l.drop k)=false:=by
  rw [List.drop_eq_nil_of_le h];rfl
theorem allB_step (p:Int→Bool) (l:List UInt8) (k:Nat) (h:k<l.length):allB p (l.drop k)=(p (l[k].toNat:Int)&&allB p (l.drop (k+1))):=by
  rw [List.drop_eq_getElem_cons h];rfl
theorem allB_end (p:Int→Bool) (l:List UInt8) (k:Nat) (h:l.length≤k):allB p (l.drop k)=true:=by
  rw [List.drop_eq_nil_of_le h];rfl
theorem get_list (s:ByteArray) (k:Nat) (h:k<s.size):(s.data.toList[k]'(by simpa using h))=s[k]'h:=by simp;rfl
def betw (f b t:Int):Bool:=decide (f≤b∧b≤t)
theorem rBetween_calls (b f t:Int) (w:World):Calls Tryz.prog 105 #[.int .u8 b,.int .u8 f,.int .u8 t] w fun e w'=>e=.returned (.bool (betw f b t))∧w'=w:=by
  by_cases h1:f≤b<;>by_cases h2:b≤t<;>go_enter Tryz.func105,Tryz.ntmps105<;>go_wp2<;>go_ret<;>exact⟨by simp [betw, *],rfl⟩
theorem rIs_calls (b:Int) (s:ByteArray) (w:World) (_hs:s.size≤maxLen):Calls Tryz.prog 140 #[.int .u8 b,.string s] w fun e w'=>e=.returned (.bool (hasB b s.data.toList))∧w'=w:=by
 (unfold maxLen at _hs);(go_enter Tryz.func140,Tryz.ntmps140);go_wp2;go_loop [5] (fun i=>∃k:Nat,k≤s.size∧i=.int .i64 k∧Hid (hasB b s.data.toList=hasB b (s.data.toList.drop k))) (fun i=>s.size-(intOf i).toNat)
 case atStart=>exact⟨0,Nat.zero_le _,rfl,Hd rfl⟩
 case round =>
  obtain⟨k,hk,rfl,HL⟩:=hrel;by_cases hp:k<s.size
  ·(have h0:=hasB_step b s.data.toList k (by simpa using hp));rw [get_list s k hp] at h0;by_cases hc:(s[k].toNat:Int)=b
   ·have g:((s[k].toNat:Int)==b)=true:=beq_iff_eq.2 hc;(have H0:=Hd (h0.trans (by simp [hc]):_=true));clear h0 hc;go_wp2;go_ret;exact⟨ret_bool (by rw [HL.out,H0.out]),rfl⟩
   ·have g:((s[k].toNat:Int)==b)=false:=beq_eq_false_iff_ne.2 hc;(have H0:=Hd (h0.trans (by simp [hc]):_=hasB b (s.data.toList.drop (k+1))));clear h0 hc;go_wp2;go_round
    case rel=>exact⟨k+1,by omega,by go_num,Hd (by rw [HL.out,H0.out])⟩
    case measure=>simp [intOf];omega
  ·(have H0:=Hd (hasB_end b s.data.toList k (by simpa using (by omega:s.size≤k))));go_wp2;go_ret;exact⟨ret_bool (by rw [HL.out,H0.out]),rfl⟩
theorem mark_has (b:Int):hasB b [60,62,34,123,125,124,94,96,92]=markZ b:=by
  rw [Bool.eq_iff_iff];simp [hasB,markZ];omega
theorem iriZ_atoms (c:Int):iriZ c=(betw 33 c 126&&!markZ c):=by
  rw [Bool.eq_iff_iff];simp [iriZ,betw]<;>omega
theorem litZ_atoms (c:Int):litZ c=(betw 32 c 126||(c==10)||(c==9)):=by
  rw [Bool.eq_iff_iff];simp [litZ,betw]<;>omega
theorem wordZ_atoms (c:Int):wordZ c=(betw 97 c 122||betw 65 c 90||betw 48 c 57||(c==95)):=by
  rw [Bool.eq_iff_iff];simp [wordZ,betw,letterZ,smallZ,bigZ,digitZ]<;>omega
theorem smallZ_atoms (c:Int):smallZ c=(betw 97 c 122):=by
  rw [Bool.eq_iff_iff];simp [smallZ,betw]<;>omega
theorem rAll1_calls (s:ByteArray) (w:World) (_hs:s.size≤maxLen):Calls Tryz.prog 104 #[.string s,.int .i64 1] w fun e w'=>e=.returned (.bool (allB iriZ s.data.toList))∧w'=w:=by
 (unfold maxLen at _hs);(go_enter Tryz.func104,Tryz.ntmps104);go_wp2;go_loop [5] (fun i=>∃k:Nat,k≤s.size∧i=.int .i64 k∧Hid (allB iriZ s.data.toList=allB iriZ (s.data.toList.drop k))) (fun i=>s.size-(intOf i).toNat)
 case atStart=>exact⟨0,Nat.zero_le _,rfl,Hd rfl⟩
 case round =>
  obtain⟨k,hk,rfl,HL⟩:=hrel;by_cases hp:k<s.size
  ·(have h0:=allB_step iriZ s.data.toList k (by simpa using hp));rw [get_list s k hp,iriZ_atoms] at h0;have H0:=Hd h0;clear h0;(rcases (show (betw 33 (s[k].toNat:Int) 126)=true∨(betw 33 (s[k].toNat:Int) 126)=false by cases (betw 33 (s[k].toNat:Int) 126)<;>simp) with hA|hA);(all_goals rcases (show (markZ (s[k].toNat:Int))=true∨(markZ (s[k].toNat:Int))=false by cases (markZ (s[k].toNat:Int))<;>simp) with hB|hB);all_goals
    (go_wp2_with (first|(go_at_call 105;refine (rBetween_calls _ _ _ _).mono ?_;rintro e w' ⟨rfl,hw⟩;obtain rfl:=hw.symm;clear hw)|(go_at_call 140;refine (rIs_calls _ _ _ (by decide)).mono ?_;rintro e w' ⟨rfl,hw⟩;obtain rfl:=hw.symm;clear hw;rw [show (ByteArray.mk #[60,62,34,123,125,124,94,96,92]).data.toList=[60,62,34,123,125,124,94,96,92] from rfl,mark_has])));first
    | (go_ret;exact⟨ret_bool (by rw [HL.out,H0.out];simp [hA,hB]),rfl⟩)
    | (go_round
       case rel=>exact⟨k+1,by omega,by go_num,Hd (by rw [HL.out,H0.out];simp [hA,hB])⟩
       case measure=>simp [intOf];omega)
  ·(have H0:=Hd (allB_end iriZ s.data.toList k (by simpa using (by omega:s.size≤k))));go_wp2;go_ret;exact⟨ret_bool (by rw [HL.out,H0.out]),rfl⟩
theorem rAll2_calls (s:ByteArray) (w:World) (_hs:s.size≤maxLen):Calls Tryz.prog 104 #[.string s,.int .i64 2] w fun e w'=>e=.returned (.bool (allB litZ s.data.toList))∧w'=w:=by
 (unfold maxLen at _hs);(go_enter Tryz.func104,Tryz.ntmps104);go_wp2;go_loop [5] (fun i=>∃k:Nat,k≤s.size∧i=.int .i64 k∧Hid (allB litZ s.data.toList=allB litZ (s.data.toList.drop k))) (fun i=>s.size-(intOf i).toNat)
 case atStart=>exact⟨0,Nat.zero_le _,rfl,Hd rfl⟩
 case round =>
  obtain⟨k,hk,rfl,HL⟩:=hrel;by_cases hp:k<s.size
  ·(have h0:=allB_step litZ s.data.toList k (by simpa using hp));rw [get_list s k hp,litZ_atoms] at h0;have H0:=Hd h0;clear h0;(rcases (show (betw 32 (s[k].toNat:Int) 126)=true∨(betw 32 (s[k].toNat:Int) 126)=false by cases (betw 32 (s[k].toNat:Int) 126)<;>simp) with hA|hA);(all_goals rcases (show (((s[k].toNat:Int)==10))=true∨(((s[k].toNat:Int)==10))=false by cases (((s[k].toNat:Int)==10))<;>simp) with hB|hB);(all_goals rcases (show (((s[k].toNat:Int)==9))=true∨(((s[k].toNat:Int)==9))=false by cases (((s[k].toNat:Int)==9))<;>simp) with hC|hC);all_goals
    (go_wp2_with (first|(go_at_call 105;refine (rBetween_calls _ _ _ _).mono ?_;rintro e w' ⟨rfl,hw⟩;obtain rfl:=hw.symm;clear hw)|(go_at_call 140;refine (rIs_calls _ _ _ (by decide)).mono ?_;rintro e w' ⟨rfl,hw⟩;obtain rfl:=hw.symm;clear hw;rw [show (ByteArray.mk #[60,62,34,123,125,124,94,96,92]).data.toList=[60,62,34,123,125,124,94,96,92] from rfl,mark_has])));first
    | (go_ret;exact⟨ret_bool (by rw [HL.out,H0.out];simp [hA,hB,hC]),rfl⟩)
    | (go_round
       case rel=>exact⟨k+1,by omega,by go_num,Hd (by rw [HL.out,H0.out];simp [hA,hB,hC])⟩
       case measure=>simp [intOf];omega)
  ·(have H0:=Hd (allB_end litZ s.data.toList k (by simpa using (by omega:s.size≤k))));go_wp2;go_ret;exact⟨ret_bool (by rw [HL.out,H0.out]),rfl⟩
theorem rAll3_calls (s:ByteArray) (w:World) (_hs:s.size≤maxLen):Calls Tryz.prog 104 #[.string s,.int .i64 3] w fun e w'=>e=.returned (.bool (allB wordZ s.data.toList))∧w'=w:=by
 (unfold maxLen at _hs);(go_enter Tryz.func104,Tryz.ntmps104);go_wp2;go_loop [5] (fun i=>∃k:Nat,k≤s.size∧i=.int .i64 k∧Hid (allB wordZ s.data.toList=allB wordZ (s.data.toList.drop k))) (fun i=>s.size-(intOf i).toNat)
 case atStart=>exact⟨0,Nat.zero_le _,rfl,Hd rfl⟩
 case round =>
  obtain⟨k,hk,rfl,HL⟩:=hrel;by_cases hp:k<s.size
  ·(have h0:=allB_step wordZ s.data.toList k (by simpa using hp));rw [get_list s k hp,wordZ_atoms] at h0;have H0:=Hd h0;clear h0;(rcases (show (betw 97 (s[k].toNat:Int) 122)=true∨(betw 97 (s[k].toNat:Int) 122)=false by cases (betw 97 (s[k].toNat:Int) 122)<;>simp) with hA|hA);(all_goals rcases (show (betw 65 (s[k].toNat:Int) 90)=true∨(betw 65 (s[k].toNat:Int) 90)=false by cases (betw 65 (s[k].toNat:Int) 90)<;>simp) with hB|hB);(all_goals rcases (show (betw 48 (s[k].toNat:Int) 57)=true∨(betw 48 (s[k].toNat:Int) 57)=false by cases (betw 48 (s[k].toNat:Int) 57)<;>simp) with hC|hC);(all_goals rcases (show (((s[k].toNat:Int)==95))=true∨(((s[k].toNat:Int)==95))=false by cases (((s[k].toNat:Int)==95))<;>simp) with hD|hD);all_goals
    (go_wp2_with (first|(go_at_call 105;refine (rBetween_calls _ _ _ _).mono ?_;rintro e w' ⟨rfl,hw⟩;obtain rfl:=hw.symm;clear hw)|(go_at_call 140;refine (rIs_calls _ _ _ (by decide)).mono ?_;rintro e w' ⟨rfl,hw⟩;obtain rfl:=hw.symm;clear hw;rw [show (ByteArray.mk #[60,62,34,123,125,124,94,96,92]).data.toList=[60,62,34,123,125,124,94,96,92] from rfl,mark_has])));first
    | (go_ret;exact⟨ret_bool (by rw [HL.out,H0.out];simp [hA,hB,hC,hD]),rfl⟩)
    | (go_round
       case rel=>exact⟨k+1,by omega,by go_num,Hd (by rw [HL.out,H0.out];simp [hA,hB,hC,hD])⟩
       case measure=>simp [intOf];omega)
  ·(have H0:=Hd (allB_end wordZ s.data.toList k (by simpa using (by omega:s.size≤k))));go_wp2;go_ret;exact⟨ret_bool (by rw [HL.out,H0.out]),rfl⟩
theorem rAll4_calls (s:ByteArray) (w:World) (_hs:s.size≤maxLen):Calls Tryz.prog 104 #[.string s,.int .i64 4] w fun e w'=>e=.returned (.bool (allB smallZ s.data.toList))∧w'=w:=by
 (unfold maxLen at _hs);(go_enter Tryz.func104,Tryz.ntmps104);go_wp2;go_loop [5] (fun i=>∃k:Nat,k≤s.size∧i=.int .i64 k∧Hid (allB smallZ s.data.toList=allB smallZ (s.data.toList.drop k))) (fun i=>s.size-(intOf i).toNat)
 case atStart=>exact⟨0,Nat.zero_le _,rfl,Hd rfl⟩
 case round =>
  obtain⟨k,hk,rfl,HL⟩:=hrel;by_cases hp:k<s.size
  ·(have h0:=allB_step smallZ s.data.toList k (by simpa using hp));rw [get_list s k hp,smallZ_atoms] at h0;have H0:=Hd h0;clear h0;(rcases (show (betw 97 (s[k].toNat:Int) 122)=true∨(betw 97 (s[k].toNat:Int) 122)=false by cases (betw 97 (s[k].toNat:Int) 122)<;>simp) with hA|hA);all_goals
    (go_wp2_with (first|(go_at_call 105;refine (rBetween_calls _ _ _ _).mono ?_;rintro e w' ⟨rfl,hw⟩;obtain rfl:=hw.symm;clear hw)|(go_at_call 140;refine (rIs_calls _ _ _ (by decide)).mono ?_;rintro e w' ⟨rfl,hw⟩;obtain rfl:=hw.symm;clear hw;rw [show (ByteArray.mk #[60,62,34,123,125,124,94,96,92]).data.toList=[60,62,34,123,125,124,94,96,92] from rfl,mark_has])));first
    | (go_ret;exact⟨ret_bool (by rw [HL.out,H0.out];simp [hA]),rfl⟩)
    | (go_round
       case rel=>exact⟨k+1,by omega,by go_num,Hd (by rw [HL.out,H0.out];simp [hA])⟩
       case measure=>simp [intOf];omega)
  ·(have H0:=Hd (allB_end smallZ s.data.toList k (by simpa using (by omega:s.size≤k))));go_wp2;go_ret;exact⟨ret_bool (by rw [HL.out,H0.out]),rfl⟩
end
def allAt (p:Nat→Int→Bool):Nat→List UInt8→Bool
  | _,[]=>true
  | k,b::r=>p k (b.toNat:Int)&&allAt p (k+1) r
theorem lead_full (p:Nat→Int→Bool):∀(k:Nat) (l:List UInt8),(lead p k l==l.length)=allAt p k l
  | _,[]=>by simp [lead,allAt]
  | k,b::r=>by
    have ih:=lead_full p (k+1) r
    simp only [lead,allAt,List.length_cons]
    cases h:p k (b.toNat:Int) with
    | true=>rw [Bool.true_and,←ih,Bool.eq_iff_iff];simp
    | false=>simp
theorem allB_cons (p:Int→Bool) (b:UInt8) (r:List UInt8):allB p (b::r)=(p (b.toNat:Int)&&allB p r):=rfl
theorem allAt_bound (q:Int→Bool) (n:Nat):∀(k:Nat) (l:List UInt8),l≠[]→allAt (fun k c=>decide (k<n)&&q c) k l=(decide (k+l.length≤n)&&allB q l)
  | _,[],h=>absurd rfl h
  | k,[b],_=>by
    rw [Bool.eq_iff_iff];simp [allAt,allB];omega
  | k,b::c::r,_=>by
    have ih:=allAt_bound q n (k+1) (c::r) (by simp)
    rw [allAt,ih,allB_cons q b (c::r),Bool.eq_iff_iff]
    simp
    constructor
    · rintro⟨⟨_,h1⟩,h2,h3⟩;exact⟨by omega,h1,h3⟩
    · rintro⟨h1,h2,h3⟩;exact⟨⟨by omega,h2⟩,by omega,h3⟩
theorem iriL_eq (l:List UInt8):iriL l=(decide (1≤l.length)&&decide (l.length≤4096)&&allB iriZ l):=by
  cases l with
  | nil=>rfl
  | cons b r =>
    unfold iriL iriLead
    rw [lead_full,allAt_bound iriZ 4096 0 (b::r) (by simp),Nat.zero_add]
    simp
theorem lead_lang (l:List UInt8):langLead l=lead (fun k c=>decide (k<9)&&smallZ c) 0 l:=by
  unfold langLead
  congr 1
  funext k c
  congr 1
  rw [decide_eq_decide];omega
theorem langL_eq (l:List UInt8):langL l=(decide (1≤l.length)&&decide (l.length≤8)&&allB smallZ l):=by
  cases l with
  | nil=>rfl
  | cons b r =>
    unfold langL
    rw [lead_lang,lead_full,allAt_bound smallZ 9 0 (b::r) (by simp),Nat.zero_add,Bool.eq_iff_iff]
    simp
    constructor
    · rintro⟨⟨_,h⟩,g⟩;exact⟨by omega,h⟩
    · rintro⟨g,h⟩;exact⟨⟨by omega,h⟩,by omega⟩
theorem allAt_name:∀(k:Nat) (l:List UInt8),0<k→allAt (fun k c=>decide (k<32)&&nameZ c k) k l=allAt (fun k c=>decide (k<32)&&wordZ c) k l
  | _,[],_=>rfl
  | k,b::r,h=>by
    rw [allAt,allAt,allAt_name (k+1) r (by omega)]
    have e:nameZ (b.toNat:Int) k=wordZ (b.toNat:Int):=by
      have:decide (0<(k:Int))=true:=by simp;exact h
      rw [nameZ,wordZ,this,Bool.eq_iff_iff];simp;exact or_assoc.symm.trans (by constructor<;>(rintro ((h|h)|h)<;>simp [h]))
    rw [e]
theorem nameL_eq (b:UInt8) (r:List UInt8):nameL (b::r)=(decide (r.length+1≤32)&&allB wordZ (b::r)&&letterZ (b.toNat:Int)):=by
 (unfold nameL nameLead);(rw [lead_full,allAt,allAt_name 1 r (by omega)]);(have e:nameZ (b.toNat:Int) ((0:Nat):Int)=letterZ (b.toNat:Int):=by simp [nameZ]);rw [e,allB_cons];(have ew:letterZ (b.toNat:Int)=true→wordZ (b.toNat:Int)=true:=fun h=>by simp [wordZ,h]);cases r with
 | nil=>rw [Bool.eq_iff_iff];simp [allAt,allB];exact ew
 | cons c r =>
   (rw [allAt_bound wordZ 32 1 (c::r) (by simp),Bool.eq_iff_iff]);(simp);constructor
   ·rintro⟨h,g,a⟩;exact⟨⟨by omega,ew h,a⟩,h⟩
   ·rintro⟨⟨g,_,a⟩,h⟩;exact⟨h,by omega,a⟩
theorem litL_eq (l:List UInt8):litL l=(decide (l.length≤4096)&&allB litZ l):=rfl
section
open Go.RowKit
theorem rIsIri_calls (s:ByteArray) (w:World) (_hs:s.size≤maxLen):Calls Tryz.prog 109 #[.string s] w fun e w'=>e=.returned (.bool (iriL s.data.toList))∧w'=w:=by
 (unfold maxLen at _hs);have HE:=Hd (iriL_eq s.data.toList);have hsz:s.size=s.data.toList.length:=Lib.size_eq s;have HSZ:=Hd hsz;clear hsz;(obtain⟨h1,h2⟩|⟨h1,h2⟩|⟨h1,h2⟩:(1≤s.size∧s.size≤4096)∨(1≤s.size∧¬s.size≤4096)∨(¬1≤s.size∧s.size≤4096):=by omega);all_goals
  (go_enter Tryz.func109,Tryz.ntmps109);(go_wp2_with (go_at_call 104;refine (rAll1_calls _ _ _hs).mono ?_;rintro e w' ⟨rfl,hw⟩;obtain rfl:=hw.symm;clear hw));go_ret;exact⟨ret_bool (by rw [HE.out,←HSZ.out];simp [h1,h2]),rfl⟩
theorem rIsLang_calls (s:ByteArray) (w:World) (_hs:s.size≤maxLen):Calls Tryz.prog 110 #[.string s] w fun e w'=>e=.returned (.bool (langL s.data.toList))∧w'=w:=by
 (unfold maxLen at _hs);have HE:=Hd (langL_eq s.data.toList);have hsz:s.size=s.data.toList.length:=Lib.size_eq s;have HSZ:=Hd hsz;clear hsz;(obtain⟨h1,h2⟩|⟨h1,h2⟩|⟨h1,h2⟩:(1≤s.size∧s.size≤8)∨(1≤s.size∧¬s.size≤8)∨(¬1≤s.size∧s.size≤8):=by omega);all_goals
  (go_enter Tryz.func110,Tryz.ntmps110);(go_wp2_with (go_at_call 104;refine (rAll4_calls _ _ _hs).mono ?_;rintro e w' ⟨rfl,hw⟩;obtain rfl:=hw.symm;clear hw));go_ret;exact⟨ret_bool (by rw [HE.out,←HSZ.out];simp [h1,h2]),rfl⟩
theorem nameL_of (s:ByteArray) (h:0<s.size):nameL s.data.toList=(decide (s.size≤32)&&allB wordZ s.data.toList&&letterZ (s[0].toNat:Int)):=by
  have e:=get_list s 0 h
  have e2:=Lib.size_eq s
  generalize s[0]=c at e
  cases hl:s.data.toList with
  | nil => have e3:s.size=0:=by rw [e2,hl];rfl
           omega
  | cons b r =>
    rw [nameL_eq]
    have hc:b=c:=by simpa [hl] using e
    subst hc
    rw [e2,hl,List.length_cons]
theorem letterZ_betw (c:Int):letterZ c=(betw 97 c 122||betw 65 c 90):=rfl
theorem rIsName_calls (s:ByteArray) (w:World) (_hs:s.size≤maxLen):Calls Tryz.prog 56 #[.string s] w fun e w'=>e=.returned (.bool (nameL s.data.toList))∧w'=w:=by
 (unfold maxLen at _hs);by_cases h1:1≤s.size
 ·have HE:=Hd (nameL_of s h1);by_cases h2:s.size≤32
  ·(rcases (show allB wordZ s.data.toList=true∨allB wordZ s.data.toList=false by cases allB wordZ s.data.toList<;>simp) with hA|hA);(all_goals rcases (show betw 97 (s[0].toNat:Int) 122=true∨betw 97 (s[0].toNat:Int) 122=false by cases betw 97 (s[0].toNat:Int) 122<;>simp) with hB|hB);(all_goals rcases (show betw 65 (s[0].toNat:Int) 90=true∨betw 65 (s[0].toNat:Int) 90=false by cases betw 65 (s[0].toNat:Int) 90<;>simp) with hC|hC);all_goals
    (go_enter Tryz.func56,Tryz.ntmps56);(go_wp2_with (first|(go_at_call 104;refine (rAll3_calls _ _ _hs).mono ?_;rintro e w' ⟨rfl,hw⟩;obtain rfl:=hw.symm;clear hw)|(go_at_call 105;refine (rBetween_calls _ _ _ _).mono ?_;rintro e w' ⟨rfl,hw⟩;obtain rfl:=hw.symm;clear hw)));go_ret;exact⟨ret_bool (by rw [HE.out,letterZ_betw];simp [h2,hA,hB,hC]),rfl⟩
  ·(go_enter Tryz.func56,Tryz.ntmps56);(go_wp2_with fail);go_ret;exact⟨ret_bool (by rw [HE.out];simp [h2]),rfl⟩
 ·(have HE:=Hd (show nameL s.data.toList=false by rw [List.eq_nil_of_length_eq_zero (l:=s.data.toList) (by rw [←Lib.size_eq];omega)];rfl));(go_enter Tryz.func56,Tryz.ntmps56);(go_wp2_with fail);go_ret;exact⟨ret_bool (by rw [HE.out]),rfl⟩
theorem lit_eq (s:ByteArray):litL s.data.toList=(decide (s.size≤4096)&&allB litZ s.data.toList):=by
  rw [litL_eq,Lib.size_eq]
theorem rRight_literal (x y z:ByteArray) (w:World) (_hx:x.size≤maxLen) (_hy:y.size≤maxLen) (_hz:z.size≤maxLen):Calls Tryz.prog 72 #[.agg #[.int .i64 2,.string x,.string y,.string z]] w fun e w'=>e=.returned (.bool (rightL 2 x.data.toList y.data.toList z.data.toList))∧Below w.heap.size w w':=by
 have HX:=Hd (lit_eq x);have HY:=Hd (Lib.toList_data y);have HZ:=Hd (Lib.toList_data z);(have HR:=Hd (show rightL 2 x.data.toList y.data.toList z.data.toList=(litL x.data.toList&&tagL y.data.toList z.data.toList) from rfl));(rcases (show y.toList.isEmpty=true∨y.toList.isEmpty=false by cases y.toList.isEmpty<;>simp) with hB|hB);(all_goals rcases (show z.toList.isEmpty=true∨z.toList.isEmpty=false by cases z.toList.isEmpty<;>simp) with hD|hD);(all_goals rcases (show allB litZ x.data.toList=true∨allB litZ x.data.toList=false by cases allB litZ x.data.toList<;>simp) with hA|hA);(all_goals by_cases h4:x.size≤4096);all_goals
  (go_enter Tryz.func72,Tryz.ntmps72);(go_wp2_with (first|(go_at_call 104;refine (rAll2_calls _ _ _hx).mono ?_;rintro e w' ⟨rfl,hw⟩;subst hw)|(go_at_call 109;refine (rIsIri_calls _ _ _hy).mono ?_;rintro e w' ⟨rfl,hw⟩;subst hw)|(go_at_call 110;refine (rIsLang_calls _ _ _hz).mono ?_;rintro e w' ⟨rfl,hw⟩;subst hw)));(all_goals go_ret);all_goals exact⟨ret_bool (by have hB':=hB;have hD':=hD;rw [HY.out] at hB';rw [HZ.out] at hD';rw [HR.out,HX.out];simp [tagL, *]),box_below _ _⟩
theorem rRight_other (k:Int) (x y z:ByteArray) (w:World) (_hx:x.size≤maxLen) (hk:k≠2):Calls Tryz.prog 72 #[.agg #[.int .i64 k,.string x,.string y,.string z]] w fun e w'=>e=.returned (.bool (rightL k x.data.toList y.data.toList z.data.toList))∧Below w.heap.size w w':=by
 have HX:=Hd (Lib.toList_data x);have HY:=Hd (Lib.toList_data y);have HZ:=Hd (Lib.toList_data z);have HK:=Hd hk;have g2:(k==2)=false:=beq_eq_false_iff_ne.2 hk;clear hk;(rcases (show y.toList.isEmpty=true∨y.toList.isEmpty=false by cases y.toList.isEmpty<;>simp) with hB|hB);(all_goals rcases (show z.toList.isEmpty=true∨z.toList.isEmpty=false by cases z.toList.isEmpty<;>simp) with hD|hD);all_goals
  have hB':=hB;have hD':=hD;rw [HY.out] at hB';rw [HZ.out] at hD'
 ·by_cases c0:k=0
  ·subst c0;(go_enter Tryz.func72,Tryz.ntmps72);go_wp2;go_ret;exact⟨ret_bool (by rw [HX.out];simp [rightL,bareL,hB',hD']),box_below _ _⟩
  by_cases c1:k=1
  ·subst c1;(go_enter Tryz.func72,Tryz.ntmps72);(go_wp2_with (go_at_call 109;refine (rIsIri_calls _ _ _hx).mono ?_;rintro e w' ⟨rfl,hw⟩;subst hw));go_ret;exact⟨ret_bool (by simp [rightL,bareL,hB',hD']),box_below _ _⟩
  by_cases c3:k=3
  ·subst c3;(go_enter Tryz.func72,Tryz.ntmps72);(go_wp2_with (go_at_call 56;refine (rIsName_calls _ _ _hx).mono ?_;rintro e w' ⟨rfl,hw⟩;subst hw));go_ret;exact⟨ret_bool (by simp [rightL,bareL,hB',hD']),box_below _ _⟩
  by_cases c4:k=4
  ·subst c4;(go_enter Tryz.func72,Tryz.ntmps72);(go_wp2_with (go_at_call 56;refine (rIsName_calls _ _ _hx).mono ?_;rintro e w' ⟨rfl,hw⟩;subst hw));go_ret;exact⟨ret_bool (by simp [rightL,bareL,hB',hD']),box_below _ _⟩
  ·have g0:(k==0)=false:=beq_eq_false_iff_ne.2 c0;have g1:(k==1)=false:=beq_eq_false_iff_ne.2 c1;have g3:(k==3)=false:=beq_eq_false_iff_ne.2 c3;have g4:(k==4)=false:=beq_eq_false_iff_ne.2 c4;(have HR:=Hd (show rightL k x.data.toList y.data.toList z.data.toList=false by have:=HK.out;simp [rightL,c0,c1,c3,c4,this]));clear c0 c1 c3 c4;(go_enter Tryz.func72,Tryz.ntmps72);go_wp2;go_ret;exact⟨ret_bool (by rw [HR.out]),box_below _ _⟩
 all_goals
  have HR:=Hd (show rightL k x.data.toList y.data.toList z.data.toList=false by
   have:=HK.out;(unfold rightL bareL);rw [hB',hD'];(repeat' split);all_goals simp_all)
  (go_enter Tryz.func72,Tryz.ntmps72);go_wp2;go_ret;exact⟨ret_bool (by rw [HR.out]),box_below _ _⟩
theorem rRight_calls (k:Int) (x y z:ByteArray) (w:World) (hx:x.size≤maxLen) (hy:y.size≤maxLen) (hz:z.size≤maxLen):Calls Tryz.prog 72 #[.agg #[.int .i64 k,.string x,.string y,.string z]] w fun e w'=>e=.returned (.bool (rightL k x.data.toList y.data.toList z.data.toList))∧Below w.heap.size w w':=by
  by_cases h:k=2
  · subst h;exact rRight_literal x y z w hx hy hz
  · exact rRight_other k x y z w hx h
end
end Go.Proofs.YtjpfoophipcglaaGreatDoor
