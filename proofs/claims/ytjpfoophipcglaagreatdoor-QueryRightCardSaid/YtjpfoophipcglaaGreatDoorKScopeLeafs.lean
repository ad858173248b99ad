/- What is known of operations' results, in plain words. -/
import Derived.Test.YtjpfoophipcglaaGreatDoorKRefNameds
import Derived.Test.YtjpfoophipcglaaGreatDoorKScopeSets
import Derived.Test.YtjpfoophipcglaaGreatDoorKScopeOks
import Derived.Laws.AppendOwnNone
namespace Go.Proofs.YtjpfoophipcglaaGreatDoor
set_option maxRecDepth 100000
set_option maxHeartbeats 8000000
structure ResL where
  f:Nat
  v:Bool
  sc:List (List UInt8)
  ct:List (List UInt8)
def noR:ResL:=⟨0,false,[],[]⟩
def scB (o:OpL) (cert:Bool) (a b:List (List UInt8)):List (List UInt8) :=
  if ndO o=0 then leafO o cert
  else if ndO o=1 then (if (cert&&o.s)=true then [] else if o.k=8∧cert=false then moreO a o.m else a)
  else if o.k=6∨(o.k=5∧cert=true) then a
  else if o.k=4∧cert=true then meetO a b else unionO a b
def madeR (o:OpL) (i:Nat) (N:List ResL):ResL :=
  ⟨N.foldl (fun m x=>min m x.f) i,N.foldl (fun b x=>b||x.v) (o.k==9),scB o false (N.getD 0 noR).sc (N.getD 1 noR).sc,scB o true (N.getD 0 noR).ct (N.getD 1 noR).ct⟩
theorem nd_of {o:OpL}:(o.k=1→ndO o=0)∧(o.k=2→ndO o=0)∧(o.k=7→ndO o=1)∧(o.k=8→ndO o=1)∧(o.k=9→ndO o=1)∧(o.k=3→ndO o=2)∧(o.k=4→ndO o=2)∧(o.k=5→ndO o=2)∧(o.k=6→ndO o=2):=by
  unfold ndO
  refine⟨?_,?_,?_,?_,?_,?_,?_,?_,?_⟩<;>(intro h;rw [h];rfl)
theorem right_1 {o:OpL} (h:rightO o=true) (hk:o.k=1):o.T.length≤32∧o.V=[]:=by
  unfold rightO at h
  rw [if_pos hk] at h
  simp only [Bool.and_eq_true] at h
  obtain⟨⟨⟨⟨⟨h1,h2⟩,_⟩,_⟩,_⟩,_⟩:=h
  unfold patsB at h1
  rw [Bool.and_eq_true] at h1
  exact⟨of_decide_eq_true h1.2,List.isEmpty_iff.1 h2⟩
theorem right_2 {o:OpL} (h:rightO o=true) (hk:o.k=2):o.T=[]∧o.V.length≤32∧∀r∈o.R,r.length=o.V.length:=by
  unfold rightO at h
  rw [if_neg (by omega),if_pos hk] at h
  simp only [Bool.and_eq_true] at h
  obtain⟨⟨⟨⟨h1,h2⟩,_⟩,_⟩,_⟩:=h
  unfold tableB rowsB at h2
  simp only [Bool.and_eq_true] at h2
  obtain⟨⟨⟨h3,_⟩,_⟩,h4⟩:=h2
  refine⟨List.isEmpty_iff.1 h1,of_decide_eq_true h3,fun r hr=>?_⟩
  have:=List.all_eq_true.1 h4 r hr
  rw [Bool.and_eq_true] at this
  exact of_decide_eq_true this.1
theorem right_78 {o:OpL} (h:rightO o=true) (hk:o.k=7∨o.k=8):o.s=false:=by
  unfold rightO at h
  rcases hk with hk|hk
  · rw [if_neg (by omega),if_neg (by omega),if_neg (by omega),if_neg (by omega),if_pos hk] at h
    simp only [Bool.and_eq_true] at h
    simpa using h.2
  · rw [if_neg (by omega),if_neg (by omega),if_neg (by omega),if_neg (by omega),if_neg (by omega),if_pos hk] at h
    simp only [Bool.and_eq_true] at h
    simpa using h.2
theorem right_kind {o:OpL} (h:rightO o=true):o.k=1∨o.k=2∨o.k=3∨o.k=4∨o.k=5∨o.k=6∨o.k=7∨o.k=8∨o.k=9:=by
  by_cases c:o.k<1∨9<o.k
  · exfalso
    unfold rightO at h
    rw [if_neg (by omega),if_neg (by omega),if_neg (by omega),if_neg (by omega),if_neg (by omega),if_neg (by omega),if_neg (by omega)] at h
    cases h
  · omega
theorem leafO_1 {o:OpL} (h:rightO o=true) (hk:o.k=1) (c:Bool):leafO o c=tpart o.T:=by
  unfold leafO
  rw [(right_1 h hk).2];rfl
theorem leafO_2 {o:OpL} (h:rightO o=true) (hk:o.k=2) (c:Bool):leafO o c=vpart o.R o.V c [] o.V.length:=by
  unfold leafO
  rw [(right_2 h hk).1];rfl
theorem scB_1 {o:OpL} (h:rightO o=true) (hk:o.k=1) (c:Bool) (a b:List (List UInt8)):scB o c a b=tpart o.T:=by unfold scB;rw [if_pos (nd_of.1 hk)];exact leafO_1 h hk c
theorem scB_2 {o:OpL} (h:rightO o=true) (hk:o.k=2) (c:Bool) (a b:List (List UInt8)):scB o c a b=vpart o.R o.V c [] o.V.length:=by unfold scB;rw [if_pos (nd_of.2.1 hk)];exact leafO_2 h hk c
theorem scB_3 {o:OpL} (hk:o.k=3) (c:Bool) (a b:List (List UInt8)):scB o c a b=unionO a b:=by
  unfold scB;rw [if_neg (by rw [nd_of.2.2.2.2.2.1 hk];decide),if_neg (by rw [nd_of.2.2.2.2.2.1 hk];decide),if_neg (by omega),if_neg (by omega)]
theorem scB_4f {o:OpL} (hk:o.k=4) (a b:List (List UInt8)):scB o false a b=unionO a b:=by
  unfold scB;rw [if_neg (by rw [nd_of.2.2.2.2.2.2.1 hk];decide),if_neg (by rw [nd_of.2.2.2.2.2.2.1 hk];decide),if_neg (by omega),if_neg (fun c=>by cases c.2)]
theorem scB_4t {o:OpL} (hk:o.k=4) (a b:List (List UInt8)):scB o true a b=meetO a b:=by
  unfold scB;rw [if_neg (by rw [nd_of.2.2.2.2.2.2.1 hk];decide),if_neg (by rw [nd_of.2.2.2.2.2.2.1 hk];decide),if_neg (by omega),if_pos ⟨hk,rfl⟩]
theorem scB_5f {o:OpL} (hk:o.k=5) (a b:List (List UInt8)):scB o false a b=unionO a b:=by
  unfold scB;rw [if_neg (by rw [nd_of.2.2.2.2.2.2.2.1 hk];decide),if_neg (by rw [nd_of.2.2.2.2.2.2.2.1 hk];decide),if_neg (fun c=>c.elim (fun d=>by omega) (fun d=>by cases d.2)),if_neg (by omega)]
theorem scB_5t {o:OpL} (hk:o.k=5) (a b:List (List UInt8)):scB o true a b=a:=by
  unfold scB;rw [if_neg (by rw [nd_of.2.2.2.2.2.2.2.1 hk];decide),if_neg (by rw [nd_of.2.2.2.2.2.2.2.1 hk];decide),if_pos (.inr ⟨hk,rfl⟩)]
theorem scB_6 {o:OpL} (hk:o.k=6) (c:Bool) (a b:List (List UInt8)):scB o c a b=a:=by
  unfold scB;rw [if_neg (by rw [nd_of.2.2.2.2.2.2.2.2 hk];decide),if_neg (by rw [nd_of.2.2.2.2.2.2.2.2 hk];decide),if_pos (.inl hk)]
theorem scB_7 {o:OpL} (h:rightO o=true) (hk:o.k=7) (c:Bool) (a b:List (List UInt8)):scB o c a b=a:=by
  unfold scB;rw [if_neg (by rw [nd_of.2.2.1 hk];decide),if_pos (nd_of.2.2.1 hk),right_78 h (.inl hk),if_neg (by simp),if_neg (by omega)]
theorem scB_8f {o:OpL} (hk:o.k=8) (a b:List (List UInt8)):scB o false a b=moreO a o.m:=by
  unfold scB;rw [if_neg (by rw [nd_of.2.2.2.1 hk];decide),if_pos (nd_of.2.2.2.1 hk),if_neg (by simp),if_pos ⟨hk,rfl⟩]
theorem scB_8t {o:OpL} (h:rightO o=true) (hk:o.k=8) (a b:List (List UInt8)):scB o true a b=a:=by
  unfold scB;rw [if_neg (by rw [nd_of.2.2.2.1 hk];decide),if_pos (nd_of.2.2.2.1 hk),right_78 h (.inr hk),if_neg (by simp),if_neg (fun c=>by cases c.2)]
theorem scB_9f {o:OpL} (hk:o.k=9) (a b:List (List UInt8)):scB o false a b=a:=by
  unfold scB;rw [if_neg (by rw [nd_of.2.2.2.2.1 hk];decide),if_pos (nd_of.2.2.2.2.1 hk),if_neg (by simp),if_neg (by omega)]
theorem scB_9t {o:OpL} (hk:o.k=9) (a b:List (List UInt8)):scB o true a b=bif o.s then [] else a:=by
  unfold scB;rw [if_neg (by rw [nd_of.2.2.2.2.1 hk];decide),if_pos (nd_of.2.2.2.2.1 hk)]
  cases o.s with
  | true=>rfl
  | false=>rw [if_neg (by simp),if_neg (by omega)];rfl
theorem scB_length {o:OpL} (h:rightO o=true) (c:Bool) (a b:List (List UInt8)):(scB o c a b).length≤a.length+b.length+128:=by
 (unfold scB);split
 ·have hk:=right_kind h;have h32:o.T.length≤32∧o.V.length≤32:=by
   rcases hk with hk|hk|hk|hk|hk|hk|hk|hk|hk
   ·have:=right_1 h hk;rw [this.2];exact⟨this.1,Nat.zero_le _⟩
   ·have:=right_2 h hk;rw [this.1];exact⟨Nat.zero_le _,this.2.1⟩
   ·rename_i hn;rw [nd_of.2.2.2.2.2.1 hk] at hn;cases hn
   ·rename_i hn;rw [nd_of.2.2.2.2.2.2.1 hk] at hn;cases hn
   ·rename_i hn;rw [nd_of.2.2.2.2.2.2.2.1 hk] at hn;cases hn
   ·rename_i hn;rw [nd_of.2.2.2.2.2.2.2.2 hk] at hn;cases hn
   ·rename_i hn;rw [nd_of.2.2.1 hk] at hn;cases hn
   ·rename_i hn;rw [nd_of.2.2.2.1 hk] at hn;cases hn
   ·rename_i hn;rw [nd_of.2.2.2.2.1 hk] at hn;cases hn
  have:=leafO_length o c h32.1 h32.2;omega
 ·split
  ·split
   ·simp
   ·split
    ·have:=moreO_length a o.m;omega
    ·omega
  ·split
   ·omega
   ·split
    ·have:=meetO_le a b;omega
    ·have:=unionO_length a b;omega
section
open Go.RowKit Go.Maps Go.Shelf
theorem mem_moreL {L:List (List UInt8)} {t:TermL} {x:List UInt8} (h:x∈moreL L t):x∈L∨x=t.x:=by
  unfold moreL at h
  split at h
  · rcases List.mem_append.1 h with h|h
    · exact .inl h
    · exact .inr (by simpa using h)
  · exact .inl h
theorem varsL_small {t:TripL} (ht:t.ok) {x:List UInt8} (h:x∈varsL t):(bs x).size≤maxLen:=by
  unfold varsL at h
  rcases mem_moreL h with h|rfl
  · rcases mem_moreL h with h|rfl
    · rcases mem_moreL h with h|rfl
      · cases h
      · exact ht.1.1
    · exact ht.2.1.1
  · exact ht.2.2.1
def allV (T:List TripL):List (List UInt8):=T.flatMap varsL
theorem allV_next {T:List TripL} {k:Nat} (hk:k<T.length):allV (T.take (k+1))=allV (T.take k)++varsL T[k]:=by
  unfold allV
  rw [List.take_succ_eq_append_getElem hk,List.flatMap_append];simp
theorem allV_length (T:List TripL):(allV T).length≤3*T.length:=by
  induction T with
  | nil=>exact Nat.le_refl _
  | cons t r ih =>
    have:=varsL_length t
    unfold allV at *
    rw [List.flatMap_cons,List.length_append,List.length_cons];omega
theorem allV_small {T:List TripL} (h:∀t∈T,t.ok):∀x∈allV T,(bs x).size≤maxLen:=fun x hx=>by
  obtain⟨t,ht,hx⟩:=List.mem_flatMap.1 hx
  exact varsL_small (h t ht) hx
theorem textCells_one (l:List (List UInt8)):∀u∈textCells l,u.oneCell'=true:=by
  intro u hu
  unfold textCells at hu
  obtain⟨x,_,rfl⟩:=List.mem_map.1 hu
  rfl
theorem rise_tpart (T:List TripL):Rise (tpart T):=rise_fold rise_nil
theorem allV_tpart (T:List TripL):allOf (allV T)=tpart T:=rise_one (rise_allOf _) (rise_tpart T) (fun x=>by
  rw [mem_allOf]
  unfold tpart allV
  rw [mem_allL,List.mem_flatMap];simp)
theorem two_ret1 (tm:Array Value) (W:World) (A:Nat) (p q:Option Nat) (Q:Ending→World→Prop) (h:tm.getD 2 undef=.pointer (some ⟨A,0,none⟩)) (hA:Blk W A 87 #[.map p,.map q]) (hQ:Q (.returned (.agg #[.map p,.map q])) W):bodyPost Tryz.prog Tryz.f177 Q Exit.ret { tmps:=tm,defers:=[] } W:=by
  have q0:=bq hA 0
  have q1:=bq hA 1
  have e2:tm[2]?.getD undef=.pointer (some ⟨A,0,none⟩):=by rw [←Array.getD_eq_getD_getElem?];exact h
  refine bodyPost_ret (v:=.agg #[.map p,.map q]) (by simp [results,Tryz.results177,e2,q0,q1,go_sem]) rfl hQ
theorem ofPatterns_calls (T:List TripL) (hok:∀t∈T,t.ok) (hl:T.length≤32) (a:Option Addr) (n c:Nat) (w:World) (hv:TrpA w a n c T):Calls Tryz.prog 177 #[.slice a n c] w (TwoT w (tpart T) (tpart T)):=by
 obtain⟨i0,hi,hz0,hz1,hz2⟩:=info_parts info_string;have HV:=Hd hv;have HOK:=Hd hok;have HL:=Hd hv.len;(have hn:n≤32:=by rw [←hv.len];exact hl);have hcp:=hv.cap;have hms:=hv.most;(unfold maxLen at hms);clear hv hok hl;(have HNEW:=Hd (fun T'=>blk_new w T' #[Value.map none,Value.map none]));(go_enter Tryz.func177,Tryz.ntmps177);(go_wp2_with fail);(refine kName (fun W0 hW0=>?_));(have hb0:Below w.heap.size w W0:=by rw [hW0];exact box_below _ _);(have hz:W0.heap.size=w.heap.size+1:=by rw [hW0];simp);(have HX0:Hid (Blk W0 w.heap.size 87 #[Value.map none,Value.map none]):=by rw [hW0];exact Hd (HNEW.out _));have HB0:=Hd hb0;have HZ:=Hd hz;clear hW0 hb0 hz HNEW;go_loopg [3,9] n (fun g v i wr=>∃k:Nat,i=.int .i64 k∧k+g=n∧Hid (wr.ownsRow (w.heap.size+1) 9 1 v (allV (T.take k)).length (textCells (allV (T.take k))))∧Hid (Below W0.heap.size W0 wr))
 case atStart=>exact⟨0,rfl,by omega,Hd (World.ownsRow_nil _ _ _ _),Hd (Below.refl _ _)⟩
 case round =>
  obtain⟨W1,rfl⟩:∃W1,W1=wr:=⟨_,rfl⟩;obtain⟨k,rfl,hkg,HR,HB⟩:=hrel;by_cases hk:k<n
  ·(obtain⟨gg,rfl⟩:∃gg,gk=gg+1:=⟨gk-1,by omega⟩);(have hkL:k<T.length:=by rw [HL.out];exact hk);(obtain⟨g,o,ha,hgw,hcells⟩:=HV.out.cells (by omega));subst ha;have hbW:=HB0.out.trans (HB.out.mono HB0.out.size);have hgW:g<W1.heap.size:=Nat.lt_of_lt_of_le hgw hbW.size;obtain⟨hs,hp,ho⟩:=hcells k hkL;obtain⟨e0,e1,e2,e3⟩:=hs.on hbW hgw;obtain⟨e4,e5,e6,e7⟩:=hp.on hbW hgw;obtain⟨e8,e9,e10,e11⟩:=ho.on hbW hgw;have HNX:=Hd (allV_next hkL);have HV3:=Hd (varsL_length T[k]);have HAL:=Hd (allV_length (T.take k));(have HTL:=Hd (show (T.take k).length≤k from by rw [List.length_take];omega));clear hs hp ho hcells hbW;generalize T[k]=t at e0 e1 e2 e3 e4 e5 e6 e7 e8 e9 e10 e11 HNX HV3;(have HVR:=Hd (fun W=>Vars_calls t W));obtain⟨M,hM⟩:∃M,varsL t=M:=⟨_,rfl⟩;(have HVT:=Hd (show ∀W e w',VarsT W t e w'→∃v,e=.returned v∧w'.ownsRow W.heap.size 9 1 v M.length (textCells M)∧Below W.heap.size W w' from fun W e w' h=>by rw [←hM];exact h));rw [hM] at HNX HV3;clear hM;obtain⟨O,hO⟩:∃O,allV (T.take k)=O:=⟨_,rfl⟩;rw [hO] at HR HNX HAL;clear hO;obtain⟨⟨k1,x1,y1,z1⟩,⟨k2,x2,y2,z2⟩,⟨k3,x3,y3,z3⟩⟩:=t;(simp only [TripL.v] at HVR);dsimp only at e0 e1 e2 e3 e4 e5 e6 e7 e8 e9 e10 e11;(have hk0:(0:Int)≤(k:Int):=by omega);(have hkn:(k:Int)<(n:Int):=by omega);(have hO3:O.length≤96:=by have h1:=HAL.out;have h2:=HTL.out;omega);have hM3:=HV3.out;(have hB1:w.heap.size+1≤W1.heap.size:=by have:=HB.out.size;have:=HZ.out;omega);(go_wp2_with fail);refine (HVR.out _).mono ?_;intro e w2 hT2;obtain⟨v2,rfl,hown2,hb2⟩:=HVT.out _ _ _ hT2;have HR2:=Hd (rowOn (HR.out.alloc _) hb2);(have HB2:=Hd ((HB.out.alloc (by have:=HB.out.size;omega) _).trans (hb2.mono (by have:=HB.out.size;simp;omega))));(have hzw2:w.heap.size+1≤w2.heap.size:=by have:=hb2.size;simp at this;omega);clear hT2 hb2 e0 e1 e2 e3 e4 e5 e6 e7 e8 e9 e10 e11;rcases hown2.2 with ⟨rfl,hm0⟩|⟨g2,cap2,cur2,rfl,hg2,hh2,hn2,hm2,hs2,ht2⟩
   ·have hMe:M=[]:=List.eq_nil_of_length_eq_zero hm0;have HME:=Hd hMe;clear hown2 hMe hm0;(go_wp2_with (at_builtin;go_must (refine wpList_append_own_none rfl _ _ 22 rfl (w.heap.size+1) 9 i0 1 Tryz.underlying22 hi _ _ _ rfl HR2.out rfl ?_)));go_roundg gg
    case measure=>omega
    case rel=>exact⟨k+1,by go_num,by omega,by rw [HNX.out,HME.out,List.append_nil];exact HR2,HB2⟩
   ·(have HC2:=Hd (fun j u h=>hown2.cells (g:=g2) rfl j u h));clear hown2 hh2 hs2 ht2;(go_wp2_with (at_builtin;go_must (refine wpList_append_own _ rfl _ _ 22 rfl (w.heap.size+1) 9 i0 (.string ⟨#[]⟩) 1 16 Tryz.underlying22 hi hz0 hz1 hz2 rfl (by decide) _ _ _ rfl HR2.out ⟨g2,0,none⟩ M.length cap2 (textCells M) rfl (by rw [textCells_length];omega) HC2.out (textCells_one M) (by unfold maxLen;omega) (by omega) (by omega) ?_;intro v3 w3 hown3 hgrow3 hnil3;have HO3:=Hd hown3;have HG3:=Hd hgrow3;clear hown3 hgrow3 hnil3)));go_roundg gg
    case measure=>omega
    case rel=>exact⟨k+1,by go_num,by omega,by rw [HNX.out,textCells_append,List.length_append];exact HO3,Hd (HB2.out.grown HG3.out (by have:=HZ.out;omega) (fun j hj=>by have:=(HR2.out.lt j hj).1;have:=HZ.out;omega))⟩
  ·(have hTk:T.take k=T:=List.take_of_length_le (by rw [HL.out];omega));rw [hTk] at HR;obtain⟨a1,c1,rfl,htx⟩:=txtA_own HR.out;have HC:=Hd (setOf_calls (allV T) (allV_small HOK.out) a1 _ c1 W1 htx);rw [allV_tpart] at HC;(have hX:=blk_on HX0.out HB.out (by have:=HZ.out;omega));have HX:=Hd hX;have HBW:=Hd (HB0.out.trans (HB.out.mono HB0.out.size));(have hXW:w.heap.size<W1.heap.size:=by have:=HB.out.size;have:=HZ.out;omega);generalize (allV T).length=q at HC;(have k1:¬(k:Int)<(n:Int):=by omega);clear hTk htx HR;(go_wp2_with fail);refine HC.out.mono ?_;rintro e w2 ⟨p,rfl,hS,hb2⟩;have HS:=Hd hS;have HX2:=Hd (blk_on hX hb2 hXW);have HB2:=Hd (HBW.out.trans (hb2.mono HBW.out.size));clear hS hb2 hX;(go_wp2_with (refine kWhole 87 (.tmp 2) (.tmp 22) ⟨rfl,rfl⟩ w.heap.size #[.map p,.map p] (by kernel_rfl) (by kernel_rfl) 87 #[.map none,.map none] HX2.out (by kernel_rfl) rfl (by kernel_rfl) ?_;intro w3 hA3 hG3));have hm:=kMaps hG3.out HX2.out;refine two_ret1 _ _ w.heap.size p p _ (by first|rfl|simp) hA3.out ⟨p,p,rfl,HS.out.on hm,HS.out.on hm,HB2.out.grown hG3.out HB2.out.size (fun j hj=>by cases hj;exact Nat.le_refl _)⟩
end
section
open Go.RowKit Go.Maps Go.Shelf
theorem mem_vpart {R:List (List TermL)} {V:List (List UInt8)} {cert:Bool} {acc:List (List UInt8)} {x:List UInt8}:∀{k:Nat},x∈vpart R V cert acc k↔x∈acc∨∃j,j<k∧V.getD j []=x∧(!cert||!R.any (lackZ j))=true
  | 0=>by simp [vpart]
  | k+1=>by
    rw [vpart]
    split
    · rename_i h
      rw [mem_moreO,mem_vpart (k:=k)]
      constructor
      · rintro (h1|h1|⟨j,h1,h2⟩)
        · exact .inr ⟨k,Nat.lt_succ_self k,h1.symm,h⟩
        · exact .inl h1
        · exact .inr ⟨j,Nat.lt_succ_of_lt h1,h2⟩
      · rintro (h1|⟨j,h1,h2,h3⟩)
        · exact .inr (.inl h1)
        · by_cases hj:j=k
          · subst hj;exact .inl h2.symm
          · exact .inr (.inr ⟨j,by omega,h2,h3⟩)
    · rename_i h
      rw [mem_vpart (k:=k)]
      constructor
      · rintro (h1|⟨j,h1,h2⟩)
        · exact .inl h1
        · exact .inr ⟨j,Nat.lt_succ_of_lt h1,h2⟩
      · rintro (h1|⟨j,h1,h2,h3⟩)
        · exact .inl h1
        · by_cases hj:j=k
          · subst hj;exact absurd h3 h
          · exact .inr ⟨j,by omega,h2,h3⟩
theorem rise_vpart {R:List (List TermL)} {V:List (List UInt8)} {cert:Bool} {acc:List (List UInt8)} (h:Rise acc):∀k,Rise (vpart R V cert acc k)
  | 0=>h
  | k+1=>by
    rw [vpart]
    split
    · exact rise_moreO (rise_vpart h k) _
    · exact rise_vpart h k
def boundL (R:List (List TermL)) (V:List (List UInt8)):Nat→List (List UInt8)
  | 0=>[]
  | k+1=>bif R.any (lackZ k) then boundL R V k else boundL R V k++[V.getD k []]
theorem boundL_length (R:List (List TermL)) (V:List (List UInt8)):∀k,(boundL R V k).length≤k
  | 0=>Nat.le_refl _
  | k+1=>by
    have:=boundL_length R V k
    rw [boundL]
    cases R.any (lackZ k) with
    | true=>simp;omega
    | false=>simp;omega
theorem mem_boundL {R:List (List TermL)} {V:List (List UInt8)} {x:List UInt8}:∀{k:Nat},x∈boundL R V k↔∃j,j<k∧V.getD j []=x∧R.any (lackZ j)=false
  | 0=>by simp [boundL]
  | k+1=>by
    rw [boundL]
    cases hc:R.any (lackZ k) with
    | true =>
      simp only [cond_true]
      rw [mem_boundL (k:=k)]
      constructor
      · rintro⟨j,h1,h2⟩;exact⟨j,Nat.lt_succ_of_lt h1,h2⟩
      · rintro⟨j,h1,h2,h3⟩
        by_cases hj:j=k
        · subst hj;rw [hc] at h3;cases h3
        · exact⟨j,by omega,h2,h3⟩
    | false =>
      simp only [cond_false]
      rw [List.mem_append,mem_boundL (k:=k),List.mem_singleton]
      constructor
      · rintro (⟨j,h1,h2⟩|rfl)
        · exact⟨j,Nat.lt_succ_of_lt h1,h2⟩
        · exact⟨k,Nat.lt_succ_self k,rfl,hc⟩
      · rintro⟨j,h1,h2,h3⟩
        by_cases hj:j=k
        · subst hj;exact .inr h2.symm
        · exact .inl ⟨j,by omega,h2,h3⟩
theorem getD_at {V:List (List UInt8)} {j:Nat} (h:j<V.length):V.getD j []=V[j]:=by rw [List.getD_eq_getElem?_getD,List.getElem?_eq_getElem h];rfl
theorem boundL_small {R:List (List TermL)} {V:List (List UInt8)} (h:∀x∈V,(bs x).size≤maxLen):∀x∈boundL R V V.length,(bs x).size≤maxLen:=fun x hx=>by
  obtain⟨j,h1,h2,_⟩:=mem_boundL.1 hx
  rw [getD_at h1] at h2
  rw [←h2];exact h _ (List.getElem_mem h1)
theorem table_all (R:List (List TermL)) (V:List (List UInt8)):allOf V=vpart R V false [] V.length:=rise_one (rise_allOf _) (rise_vpart rise_nil _) (fun x=>by
  rw [mem_allOf,mem_vpart]
  constructor
  · intro h
    obtain⟨j,hj,he⟩:=List.getElem_of_mem h
    exact .inr ⟨j,hj,by rw [getD_at hj];exact he,rfl⟩
  · rintro (h|⟨j,hj,he,_⟩)
    · cases h
    · rw [getD_at hj] at he;rw [←he];exact List.getElem_mem hj)
theorem table_sure (R:List (List TermL)) (V:List (List UInt8)):allOf (boundL R V V.length)=vpart R V true [] V.length:=rise_one (rise_allOf _) (rise_vpart rise_nil _) (fun x=>by
  rw [mem_allOf,mem_vpart,mem_boundL];simp)
theorem lacks_calls (r:List TermL) (k:Nat) (hk:k<r.length) (X:Nat) (a:Option Addr) (c:Nat) (w:World) (hX:w.cell? ⟨X,0,none⟩=some (.int .i64 (k:Int))) (h:TrmA w a r.length c r):Calls Tryz.prog 232 #[.slice a r.length c,.pointer (some ⟨X,0,none⟩)] w fun e w'=>e=.returned (.bool (lackZ k r))∧Below w.heap.size w w':=by
 (obtain⟨g,o,ha,hgw,hcells⟩:=h.cells (by omega));subst ha;have hcp:=h.cap;have hms:=h.most;(unfold maxLen at hms);obtain⟨c0,c1,c2,c3⟩:=hcells k hk;(have HZ:=Hd (show lackZ k r=(r[k].k==0) by unfold lackZ kindAt;rw [dif_pos hk]));clear hcells h c1 c2 c3;generalize r[k].k=y at c0 HZ;generalize r.length=q at hk hcp;(have k0:(0:Int)≤(k:Int):=by omega);(have k1:(k:Int)<(q:Int):=by omega);(go_enter Tryz.func232,Tryz.ntmps232);go_wp2;go_ret;exact⟨by rw [HZ.out];rfl,Below.refl _ _⟩
theorem two_ret2 (tm:Array Value) (W:World) (A:Nat) (p q:Option Nat) (Q:Ending→World→Prop) (h:tm.getD 2 undef=.pointer (some ⟨A,0,none⟩)) (hA:Blk W A 87 #[.map p,.map q]) (hQ:Q (.returned (.agg #[.map p,.map q])) W):bodyPost Tryz.prog Tryz.f178 Q Exit.ret { tmps:=tm,defers:=[] } W:=by
  have q0:=bq hA 0
  have q1:=bq hA 1
  have e2:tm[2]?.getD undef=.pointer (some ⟨A,0,none⟩):=by rw [←Array.getD_eq_getD_getElem?];exact h
  refine bodyPost_ret (v:=.agg #[.map p,.map q]) (by simp [results,Tryz.results178,e2,q0,q1,go_sem]) rfl hQ
theorem ofTable_calls (V:List (List UInt8)) (R:List (List TermL)) (hx:∀x∈V,(bs x).size≤maxLen) (hr:∀r∈R,r.length=V.length) (hl:V.length≤32) (va ra:Option Addr) (n vc m rc:Nat) (w:World) (hV:TxtA w va n vc V) (hR:RowA w ra m rc R):Calls Tryz.prog 178 #[.agg #[.slice va n vc,.slice ra m rc]] w (TwoT w (vpart R V false [] V.length) (vpart R V true [] V.length)):=by
 (have eg:∀args w,(callFunc 232 args).run Tryz.prog w=.ok (.enter 232 args) w:=enters_of Tryz.func232 (by kernel_rfl) rfl);obtain⟨i0,hi,hz0,hz1,hz2⟩:=info_parts info_string;have HV:=Hd hV;have HR:=Hd hR;have HX:=Hd hx;have HRR:=Hd hr;have HVL:=Hd hV.len;(have hn32:n≤32:=by rw [←hV.len];exact hl);have hvc:=hV.cap;have hvm:=hV.most;have hrc:=hR.cap;have hrm:=hR.most;(unfold maxLen at hvm hrm);have HEG:=Hd eg;(have HT0:=Hd (fun T=>TabIn.new w (.slice va n vc) (.slice ra m rc) T));(have HNEW:=Hd (fun W T'=>blk_new W T' #[Value.map none,Value.map none]));clear hV hR hx hr hl eg;(go_enter Tryz.func178,Tryz.ntmps178);(go_wp2_with fail);(refine kName (fun W0 hW0=>?_));(have HZ:=Hd (show W0.heap.size=w.heap.size+2 by rw [hW0];simp));(have HX0:Hid (Blk W0 (w.heap.size+1) 87 #[Value.map none,Value.map none]):=by rw [hW0];exact Hd (by simpa using HNEW.out (w.alloc _) 87));(have HTB:Hid (TabIn w (.slice va n vc) (.slice ra m rc) W0):=by rw [hW0];exact Hd ((HT0.out _).on (box_below _ _)));clear hW0 HNEW HT0;obtain⟨t0,t1,hbW,hXW⟩:=HTB.out;have HB0:=Hd hbW;clear hbW;(go_wp2_with fail);clear t0 t1 hXW;go_loopg [3,10] n (fun g v i wr=>∃k:Nat,i=.int .i64 k∧k+g=n∧Hid (wr.ownsRow (w.heap.size+2) 9 1 v (boundL R V k).length (textCells (boundL R V k)))∧Hid (Below W0.heap.size W0 wr))
 case atStart=>exact⟨0,rfl,by omega,Hd (World.ownsRow_nil _ _ _ _),Hd (Below.refl _ _)⟩
 case round =>
  obtain⟨W1,rfl⟩:∃W1,W1=wr:=⟨_,rfl⟩;obtain⟨k,rfl,hkg,HO,HB⟩:=hrel;have HTW:=Hd (HTB.out.on HB.out);obtain⟨t0,t1,hbW,hXW⟩:=HTW.out;have HBW:=Hd hbW;clear hbW;by_cases hk:k<n
  ·(obtain⟨gg,rfl⟩:∃gg,gk=gg+1:=⟨gk-1,by omega⟩);(have hkL:k<V.length:=by rw [HVL.out];exact hk);(obtain⟨g,o,ha,hgw,hcells⟩:=HV.out.cells (by omega));subst ha;have hgW:g<W1.heap.size:=Nat.lt_of_lt_of_le hgw HBW.out.size;have c0:=kpB HBW.out hgw (hcells k hkL);(have HNX:=Hd (show boundL R V (k+1)=bif R.any (lackZ k) then boundL R V k else boundL R V k++[V[k]] by rw [boundL,getD_at hkL]));have HLL:=Hd (boundL_length R V k);clear hcells;generalize V[k]=y at c0 HNX;(have hk0:(0:Int)≤(k:Int):=by omega);(have hkn:(k:Int)<(n:Int):=by omega);(have HCF:=Hd (fun (W:World) (hb:Below W1.heap.size W1 W) (hc:W.cell? ⟨W1.heap.size,0,none⟩=some (.int .i64 (k:Int))) (hlt:W1.heap.size<W.heap.size)=>hasR_calls R (lackZ k) 232 #[.pointer (some ⟨W1.heap.size,0,none⟩)] HEG.out ra m rc W (HR.out.on (HBW.out.trans (hb.mono HBW.out.size))) (fun W' j hj a' c' hb' ht=>lacks_calls R[j] k (by rw [HRR.out _ (List.getElem_mem hj)];exact hkL) W1.heap.size a' c' W' (kpB hb' hlt hc) ht)));(have hB1:w.heap.size+2≤W1.heap.size:=by have:=HB.out.size;have:=HZ.out;omega);obtain⟨O,hO⟩:∃O,boundL R V k=O:=⟨_,rfl⟩;rw [hO] at HO HNX HLL;clear hO;(have hol:O.length≤32:=by have:=HLL.out;omega);cases hq:R.any (lackZ k) with
   | true =>
     rw [hq] at HCF HNX;clear hq;(go_wp2_with fail);refine (HCF.out _ ?_ ?_ ?_).mono ?_
     ·repeat (with_reducible (first|exact box_below _ _|exact Below.refl _ _|refine Below.setCell ?_ (Nat.le_refl _) _))
     ·simp [go_sem]
     ·simp
     rintro e w2 ⟨rfl,hb2⟩;(have HB2:=Hd (HB.out.trans ((show Below W1.heap.size W1 w2 from (by (repeat (with_reducible (first|exact box_below _ _|refine below_set ?_ (Nat.le_refl _) _ _))):Below W1.heap.size W1 _).trans (hb2.mono (by simp))).mono HB.out.size)));(have HO2:=Hd (rowOn HO.out (show Below W1.heap.size W1 w2 from (by (repeat (with_reducible (first|exact box_below _ _|refine below_set ?_ (Nat.le_refl _) _ _))):Below W1.heap.size W1 _).trans (hb2.mono (by simp)))));clear hb2;go_wp2;go_roundg gg
     case measure=>omega
     case rel=>exact⟨k+1,by go_num,by omega,by rw [HNX.out];exact HO2,HB2⟩
   | false =>
     rw [hq] at HCF HNX;clear hq;(go_wp2_with fail);refine (HCF.out _ ?_ ?_ ?_).mono ?_
     ·repeat (with_reducible (first|exact box_below _ _|exact Below.refl _ _|refine Below.setCell ?_ (Nat.le_refl _) _))
     ·simp [go_sem]
     ·simp
     rintro e w2 ⟨rfl,hb2⟩;(have HB2:=Hd (HB.out.trans ((show Below W1.heap.size W1 w2 from (by (repeat (with_reducible (first|exact box_below _ _|refine below_set ?_ (Nat.le_refl _) _ _))):Below W1.heap.size W1 _).trans (hb2.mono (by simp))).mono HB.out.size)));(have HO2:=Hd (rowOn HO.out (show Below W1.heap.size W1 w2 from (by (repeat (with_reducible (first|exact box_below _ _|refine below_set ?_ (Nat.le_refl _) _ _))):Below W1.heap.size W1 _).trans (hb2.mono (by simp)))));(have hzw2:w.heap.size+2≤w2.heap.size:=by have:=hb2.size;simp at this;omega);clear hb2;(go_wp2_with (at_builtin;go_must (refine wpList_append_own _ rfl _ _ 22 rfl (w.heap.size+2) 9 i0 (.string ⟨#[]⟩) 1 16 Tryz.underlying22 hi hz0 hz1 hz2 rfl (by decide) _ _ _ rfl (HO2.out.alloc _) ⟨w2.heap.size,0,none⟩ 1 1 [.string (bs y)] rfl rfl (cell_one_new _ _ _) (by intro u hu;simp at hu;subst hu;rfl) (by unfold maxLen;omega) (by omega) (by simp;omega) ?_;intro v3 w3 hown3 hgrow3 hnil3;have HO3:=Hd hown3;have HG3:=Hd hgrow3;clear hown3 hgrow3 hnil3)));go_roundg gg
     case measure=>omega
     case rel=>exact⟨k+1,by go_num,by omega,by rw [HNX.out];simp only [cond_false];rw [textCells_append,List.length_append];exact HO3,Hd ((HB2.out.alloc (by have:=HZ.out;omega) _).grown HG3.out (by have:=HZ.out;simp;omega) (fun j hj=>by have:=(HO2.out.lt j hj).1;have:=HZ.out;omega))⟩
  ·(have hkn:k=n:=by omega);(have HO2:=Hd (show W1.ownsRow (w.heap.size+2) 9 1 _ (boundL R V V.length).length (textCells (boundL R V V.length)) by rw [HVL.out,←hkn];exact HO.out));obtain⟨a1,c1,rfl,htx⟩:=txtA_own HO2.out;have HTX:=Hd htx;have HC1:=Hd (setOf_calls V HX.out va n vc W1 (HV.out.on HBW.out));rw [table_all R V] at HC1;(have HC2:=Hd (fun W h=>setOf_calls (boundL R V V.length) (boundL_small HX.out) a1 (boundL R V V.length).length c1 W h));rw [table_sure] at HC2;(have hX:=blk_on HX0.out HB.out (by have:=HZ.out;omega));have HXX:=Hd hX;(have hXL:w.heap.size+1<W1.heap.size:=by have:=HB.out.size;have:=HZ.out;omega);(have k1:¬(k:Int)<(n:Int):=by omega);generalize (boundL R V V.length).length=q at HTX HC2;clear htx HO2 HO hX hkn;(go_wp2_with fail);refine HC1.out.mono ?_;rintro e w2 ⟨p,rfl,hS,hb2⟩;have HS:=Hd hS;have HX2:=Hd (blk_on HXX.out hb2 hXL);have HB2:=Hd (HBW.out.trans (hb2.mono HBW.out.size));have HTX2:=Hd (HTX.out.on hb2);have hXL2:w.heap.size+1<w2.heap.size:=Nat.lt_of_lt_of_le hXL hb2.size;clear hS hb2 t0 t1;(go_wp2_with fail);refine (HC2.out _ HTX2.out).mono ?_;rintro e w3 ⟨p2,rfl,hS,hb2⟩;have HS2:=Hd hS;have HS1:=Hd (HS.out.on (mapsOn_below hb2));have HX3:=Hd (blk_on HX2.out hb2 hXL2);have HB3:=Hd (HB2.out.trans (hb2.mono HB2.out.size));clear hS hb2;(go_wp2_with (refine kWhole 87 (.tmp 2) (.tmp 31) ⟨rfl,rfl⟩ (w.heap.size+1) #[.map p,.map p2] (by kernel_rfl) (by kernel_rfl) 87 #[.map none,.map none] HX3.out (by kernel_rfl) rfl (by kernel_rfl) ?_;intro w4 hA4 hG4));have hm:=kMaps hG4.out HX3.out;refine two_ret2 _ _ (w.heap.size+1) p p2 _ (by first|rfl|simp) hA4.out ⟨p,p2,rfl,HS1.out.on hm,HS2.out.on hm,HB3.out.grown hG4.out HB3.out.size (fun j hj=>by cases hj;exact Nat.le_succ _)⟩
end
section
open Go.RowKit Go.Maps
def ResAt (w:World) (g o:Nat) (r:ResL):Prop:=∃p q,w.cell? ⟨g,o,none⟩=some (.int .i64 r.f)∧w.cell? ⟨g,o+1,none⟩=some (.bool r.v)∧w.cell? ⟨g,o+2,none⟩=some (.map p)∧w.cell? ⟨g,o+3,none⟩=some (.map q)∧SetA w p r.sc∧SetA w q r.ct
theorem ResAt.on {w w':World} {g o:Nat} {r:ResL} (h:ResAt w g o r) (hb:Below w.heap.size w w') (hg:g<w.heap.size):ResAt w' g o r:=by
  obtain⟨p,q,c0,c1,c2,c3,h1,h2⟩:=h
  exact⟨p,q,kpB hb hg c0,kpB hb hg c1,kpB hb hg c2,kpB hb hg c3,h1.on (mapsOn_below hb),h2.on (mapsOn_below hb)⟩
structure ResA (w:World) (a:Option Addr) (n c:Nat) (N:List ResL):Prop where
  len:N.length=n
  cap:n≤c
  most:c≤maxLen
  cells:0<n→∃g o,a=some ⟨g,o,none⟩∧g<w.heap.size∧∀j (h:j<N.length),ResAt w g (o+j*4) N[j]
theorem ResA.on {w w':World} {a:Option Addr} {n c:Nat} {N:List ResL} (h:ResA w a n c N) (hb:Below w.heap.size w w'):ResA w' a n c N:=by
  refine⟨h.len,h.cap,h.most,fun h0=>?_⟩
  obtain⟨g,o,ha,hg,hc⟩:=h.cells h0
  exact⟨g,o,ha,Nat.lt_of_lt_of_le hg hb.size,fun j hj=>(hc j hj).on hb hg⟩
def ResT (w:World) (r:ResL) (e:Ending) (w':World):Prop:=∃p q,e=.returned (.agg #[.int .i64 r.f,.bool r.v,.map p,.map q])∧SetA w' p r.sc∧SetA w' q r.ct∧Below w.heap.size w w'
end
end Go.Proofs.YtjpfoophipcglaaGreatDoor
