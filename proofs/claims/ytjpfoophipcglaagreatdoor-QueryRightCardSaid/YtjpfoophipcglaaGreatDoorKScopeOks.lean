/- Is there one of which a function says yes?. -/
import Derived.Shelf.Abstract
import Derived.Test.YtjpfoophipcglaaGreatDoorKRefScopes
namespace Go.Proofs.YtjpfoophipcglaaGreatDoor
set_option maxRecDepth 100000
set_option maxHeartbeats 8000000
section
open Go.RowKit Go.Shelf
theorem anyN_next {α:Type} {p:α→Bool} {l:List α} {k:Nat} (h:(l.take k).any p=false) (hk:k<l.length) (h1:p l[k]=false):(l.take (k+1)).any p=false:=by
  rw [List.take_succ_eq_append_getElem hk,List.any_append,h];simp [h1]
theorem anyN_hit {α:Type} {p:α→Bool} {l:List α} {k:Nat} (hk:k<l.length) (h1:p l[k]=true):l.any p=true:=List.any_eq_true.2 ⟨_,List.getElem_mem hk,h1⟩
theorem anyN_end {α:Type} {p:α→Bool} {l:List α} {k:Nat} (h:(l.take k).any p=false) (hk:l.length≤k):l.any p=false:=by rwa [List.take_of_length_le hk] at h
theorem idxR_calls (L:List (List TermL)) (p:(List TermL)→Bool) (gf:Nat) (lb:Array Value) (eg:∀args w,(callFunc gf args).run Tryz.prog w=.ok (.enter gf args) w) (a:Option Addr) (n c:Nat) (w:World) (hv:RowA w a n c L) (hp:∀W (j:Nat) (h:j<L.length) (a':Option Addr) (c':Nat),Below w.heap.size w W→TrmA W a' L[j].length c' L[j]→Calls Tryz.prog gf (#[.slice a' L[j].length c']++lb) W fun e w'=>e=.returned (.bool (p L[j]))∧Below W.heap.size W w'):Calls Tryz.prog 222 #[.slice a n c,.func (.func gf) #[] lb] w fun e w'=>∃r:Int,e=.returned (.int .i64 r)∧decide (0≤r)=L.any p∧Below w.heap.size w w':=by
 have HV:=Hd hv;have HP:=Hd hp;have HL:=Hd hv.len;have hcp:=hv.cap;have hms:=hv.most;(unfold maxLen at hms);clear hv hp;(go_enter Tryz.func222,Tryz.ntmps222);go_wp2;go_loopg [5,8] n (fun g _ i wr=>∃k:Nat,i=.int .i64 k∧k+g=n∧Hid ((L.take k).any p=false)∧Hid (Below w.heap.size w wr))
 case atStart=>exact⟨0,rfl,by omega,Hd rfl,Hd (Below.refl _ _)⟩
 case round =>
  obtain⟨W1,rfl⟩:∃W1,W1=wr:=⟨_,rfl⟩;obtain⟨k,rfl,hkg,HR,HB⟩:=hrel;by_cases hk:k<n
  ·(have hkL:k<L.length:=by rw [HL.out];exact hk);(obtain⟨gg,rfl⟩:∃gg,gk=gg+1:=⟨gk-1,by omega⟩);(obtain⟨g,o,ha,hgw,hcells⟩:=HV.out.cells (by omega));subst ha;have hgW:g<W1.heap.size:=Nat.lt_of_lt_of_le hgw HB.out.size;obtain⟨a',c',hcell,htrm⟩:=hcells k hkL;have c0:=kpB HB.out hgw hcell;have HC:=Hd (HP.out W1 k hkL a' c' HB.out (htrm.on HB.out));(have HHIT:=Hd (fun h1=>anyN_hit (p:=p) hkL h1));(have HNX:=Hd (fun h1=>anyN_next (p:=p) HR.out hkL h1));clear hcells;clear hcell htrm;generalize L[k]=y at c0 HC HHIT HNX;(have k0:(0:Int)≤(k:Int):=by omega);(have k1:(k:Int)<(n:Int):=by omega);cases hq:p y with
   | true =>
     rw [hq] at HC HNX HHIT;have HE:=Hd (HHIT.out rfl);clear HNX HHIT hq;(go_wp2_with (go_at_fn gf;refine HC.out.mono ?_;rintro e w2 ⟨rfl,hb2⟩;have HB2:=Hd (HB.out.trans (hb2.mono HB.out.size));clear hb2));go_ret;exact⟨k,rfl,by rw [HE.out];exact decide_eq_true k0,HB2.out⟩
   | false =>
     rw [hq] at HC HNX HHIT;have HN2:=Hd (HNX.out rfl);clear HNX HHIT hq;(go_wp2_with (go_at_fn gf;refine HC.out.mono ?_;rintro e w2 ⟨rfl,hb2⟩;have HB2:=Hd (HB.out.trans (hb2.mono HB.out.size));clear hb2));go_roundg gg
     case measure=>omega
     case rel=>exact⟨k+1,by go_num,by omega,HN2,HB2⟩
  ·(have HE:=Hd (anyN_end HR.out (by rw [HL.out];omega)));(have k1:¬(k:Int)<(n:Int):=by omega);go_wp2;go_ret;exact⟨-1,rfl,by rw [HE.out];rfl,HB.out⟩
theorem hasR_calls (L:List (List TermL)) (p:(List TermL)→Bool) (gf:Nat) (lb:Array Value) (eg:∀args w,(callFunc gf args).run Tryz.prog w=.ok (.enter gf args) w) (a:Option Addr) (n c:Nat) (w:World) (hv:RowA w a n c L) (hp:∀W (j:Nat) (h:j<L.length) (a':Option Addr) (c':Nat),Below w.heap.size w W→TrmA W a' L[j].length c' L[j]→Calls Tryz.prog gf (#[.slice a' L[j].length c']++lb) W fun e w'=>e=.returned (.bool (p L[j]))∧Below W.heap.size W w'):Calls Tryz.prog 172 #[.slice a n c,.func (.func gf) #[] lb] w fun e w'=>e=.returned (.bool (L.any p))∧Below w.heap.size w w':=by
 have HC:=Hd (idxR_calls L p gf lb eg a n c w hv hp);clear hv hp;(go_enter Tryz.func172,Tryz.ntmps172);(go_wp2_with (go_at_call 222;refine HC.out.mono ?_;rintro e w2 ⟨r,rfl,hr,hb2⟩;have HR:=Hd hr;clear hr));go_ret;exact⟨by rw [←HR.out];rfl,hb2⟩
theorem idxT_calls (L:List TermL) (p:TermL→Bool) (gf:Nat) (lb:Array Value) (eg:∀args w,(callFunc gf args).run Tryz.prog w=.ok (.enter gf args) w) (a:Option Addr) (n c:Nat) (w:World) (hv:TrmA w a n c L) (hp:∀W (j:Nat) (h:j<L.length),Below w.heap.size w W→Calls Tryz.prog gf (#[L[j].v]++lb) W fun e w'=>e=.returned (.bool (p L[j]))∧Below W.heap.size W w'):Calls Tryz.prog 257 #[.slice a n c,.func (.func gf) #[] lb] w fun e w'=>∃r:Int,e=.returned (.int .i64 r)∧decide (0≤r)=L.any p∧Below w.heap.size w w':=by
 have HV:=Hd hv;have HP:=Hd hp;have HL:=Hd hv.len;have hcp:=hv.cap;have hms:=hv.most;(unfold maxLen at hms);clear hv hp;(go_enter Tryz.func257,Tryz.ntmps257);go_wp2;go_loopg [5,8] n (fun g _ i wr=>∃k:Nat,i=.int .i64 k∧k+g=n∧Hid ((L.take k).any p=false)∧Hid (Below w.heap.size w wr))
 case atStart=>exact⟨0,rfl,by omega,Hd rfl,Hd (Below.refl _ _)⟩
 case round =>
  obtain⟨W1,rfl⟩:∃W1,W1=wr:=⟨_,rfl⟩;obtain⟨k,rfl,hkg,HR,HB⟩:=hrel;by_cases hk:k<n
  ·(have hkL:k<L.length:=by rw [HL.out];exact hk);(obtain⟨gg,rfl⟩:∃gg,gk=gg+1:=⟨gk-1,by omega⟩);(obtain⟨g,o,ha,hgw,hcells⟩:=HV.out.cells (by omega));subst ha;have hgW:g<W1.heap.size:=Nat.lt_of_lt_of_le hgw HB.out.size;obtain⟨c0,c1,c2,c3⟩:=(hcells k hkL).on HB.out hgw;have HC:=Hd (HP.out W1 k hkL HB.out);(have HHIT:=Hd (fun h1=>anyN_hit (p:=p) hkL h1));(have HNX:=Hd (fun h1=>anyN_next (p:=p) HR.out hkL h1));clear hcells;generalize L[k]=y at c0 c1 c2 c3 HC HHIT HNX;(simp only [TermL.v] at HC);(have k0:(0:Int)≤(k:Int):=by omega);(have k1:(k:Int)<(n:Int):=by omega);cases hq:p y with
   | true =>
     rw [hq] at HC HNX HHIT;have HE:=Hd (HHIT.out rfl);clear HNX HHIT hq;(go_wp2_with (go_at_fn gf;refine HC.out.mono ?_;rintro e w2 ⟨rfl,hb2⟩;have HB2:=Hd (HB.out.trans (hb2.mono HB.out.size));clear hb2));go_ret;exact⟨k,rfl,by rw [HE.out];exact decide_eq_true k0,HB2.out⟩
   | false =>
     rw [hq] at HC HNX HHIT;have HN2:=Hd (HNX.out rfl);clear HNX HHIT hq;(go_wp2_with (go_at_fn gf;refine HC.out.mono ?_;rintro e w2 ⟨rfl,hb2⟩;have HB2:=Hd (HB.out.trans (hb2.mono HB.out.size));clear hb2));go_roundg gg
     case measure=>omega
     case rel=>exact⟨k+1,by go_num,by omega,HN2,HB2⟩
  ·(have HE:=Hd (anyN_end HR.out (by rw [HL.out];omega)));(have k1:¬(k:Int)<(n:Int):=by omega);go_wp2;go_ret;exact⟨-1,rfl,by rw [HE.out];rfl,HB.out⟩
theorem hasT_calls (L:List TermL) (p:TermL→Bool) (gf:Nat) (lb:Array Value) (eg:∀args w,(callFunc gf args).run Tryz.prog w=.ok (.enter gf args) w) (a:Option Addr) (n c:Nat) (w:World) (hv:TrmA w a n c L) (hp:∀W (j:Nat) (h:j<L.length),Below w.heap.size w W→Calls Tryz.prog gf (#[L[j].v]++lb) W fun e w'=>e=.returned (.bool (p L[j]))∧Below W.heap.size W w'):Calls Tryz.prog 223 #[.slice a n c,.func (.func gf) #[] lb] w fun e w'=>e=.returned (.bool (L.any p))∧Below w.heap.size w w':=by
 have HC:=Hd (idxT_calls L p gf lb eg a n c w hv hp);clear hv hp;(go_enter Tryz.func223,Tryz.ntmps223);(go_wp2_with (go_at_call 257;refine HC.out.mono ?_;rintro e w2 ⟨r,rfl,hr,hb2⟩;have HR:=Hd hr;clear hr));go_ret;exact⟨by rw [←HR.out];rfl,hb2⟩
theorem idxP_calls (L:List TripL) (p:TripL→Bool) (gf:Nat) (lb:Array Value) (eg:∀args w,(callFunc gf args).run Tryz.prog w=.ok (.enter gf args) w) (a:Option Addr) (n c:Nat) (w:World) (hv:TrpA w a n c L) (hp:∀W (j:Nat) (h:j<L.length),Below w.heap.size w W→Calls Tryz.prog gf (#[L[j].v]++lb) W fun e w'=>e=.returned (.bool (p L[j]))∧Below W.heap.size W w'):Calls Tryz.prog 220 #[.slice a n c,.func (.func gf) #[] lb] w fun e w'=>∃r:Int,e=.returned (.int .i64 r)∧decide (0≤r)=L.any p∧Below w.heap.size w w':=by
 have HV:=Hd hv;have HP:=Hd hp;have HL:=Hd hv.len;have hcp:=hv.cap;have hms:=hv.most;(unfold maxLen at hms);clear hv hp;(go_enter Tryz.func220,Tryz.ntmps220);go_wp2;go_loopg [5,8] n (fun g _ i wr=>∃k:Nat,i=.int .i64 k∧k+g=n∧Hid ((L.take k).any p=false)∧Hid (Below w.heap.size w wr))
 case atStart=>exact⟨0,rfl,by omega,Hd rfl,Hd (Below.refl _ _)⟩
 case round =>
  obtain⟨W1,rfl⟩:∃W1,W1=wr:=⟨_,rfl⟩;obtain⟨k,rfl,hkg,HR,HB⟩:=hrel;by_cases hk:k<n
  ·(have hkL:k<L.length:=by rw [HL.out];exact hk);(obtain⟨gg,rfl⟩:∃gg,gk=gg+1:=⟨gk-1,by omega⟩);(obtain⟨g,o,ha,hgw,hcells⟩:=HV.out.cells (by omega));subst ha;have hgW:g<W1.heap.size:=Nat.lt_of_lt_of_le hgw HB.out.size;obtain⟨hs,hp2,ho⟩:=hcells k hkL;obtain⟨c0,c1,c2,c3⟩:=hs.on HB.out hgw;obtain⟨c4,c5,c6,c7⟩:=hp2.on HB.out hgw;obtain⟨c8,c9,c10,c11⟩:=ho.on HB.out hgw;have HC:=Hd (HP.out W1 k hkL HB.out);(have HHIT:=Hd (fun h1=>anyN_hit (p:=p) hkL h1));(have HNX:=Hd (fun h1=>anyN_next (p:=p) HR.out hkL h1));clear hcells;clear hs hp2 ho;generalize L[k]=y at c0 c1 c2 c3 c4 c5 c6 c7 c8 c9 c10 c11 HC HHIT HNX;(simp only [TripL.v] at HC);(have k0:(0:Int)≤(k:Int):=by omega);(have k1:(k:Int)<(n:Int):=by omega);cases hq:p y with
   | true =>
     rw [hq] at HC HNX HHIT;have HE:=Hd (HHIT.out rfl);clear HNX HHIT hq;(go_wp2_with (go_at_fn gf;refine HC.out.mono ?_;rintro e w2 ⟨rfl,hb2⟩;have HB2:=Hd (HB.out.trans (hb2.mono HB.out.size));clear hb2));go_ret;exact⟨k,rfl,by rw [HE.out];exact decide_eq_true k0,HB2.out⟩
   | false =>
     rw [hq] at HC HNX HHIT;have HN2:=Hd (HNX.out rfl);clear HNX HHIT hq;(go_wp2_with (go_at_fn gf;refine HC.out.mono ?_;rintro e w2 ⟨rfl,hb2⟩;have HB2:=Hd (HB.out.trans (hb2.mono HB.out.size));clear hb2));go_roundg gg
     case measure=>omega
     case rel=>exact⟨k+1,by go_num,by omega,HN2,HB2⟩
  ·(have HE:=Hd (anyN_end HR.out (by rw [HL.out];omega)));(have k1:¬(k:Int)<(n:Int):=by omega);go_wp2;go_ret;exact⟨-1,rfl,by rw [HE.out];rfl,HB.out⟩
theorem hasP_calls (L:List TripL) (p:TripL→Bool) (gf:Nat) (lb:Array Value) (eg:∀args w,(callFunc gf args).run Tryz.prog w=.ok (.enter gf args) w) (a:Option Addr) (n c:Nat) (w:World) (hv:TrpA w a n c L) (hp:∀W (j:Nat) (h:j<L.length),Below w.heap.size w W→Calls Tryz.prog gf (#[L[j].v]++lb) W fun e w'=>e=.returned (.bool (p L[j]))∧Below W.heap.size W w'):Calls Tryz.prog 169 #[.slice a n c,.func (.func gf) #[] lb] w fun e w'=>e=.returned (.bool (L.any p))∧Below w.heap.size w w':=by
 have HC:=Hd (idxP_calls L p gf lb eg a n c w hv hp);clear hv hp;(go_enter Tryz.func169,Tryz.ntmps169);(go_wp2_with (go_at_call 220;refine HC.out.mono ?_;rintro e w2 ⟨r,rfl,hr,hb2⟩;have HR:=Hd hr;clear hr));go_ret;exact⟨by rw [←HR.out];rfl,hb2⟩
end
section
open Go.RowKit
theorem tPattern_calls (t:TripL) (ht:t.ok) (w:World):Calls Tryz.prog 171 #[t.v] w fun e w'=>e=.returned (.int .i64 (formZ (patB t)))∧Below w.heap.size w w':=by
 have HT:=Hd ht;clear ht;obtain⟨⟨k,x,y,z⟩,⟨k',x',y',z'⟩,⟨k'',x'',y'',z''⟩⟩:=t;(simp only [TripL.v]);(go_enter Tryz.func171,Tryz.ntmps171);(go_wp2_with fail);refine (check_calls ⟨⟨k,x,y,z⟩,⟨k',x',y',z'⟩,⟨k'',x'',y'',z''⟩⟩ HT.out (w.heap.size+1) (w.heap.size+1+1) (w.heap.size+1+1+1) [1,4] [1,4] [1,2,4] _ (by decide) (by decide) (by decide) ?_ ?_ ?_ (by simp<;>omega) (by simp<;>omega) (by simp<;>omega)).mono ?_
 ·intro j hj;(rcases (show j=0∨j=1 by simp at hj;omega) with rfl|rfl);all_goals simp [go_sem,World.cell?_alloc_lt]
 ·intro j hj;(rcases (show j=0∨j=1 by simp at hj;omega) with rfl|rfl);all_goals simp [go_sem,World.cell?_alloc_lt]
 ·intro j hj;(rcases (show j=0∨j=1∨j=2 by simp at hj;omega) with rfl|rfl|rfl);all_goals simp [go_sem]
 rintro e w1 ⟨rfl,hb1⟩;go_wp2;go_ret;exact⟨rfl,((((box_below _ _).alloc (by simp) _).alloc (by simp;omega) _).alloc (by simp;omega) _).trans (hb1.mono (by simp;omega))⟩
end
section
open Go.RowKit Go.Shelf
theorem conA_calls (L:List (List UInt8)) (x:List UInt8) (g o n c:Nat) (w:World) (h:TxtA w (some ⟨g,o,none⟩) n c L):Calls Tryz.prog 50 #[.slice (some ⟨g,o,none⟩) n c,.string (bs x)] w fun e w'=>e=.returned (.bool (decide (x∈L)))∧w'=w:=by
 by_cases h0:n=0
 ·subst h0;have hl:L=[]:=List.eq_nil_of_length_eq_zero h.len;subst hl;refine (Tryz.slices_Contains_string_empty (some ⟨g,o,none⟩) c (bs x) w).mono ?_;rintro e w' ⟨rfl,hw⟩;exact⟨by simp,hw⟩
 ·(obtain⟨g',o',he,_,hc⟩:=h.cells (by omega));(cases he);have hm:=h.most;have hcp:=h.cap;(unfold maxLen at hm);refine (Tryz.slices_Contains_string g o n c (L.map bs) (bs x) w (by rw [List.length_map,h.len];exact Nat.le_refl _) (by omega) (fun j hj=>?_)).mono ?_
  ·rw [List.length_map] at hj;rw [hc j hj,List.getD_eq_getElem?_getD,List.getElem?_map,List.getElem?_eq_getElem hj];rfl
  ·rintro e w' ⟨rfl,hw⟩;refine⟨?_,hw⟩;have:Lib.containsS ((L.map bs).take n) (bs x)=decide (x∈L):=by
    (rw [List.take_of_length_le (by rw [List.length_map,h.len];exact Nat.le_refl _),Bool.eq_iff_iff,Lib.containsS_iff,decide_eq_true_eq,List.mem_map]);exact⟨fun ⟨y,hy,e⟩=>by
     (have:y=x:=by have:=congrArg (fun b:ByteArray=>b.data.toList) e;simpa [bs] using this);rw [←this];exact hy,fun hx=>⟨x,hx,rfl⟩⟩
   rw [this]
theorem value_kinds (t:TermL):valueZ t=false∧t.k=3∨valueZ t=false∧t.k=4∨(¬t.k=3∧¬t.k=4∧valueZ t=rightL t.k t.x t.y t.z):=by
  unfold valueZ
  by_cases h3:t.k=3
  · exact .inl ⟨by rw [h3];simp,h3⟩
  by_cases h4:t.k=4
  · exact .inr (.inl ⟨by rw [h4];simp,h4⟩)
  refine .inr (.inr ⟨h3,h4,?_⟩)
  by_cases h0:t.k=0
  · rw [h0];simp
  by_cases h1:t.k=1
  · rw [h1];simp
  by_cases h2:t.k=2
  · rw [h2];simp
  · rw [decide_eq_false h0,decide_eq_false h1,decide_eq_false h2]
    unfold rightL
    rw [if_neg h1,if_neg (by omega),if_neg h2,decide_eq_false h0];simp
theorem cells1_calls (t:TermL) (ht:t.ok) (w:World):Calls Tryz.prog 224 #[t.v] w fun e w'=>e=.returned (.bool (!valueZ t))∧Below w.heap.size w w':=by
 have HT:=Hd ht;clear ht;have hk:=value_kinds t;obtain⟨k,x,y,z⟩:=t;(simp only [TermL.v]);dsimp only at hk;rcases hk with ⟨hv,rfl⟩|⟨hv,rfl⟩|⟨h3,h4,hv⟩
 ·have HV:=Hd hv;clear hv;(go_enter Tryz.func224,Tryz.ntmps224);go_wp2;go_ret;exact⟨by rw [HV.out];rfl,box_below _ _⟩
 ·have HV:=Hd hv;clear hv;(go_enter Tryz.func224,Tryz.ntmps224);go_wp2;go_ret;exact⟨by rw [HV.out];rfl,box_below _ _⟩
 ·have g3:(k==3)=false:=beq_eq_false_iff_ne.2 h3;have g4:(k==4)=false:=beq_eq_false_iff_ne.2 h4;(have HC:=Hd (fun W=>Check_calls k (bs x) (bs y) (bs z) W HT.out.1 HT.out.2.1 HT.out.2.2));(simp only [bs_data] at HC);have HV:=Hd hv;cases hr:rightL k x y z with
  | true =>
    rw [hr] at HC HV;(have e0:formZ true=0:=rfl);rw [e0] at HC;clear hv hr h3 h4 e0;(go_enter Tryz.func224,Tryz.ntmps224);(go_wp2_with fail);refine (HC.out _).mono ?_;rintro e w1 ⟨rfl,hb1⟩;have HB:=Hd (one_box hb1);clear hb1;go_wp2;go_ret;exact⟨by rw [HV.out];rfl,HB.out⟩
  | false =>
    rw [hr] at HC HV;(have e0:formZ false=2:=rfl);rw [e0] at HC;clear hv hr h3 h4 e0;(go_enter Tryz.func224,Tryz.ntmps224);(go_wp2_with fail);refine (HC.out _).mono ?_;rintro e w1 ⟨rfl,hb1⟩;have HB:=Hd (one_box hb1);clear hb1;go_wp2;go_ret;exact⟨by rw [HV.out];rfl,HB.out⟩
theorem all_any {α:Type} (p:α→Bool) (l:List α):l.all p=!l.any fun x=>!p x:=by
  induction l with
  | nil=>rfl
  | cons x r ih=>rw [List.all_cons,List.any_cons,ih,Bool.not_or,Bool.not_not]
theorem areCells_calls (r:List TermL) (hok:∀t∈r,t.ok) (a:Option Addr) (n c:Nat) (w:World) (h:TrmA w a n c r):Calls Tryz.prog 174 #[.slice a n c] w fun e w'=>e=.returned (.bool (r.all valueZ))∧Below w.heap.size w w':=by
 (have eg:∀args w,(callFunc 224 args).run Tryz.prog w=.ok (.enter 224 args) w:=enters_of Tryz.func224 (by kernel_rfl) rfl);(have HC:=Hd (hasT_calls r (fun t=>!valueZ t) 224 #[] eg a n c w h (fun W j hj _=>cells1_calls r[j] (hok _ (List.getElem_mem hj)) W)));have HA:=Hd (all_any valueZ r);clear h hok eg;(go_enter Tryz.func174,Tryz.ntmps174);(go_wp2_with fail);refine HC.out.mono ?_;rintro e w1 ⟨rfl,hb1⟩;have HB:=Hd hb1;clear hb1;go_wp2;go_ret;exact⟨by rw [HA.out];rfl,HB.out⟩
theorem isTable1_calls (r:List TermL) (hok:∀t∈r,t.ok) (X n vc:Nat) (va:Option Addr) (a:Option Addr) (c:Nat) (w:World) (hX:w.cell? ⟨X,0,none⟩=some (.slice va n vc)) (h:TrmA w a r.length c r):Calls Tryz.prog 173 #[.slice a r.length c,.pointer (some ⟨X,0,none⟩)] w fun e w'=>e=.returned (.bool (!rowZ n r))∧Below w.heap.size w w':=by
 have HC:=Hd (areCells_calls r hok a r.length c w h);(have HZ:=Hd (show rowZ n r=(decide (r.length=n)&&r.all valueZ) from rfl));clear h hok;generalize r.all valueZ=b at HC HZ;by_cases hn:r.length=n
 ·rw [decide_eq_true hn] at HZ;(have hne:((r.length:Int) !=(n:Int))=false:=by rw [hn];exact bne_self_eq_false _);generalize r.length=q at HC hne;clear hn;(go_enter Tryz.func173,Tryz.ntmps173);(go_wp2_with fail);refine HC.out.mono ?_;rintro e w1 ⟨rfl,hb1⟩;have HB:=Hd hb1;clear hb1;go_wp2;go_ret;exact⟨by rw [HZ.out];rfl,HB.out⟩
 ·rw [decide_eq_false hn] at HZ;(have hne:((r.length:Int) !=(n:Int))=true:=bne_iff_ne.2 (by omega));generalize r.length=q at HC hne;clear hn;(go_enter Tryz.func173,Tryz.ntmps173);go_wp2;go_ret;exact⟨by rw [HZ.out];rfl,Below.refl _ _⟩
theorem isTable_calls (V:List (List UInt8)) (R:List (List TermL)) (hx:∀x∈V,(bs x).size≤maxLen) (hr:∀r∈R,∀t∈r,t.ok) (va ra:Option Addr) (n vc m rc:Nat) (w:World) (hV:TxtA w va n vc V) (hR:RowA w ra m rc R):Calls Tryz.prog 128 #[.agg #[.slice va n vc,.slice ra m rc]] w fun e w'=>e=.returned (.bool (tableB V R))∧Below w.heap.size w w':=by
 (have eg:∀args w,(callFunc 173 args).run Tryz.prog w=.ok (.enter 173 args) w:=enters_of Tryz.func173 (by kernel_rfl) rfl);have HV:=Hd hV;have HR:=Hd hR;have HX:=Hd hx;have HOK:=Hd hr;have HVL:=Hd hV.len;have HRL:=Hd hR.len;have hvc:=hV.cap;have hvm:=hV.most;have hrc:=hR.cap;have hrm:=hR.most;(unfold maxLen at hvm hrm);clear hV hR hx hr;(have HT0:=Hd (fun T=>TabIn.new w (.slice va n vc) (.slice ra m rc) T));by_cases h32:32<n
 ·(have HE:=Hd (tableB_long (V:=V) (R:=R) (.inl (by rw [HVL.out];exact h32))));(have g1:(32:Int)<(n:Int):=by omega);clear eg;(go_enter Tryz.func128,Tryz.ntmps128);go_wp2;go_ret;exact⟨by rw [HE.out];rfl,box_below _ _⟩
 by_cases h64:64<m
 ·(have HE:=Hd (tableB_long (V:=V) (R:=R) (.inr (by rw [HRL.out];exact h64))));(have g1:¬(32:Int)<(n:Int):=by omega);(have g2:(64:Int)<(m:Int):=by omega);clear eg;(go_enter Tryz.func128,Tryz.ntmps128);go_wp2;go_ret;exact⟨by rw [HE.out];rfl,box_below _ _⟩
 (have g1:¬(32:Int)<(n:Int):=by omega);(have g2:¬(64:Int)<(m:Int):=by omega);have HEG:=Hd eg;clear eg;(go_enter Tryz.func128,Tryz.ntmps128);go_wp2;go_loopg [3,18] n (fun g _ i wr=>∃k:Nat,i=.int .i64 k∧k+g=n∧Hid (NamesR V k)∧Hid (TabIn w (.slice va n vc) (.slice ra m rc) wr))
 case atStart=>exact⟨0,rfl,by omega,Hd (names_start V),Hd (HT0.out _)⟩
 case round =>
  obtain⟨W1,rfl⟩:∃W1,W1=wr:=⟨_,rfl⟩;obtain⟨k,rfl,hkg,HN,HT⟩:=hrel;obtain⟨t0,t1,hbW,hXW⟩:=HT.out;have HBW:=Hd hbW;clear hbW;by_cases hk:k<n
  ·(obtain⟨gg,rfl⟩:∃gg,gk=gg+1:=⟨gk-1,by omega⟩);(have hkL:k<V.length:=by rw [HVL.out];exact hk);(obtain⟨g,o,ha,hgw,hcells⟩:=HV.out.cells (by omega));subst ha;have hgW:g<W1.heap.size:=Nat.lt_of_lt_of_le hgw HBW.out.size;have c0:=kpB HBW.out hgw (hcells k hkL);(have HNX:=Hd (fun h1 h2=>names_next HN.out hkL h1 h2));(have HST:=Hd (fun h1=>names_stop HN.out hkL h1));(have HNM:=Hd (fun W=>IsName_calls (bs V[k]) W (HX.out _ (List.getElem_mem hkL))));(have HIN:=Hd (fun W h=>conA_calls (V.take k) V[k] g o k vc W h));have HTK:=Hd (HV.out.cut (Nat.le_of_lt hk));(simp only [bs_data] at HNM);clear hcells;generalize V[k]=y at c0 HNX HST HNM HIN;(have hb1:nameL y=true∨nameL y=false:=by cases nameL y<;>simp);(have hk0:(0:Int)≤(k:Int):=by omega);(have hkn:(k:Int)<(n:Int):=by omega);rcases hb1 with hb1|hb1
   ·rw [hb1] at HNM;by_cases hin:y∈V.take k
    ·rw [decide_eq_true hin] at HIN;(have HE:=Hd (tableB_names (R:=R) (HST.out (fun c=>c.2 hin))));clear HNX HST hin hb1;(go_wp2_with fail);refine (HNM.out _).mono ?_;rintro e w2 ⟨rfl,hb2⟩;have HT2:=Hd (HT.out.on hb2);clear hb2 t0 t1 hXW;obtain⟨t0,t1,hbW,hXW⟩:=HT2.out;have HB2:=Hd hbW;clear hbW;(go_wp2_with fail);refine (HIN.out _ (HTK.out.on HB2.out)).mono ?_;rintro e w3 ⟨rfl,hw3⟩;subst hw3;go_wp2;go_ret;exact⟨by rw [HE.out];rfl,HB2.out⟩
    ·rw [decide_eq_false hin] at HIN;have HN2:=Hd (HNX.out hb1 hin);clear HNX HST hin hb1;(go_wp2_with fail);refine (HNM.out _).mono ?_;rintro e w2 ⟨rfl,hb2⟩;have HT2:=Hd (HT.out.on hb2);clear hb2 t0 t1 hXW;obtain⟨t0,t1,hbW,hXW⟩:=HT2.out;have HB2:=Hd hbW;clear hbW;(go_wp2_with fail);refine (HIN.out _ (HTK.out.on HB2.out)).mono ?_;rintro e w3 ⟨rfl,hw3⟩;subst hw3;go_wp2;go_roundg gg
     case measure=>omega
     case rel=>exact⟨k+1,by go_num,by omega,HN2,HT2⟩
   ·rw [hb1] at HNM;(have HE:=Hd (tableB_names (R:=R) (HST.out (fun c=>by rw [hb1] at c;exact absurd c.1 (by decide)))));clear HNX HST hb1;(go_wp2_with fail);refine (HNM.out _).mono ?_;rintro e w2 ⟨rfl,hb2⟩;have HT2:=Hd (HT.out.on hb2);clear hb2 t0 t1 hXW;obtain⟨t0,t1,hbW,hXW⟩:=HT2.out;have HB2:=Hd hbW;clear hbW;go_wp2;go_ret;exact⟨by rw [HE.out];rfl,HB2.out⟩
  ·(have HNA:=Hd (names_end HN.out (by rw [HVL.out];omega)));(have k1:¬(k:Int)<(n:Int):=by omega);(have HC:=Hd (hasR_calls R (fun r=>!rowZ n r) 173 #[.pointer (some ⟨w.heap.size,0,none⟩)] HEG.out ra m rc W1 (HR.out.on HBW.out) (fun W j hj a' c' hb ht=>isTable1_calls R[j] (HOK.out _ (List.getElem_mem hj)) w.heap.size n vc va a' c' W (kpB hb hXW t0) ht)));have HRB:=Hd (all_any (rowZ n) R);(generalize (R.any fun r=>!rowZ n r)=b at HC HRB);(go_wp2_with fail);refine HC.out.mono ?_;rintro e w2 ⟨rfl,hb2⟩;have HT2:=Hd (HT.out.on hb2);clear hb2 t0 t1 hXW;obtain⟨t0,t1,hbW,hXW⟩:=HT2.out;have HB2:=Hd hbW;clear hbW;go_wp2;go_ret;refine⟨?_,HB2.out⟩;have:tableB V R=!b:=by
    rw [←HRB.out];(unfold tableB);rw [HNA.out,HVL.out,HRL.out,decide_eq_true (by omega),decide_eq_true (by omega),rowsB_eq];rfl
   rw [this];rfl
theorem pats1_calls (t:TripL) (ht:t.ok) (w:World):Calls Tryz.prog 170 #[t.v] w fun e w'=>e=.returned (.bool (!patB t))∧Below w.heap.size w w':=by
 (have HC:=Hd (fun W=>tPattern_calls t ht W));clear ht;cases hb:patB t with
 | true =>
   rw [hb] at HC;(have e0:formZ true=0:=rfl);rw [e0] at HC;clear hb e0;obtain⟨⟨k1,x1,y1,z1⟩,⟨k2,x2,y2,z2⟩,⟨k3,x3,y3,z3⟩⟩:=t;(simp only [TripL.v] at HC ⊢);(go_enter Tryz.func170,Tryz.ntmps170);(go_wp2_with fail);refine (HC.out _).mono ?_;rintro e w1 ⟨rfl,hb1⟩;have HB:=Hd (one_box hb1);clear hb1;go_wp2;go_ret;exact⟨rfl,HB.out⟩
 | false =>
   rw [hb] at HC;(have e0:formZ false=2:=rfl);rw [e0] at HC;clear hb e0;obtain⟨⟨k1,x1,y1,z1⟩,⟨k2,x2,y2,z2⟩,⟨k3,x3,y3,z3⟩⟩:=t;(simp only [TripL.v] at HC ⊢);(go_enter Tryz.func170,Tryz.ntmps170);(go_wp2_with fail);refine (HC.out _).mono ?_;rintro e w1 ⟨rfl,hb1⟩;have HB:=Hd (one_box hb1);clear hb1;go_wp2;go_ret;exact⟨rfl,HB.out⟩
theorem arePatterns_calls (T:List TripL) (hok:∀t∈T,t.ok) (a:Option Addr) (n c:Nat) (w:World) (h:TrpA w a n c T):Calls Tryz.prog 127 #[.slice a n c] w fun e w'=>e=.returned (.bool (patsB T))∧Below w.heap.size w w':=by
 (have eg:∀args w,(callFunc 170 args).run Tryz.prog w=.ok (.enter 170 args) w:=enters_of Tryz.func170 (by kernel_rfl) rfl);(have HC:=Hd (hasP_calls T (fun t=>!patB t) 170 #[] eg a n c w h (fun W j hj _=>pats1_calls T[j] (hok _ (List.getElem_mem hj)) W)));have HA:=Hd (all_any patB T);have HL:=Hd h.len;clear h hok eg;(generalize (T.any fun t=>!patB t)=b at HC HA);by_cases h32:n≤32
 ·(have g1:(n:Int)≤32:=by omega);(go_enter Tryz.func127,Tryz.ntmps127);(go_wp2_with fail);refine HC.out.mono ?_;rintro e w1 ⟨rfl,hb1⟩;have HB:=Hd hb1;clear hb1;go_wp2;go_ret;refine⟨?_,HB.out⟩;(have:patsB T=!b:=by unfold patsB;rw [HA.out,HL.out,decide_eq_true h32,Bool.and_true]);rw [this];rfl
 ·(have g1:¬(n:Int)≤32:=by omega);(have HE:=Hd (patsB_long (T:=T) (by rw [HL.out];omega)));(go_enter Tryz.func127,Tryz.ntmps127);go_wp2;go_ret;exact⟨by rw [HE.out];rfl,Below.refl _ _⟩
end
section
open Go.RowKit
theorem oNeeds_calls (o:OpL) (A:OpS) (w:World):Calls Tryz.prog 89 #[o.v A] w fun e w'=>e=.returned (.int .i64 (needO o.k))∧Below w.heap.size w w':=by
 obtain⟨k,T,V,R,F,m,s⟩:=o;obtain⟨ta,tn,tc,va,vn,vc,ra,rn,rc,fa,fn,fc⟩:=A;(simp only [OpL.v]);rcases op_kinds k with h|h|h|h|h|h|h|h|h|h
 ·have HO:=Hd (needO_other h);(have H:=Hd (fun j h1 h2=>not_op h j h1 h2));(have n1:=H.out 1 (by decide) (by decide));(have n2:=H.out 2 (by decide) (by decide));(have n3:=H.out 3 (by decide) (by decide));(have n4:=H.out 4 (by decide) (by decide));(have n5:=H.out 5 (by decide) (by decide));(have n6:=H.out 6 (by decide) (by decide));(have n7:=H.out 7 (by decide) (by decide));(have n8:=H.out 8 (by decide) (by decide));(have n9:=H.out 9 (by decide) (by decide));clear h;(go_enter Tryz.func89,Tryz.ntmps89);go_wp2;go_ret;exact⟨by rw [HO.out];rfl,box_below _ _⟩
 all_goals
  subst h;(go_enter Tryz.func89,Tryz.ntmps89);go_wp2;go_ret;exact⟨by rfl,box_below _ _⟩
theorem isFormula_calls (F:List PartL) (hok:∀p∈F,p.ok) (a:Option Addr) (n c:Nat) (w:World) (hv:ArgP w a n c F):Calls Tryz.prog 129 #[.slice a n c] w fun e w'=>e=.returned (.bool (decide (chkE F=0)))∧Below w.heap.size w w':=by
  have HC:=Hd (fCheck_calls F hok a n c w hv)
  clear hv hok
  obtain⟨E,hE⟩:∃E,chkE F=E:=⟨_,rfl⟩
  rw [hE] at HC ⊢
  clear hE
  have HZ:=Hd (show decide (E=0)=(E==0) by rw [Bool.eq_iff_iff];simp)
  go_enter Tryz.func129,Tryz.ntmps129
  go_wp2_with fail
  refine HC.out.mono ?_
  rintro e w1 ⟨rfl,hb1⟩
  have HB:=Hd hb1
  clear hb1
  go_wp2
  go_ret
  exact⟨by rw [HZ.out];rfl,HB.out⟩
def emptyZ (tn vn rn fn:Nat) (m:List UInt8) (s:Bool):Bool:=decide (tn=0)&&(decide (vn=0)&&decide (rn=0))&&decide (fn=0)&&m.isEmpty&&!s
theorem zero_int (n:Nat):((n:Int)==0)=decide (n=0):=by rw [Bool.eq_iff_iff];simp
theorem wrap_sum {a b:Nat} (ha:a≤maxLen) (hb:b≤maxLen):(IntKind.i64.wrap ((a:Int)+(b:Int))==0)=(decide (a=0)&&decide (b=0)):=by
 (unfold maxLen at ha hb);by_cases h:a=0∧b=0
 ·obtain⟨rfl,rfl⟩:=h;decide
 ·have h1:(decide (a=0)&&decide (b=0))=false:=by
   rw [Bool.and_eq_false_iff,decide_eq_false_iff_not,decide_eq_false_iff_not];by_cases c:a=0
   ·exact .inr (fun d=>h ⟨c,d⟩)
   ·exact .inl c
  rw [h1];refine beq_eq_false_iff_ne.2 ?_;by_cases hs:a+b<2 ^ 63
  ·rw [IntWalk.i64_in _ (by omega)];omega
  ·have:IntKind.i64.wrap ((a:Int)+(b:Int))=(a:Int)+b-2 ^ 64:=by
    (simp only [IntKind.wrap,IntKind.signed,IntKind.bits]);(simp);omega
   rw [this];omega
theorem isEmpty_calls (k:Int) (ta va ra fa:Option Addr) (tn tc vn vc rn rc fn fc:Nat) (m:List UInt8) (s:Bool) (w:World) (hv:vn≤maxLen) (hr:rn≤maxLen):Calls Tryz.prog 131 #[.agg #[.int .i64 k,.slice ta tn tc,.slice va vn vc,.slice ra rn rc,.slice fa fn fc,.string (bs m),.bool s]] w fun e w'=>e=.returned (.bool (emptyZ tn vn rn fn m s))∧Below w.heap.size w w':=by
 (have HE:=Hd (show emptyZ tn vn rn fn m s=(decide (tn=0)&&(decide (vn=0)&&decide (rn=0))&&decide (fn=0)&&m.isEmpty&&!s) from rfl));have gt:=zero_int tn;have gf:=zero_int fn;have gs:=wrap_sum hv hr;(have ge:(bs m).toList.isEmpty=m.isEmpty:=by rw [bs_toList]);clear hv hr;obtain⟨S,hS⟩:∃S,IntKind.i64.wrap ((vn:Int)+(rn:Int))=S:=⟨_,rfl⟩;rw [hS] at gs;(obtain⟨nt,hnt⟩:∃b,decide (tn=0)=b:=⟨_,rfl⟩);(obtain⟨nb,hnb⟩:∃b,(decide (vn=0)&&decide (rn=0))=b:=⟨_,rfl⟩);(obtain⟨nf,hnf⟩:∃b,decide (fn=0)=b:=⟨_,rfl⟩);obtain⟨em,hem⟩:∃b,m.isEmpty=b:=⟨_,rfl⟩;rw [hnt,hnb,hnf,hem] at HE;rw [hnt] at gt;rw [hnb] at gs;rw [hnf] at gf;rw [hem] at ge;clear hnt hnb hnf hem;cases nt with
 | false =>
   (go_enter Tryz.func131,Tryz.ntmps131);go_wp2;go_ret;exact⟨by rw [HE.out];rfl,box_below _ _⟩
 | true =>
   cases nb with
   | false =>
     (go_enter Tryz.func131,Tryz.ntmps131);go_wp2;go_ret;exact⟨by rw [HE.out];rfl,box_below _ _⟩
   | true =>
     cases nf with
     | false =>
       (go_enter Tryz.func131,Tryz.ntmps131);go_wp2;go_ret;exact⟨by rw [HE.out];rfl,box_below _ _⟩
     | true =>
       cases em with
       | false =>
         (go_enter Tryz.func131,Tryz.ntmps131);go_wp2;go_ret;exact⟨by rw [HE.out];rfl,box_below _ _⟩
       | true =>
         cases s with
         | false =>
           (go_enter Tryz.func131,Tryz.ntmps131);go_wp2;go_ret;exact⟨by rw [HE.out];rfl,box_below _ _⟩
         | true =>
           (go_enter Tryz.func131,Tryz.ntmps131);go_wp2;go_ret;exact⟨by rw [HE.out];rfl,box_below _ _⟩
theorem rightO_1 (o:OpL) (h:o.k=1):rightO o=(patsB o.T&&emptyZ 0 o.V.length o.R.length o.F.length o.m o.s):=by
  unfold rightO emptyZ;rw [if_pos h]
  cases o.V<;>cases o.R<;>cases o.F<;>simp [Bool.and_assoc]
theorem rightO_2 (o:OpL) (h:o.k=2):rightO o=(tableB o.V o.R&&emptyZ o.T.length 0 0 o.F.length o.m o.s):=by
  unfold rightO emptyZ;rw [if_neg (by omega),if_pos h]
  cases o.T<;>cases o.F<;>simp [Bool.and_assoc]
theorem rightO_3 (o:OpL) (h:o.k=3∨o.k=4∨o.k=6):rightO o=emptyZ o.T.length o.V.length o.R.length o.F.length o.m o.s:=by
  unfold rightO emptyZ;rw [if_neg (by omega),if_neg (by omega),if_pos h]
  cases o.T<;>cases o.V<;>cases o.R<;>cases o.F<;>simp
theorem chkE_nil:decide (chkE []=0)=false:=by decide
theorem formB_eq (F:List PartL):formB F=decide (chkE F=0):=by
  unfold formB
  cases F with
  | nil=>rw [chkE_nil];rfl
  | cons a b=>simp
theorem rightO_5 (o:OpL) (h:o.k=5):rightO o=((o.F.isEmpty||decide (chkE o.F=0))&&emptyZ o.T.length o.V.length o.R.length 0 o.m o.s):=by
  unfold rightO emptyZ;rw [if_neg (by omega),if_neg (by omega),if_neg (by omega),if_pos h,formB_eq]
  cases o.T<;>cases o.V<;>cases o.R<;>simp [Bool.and_assoc]
theorem rightO_7 (o:OpL) (h:o.k=7):rightO o=(decide (chkE o.F=0)&&emptyZ o.T.length o.V.length o.R.length 0 o.m o.s):=by
  unfold rightO emptyZ;rw [if_neg (by omega),if_neg (by omega),if_neg (by omega),if_neg (by omega),if_pos h,formB_eq]
  cases o.T<;>cases o.V<;>cases o.R<;>simp [Bool.and_assoc]
theorem rightO_8 (o:OpL) (h:o.k=8):rightO o=((decide (chkE o.F=0)&&nameL o.m)&&emptyZ o.T.length o.V.length o.R.length 0 [] o.s):=by
  unfold rightO emptyZ;rw [if_neg (by omega),if_neg (by omega),if_neg (by omega),if_neg (by omega),if_neg (by omega),if_pos h,formB_eq]
  cases o.T<;>cases o.V<;>cases o.R<;>simp [Bool.and_assoc]
theorem rightO_9 (o:OpL) (h:o.k=9):rightO o=(iriL o.m&&emptyZ o.T.length o.V.length o.R.length o.F.length [] false):=by
  unfold rightO emptyZ;rw [if_neg (by omega),if_neg (by omega),if_neg (by omega),if_neg (by omega),if_neg (by omega),if_neg (by omega),if_pos h]
  cases o.T<;>cases o.V<;>cases o.R<;>cases o.F<;>simp
theorem rightO_none (o:OpL) (h:o.k<1∨9<o.k):rightO o=false:=by
  unfold rightO;rw [if_neg (by omega),if_neg (by omega),if_neg (by omega),if_neg (by omega),if_neg (by omega),if_neg (by omega),if_neg (by omega)]
set_option maxHeartbeats 16000000 in
theorem oRight_calls (o:OpL) (A:OpS) (w:World) (hok:OpOk o) (hin:OpIn w o A):Calls Tryz.prog 90 #[o.v A] w fun e w'=>e=.returned (.bool (rightO o))∧Below w.heap.size w w':=by
 (have HIN:=Hd (fun ob=>hin.on (box_below w ob)));(have HCK:=Hd (fun W h=>isFormula_calls o.F hok.f A.fa A.fn A.fc W h));(have HPT:=Hd (fun W h=>arePatterns_calls o.T hok.t A.ta A.tn A.tc W h));(have HTB:=Hd (fun W h1 h2=>isTable_calls o.V o.R hok.v hok.r A.va A.ra A.vn A.vc A.rn A.rc W h1 h2));(have HNM:=Hd (fun W=>IsName_calls (bs o.m) W hok.m));(have HIR:=Hd (fun W=>Check_calls 1 (bs o.m) ⟨#[]⟩ ⟨#[]⟩ W hok.m (by decide) (by decide)));have HR1:=Hd (rightO_1 o);have HR2:=Hd (rightO_2 o);have HR3:=Hd (rightO_3 o);have HR5:=Hd (rightO_5 o);have HR7:=Hd (rightO_7 o);have HR8:=Hd (rightO_8 o);have HR9:=Hd (rightO_9 o);have HRN:=Hd (rightO_none o);rw [hin.t.len,hin.v.len,hin.r.len,hin.f.len] at *;(have HVM:=Hd (show A.vn≤maxLen from Nat.le_trans hin.v.cap hin.v.most));(have HRM:=Hd (show A.rn≤maxLen from Nat.le_trans hin.r.cap hin.r.most));have hF:=empty_len hin.f.len;clear hok hin;(simp only [bs_data] at HNM HIR);(rw [show rightL 1 o.m ([]:List UInt8) ([]:List UInt8)=iriL o.m by unfold rightL;rw [if_pos rfl];rfl] at HIR);obtain⟨pt,hpt⟩:∃b,patsB o.T=b:=⟨_,rfl⟩;obtain⟨tb,htb⟩:∃b,tableB o.V o.R=b:=⟨_,rfl⟩;obtain⟨nm,hnm⟩:∃b,nameL o.m=b:=⟨_,rfl⟩;obtain⟨ir,hir⟩:∃b,iriL o.m=b:=⟨_,rfl⟩;(obtain⟨ck,hck⟩:∃b,decide (chkE o.F=0)=b:=⟨_,rfl⟩);obtain⟨ef,hef⟩:∃b,o.F.isEmpty=b:=⟨_,rfl⟩;rw [hpt] at HPT HR1;rw [htb] at HTB HR2;rw [hnm] at HNM HR8;rw [hir] at HIR HR9;rw [hck] at HCK HR5 HR7 HR8;rw [hef] at hF HR5;clear hpt htb hnm hir hck hef;obtain⟨k,T,V,R,F,m,s⟩:=o;obtain⟨ta,tn,tc,va,vn,vc,ra,rn,rc,fa,fn,fc⟩:=A;dsimp only at HCK HPT HTB HNM HIR HR1 HR2 HR3 HR5 HR7 HR8 HR9 HRN HVM HRM hF;(have HEM:=Hd (fun k ta va ra fa tn tc vn vc rn rc fn fc m s w hv hr=>isEmpty_calls k ta va ra fa tn tc vn vc rn rc fn fc m s w hv hr));(simp only [OpL.v]);rcases op_kinds k with h|h|h|h|h|h|h|h|h|h
 ·have HO:=Hd (HRN.out h);(have H:=Hd (fun j h1 h2=>not_op h j h1 h2));(have n1:=H.out 1 (by decide) (by decide));(have n2:=H.out 2 (by decide) (by decide));(have n3:=H.out 3 (by decide) (by decide));(have n4:=H.out 4 (by decide) (by decide));(have n5:=H.out 5 (by decide) (by decide));(have n6:=H.out 6 (by decide) (by decide));(have n7:=H.out 7 (by decide) (by decide));(have n8:=H.out 8 (by decide) (by decide));(have n9:=H.out 9 (by decide) (by decide));clear h hF;(go_enter Tryz.func90,Tryz.ntmps90);go_wp2;go_ret;exact⟨by rw [HO.out];rfl,box_below _ _⟩
 ·subst h;have HO:=Hd (HR1.out rfl);clear HR1 HR2 HR3 HR5 HR7 HR8 HR9 HRN hF;cases pt with
  | false =>
    (go_enter Tryz.func90,Tryz.ntmps90);(go_wp2_with fail);refine (HPT.out _ (HIN.out _).t).mono ?_;rintro e w1 ⟨rfl,hb1⟩;have HB1:=Hd (one_box hb1);obtain⟨hc,hf⟩:=bcell hb1;(have hz:w.heap.size<w1.heap.size:=by have:=hb1.size;simp at this;omega);clear hb1;go_wp2;go_ret;exact⟨by rw [HO.out];rfl,by repeat (with_reducible (first|exact HB1.out|exact box_below _ _|refine below_set ?_ (Nat.le_refl _) _ _))⟩
  | true =>
    (go_enter Tryz.func90,Tryz.ntmps90);(go_wp2_with fail);refine (HPT.out _ (HIN.out _).t).mono ?_;rintro e w1 ⟨rfl,hb1⟩;have HB1:=Hd (one_box hb1);obtain⟨hc,hf⟩:=bcell hb1;(have hz:w.heap.size<w1.heap.size:=by have:=hb1.size;simp at this;omega);clear hb1;(go_wp2_with fail);refine (HEM.out 1 none va ra fa 0 0 vn vc rn rc fn fc m s _ (HVM.out) (HRM.out)).mono ?_;rintro e w2 ⟨rfl,hb2⟩;have HB2:=Hd hb2;clear hb2;go_wp2;go_ret;refine⟨by rw [HO.out];rfl,Below.trans ?_ (HB2.out.mono ?_)⟩
    ·repeat (with_reducible (first|exact HB1.out|exact box_below _ _|refine below_set ?_ (Nat.le_refl _) _ _))
    ·have:=HB1.out.size;(try simp);omega
 ·subst h;have HO:=Hd (HR2.out rfl);clear HR1 HR2 HR3 HR5 HR7 HR8 HR9 HRN hF;cases tb with
  | false =>
    (go_enter Tryz.func90,Tryz.ntmps90);(go_wp2_with fail);refine (HTB.out _ (HIN.out _).v (HIN.out _).r).mono ?_;rintro e w1 ⟨rfl,hb1⟩;have HB1:=Hd (one_box hb1);obtain⟨hc,hf⟩:=bcell hb1;(have hz:w.heap.size<w1.heap.size:=by have:=hb1.size;simp at this;omega);clear hb1;go_wp2;go_ret;exact⟨by rw [HO.out];rfl,by repeat (with_reducible (first|exact HB1.out|exact box_below _ _|refine below_set ?_ (Nat.le_refl _) _ _))⟩
  | true =>
    (go_enter Tryz.func90,Tryz.ntmps90);(go_wp2_with fail);refine (HTB.out _ (HIN.out _).v (HIN.out _).r).mono ?_;rintro e w1 ⟨rfl,hb1⟩;have HB1:=Hd (one_box hb1);obtain⟨hc,hf⟩:=bcell hb1;(have hz:w.heap.size<w1.heap.size:=by have:=hb1.size;simp at this;omega);clear hb1;(go_wp2_with fail);refine (HEM.out 2 ta none none fa tn tc 0 0 0 0 fn fc m s _ (Nat.zero_le _) (Nat.zero_le _)).mono ?_;rintro e w2 ⟨rfl,hb2⟩;have HB2:=Hd hb2;clear hb2;go_wp2;go_ret;refine⟨by rw [HO.out];rfl,Below.trans ?_ (HB2.out.mono ?_)⟩
    ·repeat (with_reducible (first|exact HB1.out|exact box_below _ _|refine below_set ?_ (Nat.le_refl _) _ _))
    ·have:=HB1.out.size;(try simp);omega
 ·subst h;have HO:=Hd (HR3.out (.inl rfl));clear HR1 HR2 HR3 HR5 HR7 HR8 HR9 HRN hF;(go_enter Tryz.func90,Tryz.ntmps90);(go_wp2_with fail);refine (HEM.out 3 ta va ra fa tn tc vn vc rn rc fn fc m s _ (HVM.out) (HRM.out)).mono ?_;rintro e w2 ⟨rfl,hb2⟩;have HB2:=Hd hb2;clear hb2;go_wp2;go_ret;refine⟨by rw [HO.out];rfl,Below.trans ?_ (HB2.out.mono ?_)⟩
  ·repeat (with_reducible (first|exact HB1.out|exact box_below _ _|refine below_set ?_ (Nat.le_refl _) _ _))
  ·(try simp)
 ·subst h;have HO:=Hd (HR3.out (.inr (.inl rfl)));clear HR1 HR2 HR3 HR5 HR7 HR8 HR9 HRN hF;(go_enter Tryz.func90,Tryz.ntmps90);(go_wp2_with fail);refine (HEM.out 4 ta va ra fa tn tc vn vc rn rc fn fc m s _ (HVM.out) (HRM.out)).mono ?_;rintro e w2 ⟨rfl,hb2⟩;have HB2:=Hd hb2;clear hb2;go_wp2;go_ret;refine⟨by rw [HO.out];rfl,Below.trans ?_ (HB2.out.mono ?_)⟩
  ·repeat (with_reducible (first|exact HB1.out|exact box_below _ _|refine below_set ?_ (Nat.le_refl _) _ _))
  ·(try simp)
 ·subst h;have HO:=Hd (HR5.out rfl);clear HR1 HR2 HR3 HR5 HR7 HR8 HR9 HRN;cases ef with
  | true =>
    (go_enter Tryz.func90,Tryz.ntmps90);(go_wp2_with fail);refine (HEM.out 5 ta va ra none tn tc vn vc rn rc 0 0 m s _ (HVM.out) (HRM.out)).mono ?_;rintro e w2 ⟨rfl,hb2⟩;have HB2:=Hd hb2;clear hb2;go_wp2;go_ret;refine⟨by rw [HO.out];rfl,Below.trans ?_ (HB2.out.mono ?_)⟩
    ·repeat (with_reducible (first|exact HB1.out|exact box_below _ _|refine below_set ?_ (Nat.le_refl _) _ _))
    ·(try simp)
  | false =>
    cases ck with
    | false =>
      (go_enter Tryz.func90,Tryz.ntmps90);(go_wp2_with fail);refine (HCK.out _ (HIN.out _).f).mono ?_;rintro e w1 ⟨rfl,hb1⟩;have HB1:=Hd (one_box hb1);obtain⟨hc,hf⟩:=bcell hb1;(have hz:w.heap.size<w1.heap.size:=by have:=hb1.size;simp at this;omega);clear hb1;go_wp2;go_ret;exact⟨by rw [HO.out];rfl,by repeat (with_reducible (first|exact HB1.out|exact box_below _ _|refine below_set ?_ (Nat.le_refl _) _ _))⟩
    | true =>
      (go_enter Tryz.func90,Tryz.ntmps90);(go_wp2_with fail);refine (HCK.out _ (HIN.out _).f).mono ?_;rintro e w1 ⟨rfl,hb1⟩;have HB1:=Hd (one_box hb1);obtain⟨hc,hf⟩:=bcell hb1;(have hz:w.heap.size<w1.heap.size:=by have:=hb1.size;simp at this;omega);clear hb1;(go_wp2_with fail);refine (HEM.out 5 ta va ra none tn tc vn vc rn rc 0 0 m s _ (HVM.out) (HRM.out)).mono ?_;rintro e w2 ⟨rfl,hb2⟩;have HB2:=Hd hb2;clear hb2;go_wp2;go_ret;refine⟨by rw [HO.out];rfl,Below.trans ?_ (HB2.out.mono ?_)⟩
      ·repeat (with_reducible (first|exact HB1.out|exact box_below _ _|refine below_set ?_ (Nat.le_refl _) _ _))
      ·have:=HB1.out.size;(try simp);omega
 ·subst h;have HO:=Hd (HR3.out (.inr (.inr rfl)));clear HR1 HR2 HR3 HR5 HR7 HR8 HR9 HRN hF;(go_enter Tryz.func90,Tryz.ntmps90);(go_wp2_with fail);refine (HEM.out 6 ta va ra fa tn tc vn vc rn rc fn fc m s _ (HVM.out) (HRM.out)).mono ?_;rintro e w2 ⟨rfl,hb2⟩;have HB2:=Hd hb2;clear hb2;go_wp2;go_ret;refine⟨by rw [HO.out];rfl,Below.trans ?_ (HB2.out.mono ?_)⟩
  ·repeat (with_reducible (first|exact HB1.out|exact box_below _ _|refine below_set ?_ (Nat.le_refl _) _ _))
  ·(try simp)
 ·subst h;have HO:=Hd (HR7.out rfl);clear HR1 HR2 HR3 HR5 HR7 HR8 HR9 HRN hF;cases ck with
  | false =>
    (go_enter Tryz.func90,Tryz.ntmps90);(go_wp2_with fail);refine (HCK.out _ (HIN.out _).f).mono ?_;rintro e w1 ⟨rfl,hb1⟩;have HB1:=Hd (one_box hb1);obtain⟨hc,hf⟩:=bcell hb1;(have hz:w.heap.size<w1.heap.size:=by have:=hb1.size;simp at this;omega);clear hb1;go_wp2;go_ret;exact⟨by rw [HO.out];rfl,by repeat (with_reducible (first|exact HB1.out|exact box_below _ _|refine below_set ?_ (Nat.le_refl _) _ _))⟩
  | true =>
    (go_enter Tryz.func90,Tryz.ntmps90);(go_wp2_with fail);refine (HCK.out _ (HIN.out _).f).mono ?_;rintro e w1 ⟨rfl,hb1⟩;have HB1:=Hd (one_box hb1);obtain⟨hc,hf⟩:=bcell hb1;(have hz:w.heap.size<w1.heap.size:=by have:=hb1.size;simp at this;omega);clear hb1;(go_wp2_with fail);refine (HEM.out 7 ta va ra none tn tc vn vc rn rc 0 0 m s _ (HVM.out) (HRM.out)).mono ?_;rintro e w2 ⟨rfl,hb2⟩;have HB2:=Hd hb2;clear hb2;go_wp2;go_ret;refine⟨by rw [HO.out];rfl,Below.trans ?_ (HB2.out.mono ?_)⟩
    ·repeat (with_reducible (first|exact HB1.out|exact box_below _ _|refine below_set ?_ (Nat.le_refl _) _ _))
    ·have:=HB1.out.size;(try simp);omega
 ·subst h;have HO:=Hd (HR8.out rfl);clear HR1 HR2 HR3 HR5 HR7 HR8 HR9 HRN hF;cases ck with
  | false =>
    (go_enter Tryz.func90,Tryz.ntmps90);(go_wp2_with fail);refine (HCK.out _ (HIN.out _).f).mono ?_;rintro e w1 ⟨rfl,hb1⟩;have HB1:=Hd (one_box hb1);obtain⟨hc,hf⟩:=bcell hb1;(have hz:w.heap.size<w1.heap.size:=by have:=hb1.size;simp at this;omega);clear hb1;go_wp2;go_ret;exact⟨by rw [HO.out];rfl,by repeat (with_reducible (first|exact HB1.out|exact box_below _ _|refine below_set ?_ (Nat.le_refl _) _ _))⟩
  | true =>
    cases nm with
    | false =>
      (go_enter Tryz.func90,Tryz.ntmps90);(go_wp2_with fail);refine (HCK.out _ (HIN.out _).f).mono ?_;rintro e w1 ⟨rfl,hb1⟩;have HB1:=Hd (one_box hb1);obtain⟨hc,hf⟩:=bcell hb1;(have hz:w.heap.size<w1.heap.size:=by have:=hb1.size;simp at this;omega);clear hb1;(go_wp2_with fail);refine (HNM.out _).mono ?_;rintro e w3 ⟨rfl,hb3⟩;have HB3:=Hd (HB1.out.trans (hb3.mono HB1.out.size));obtain⟨hc3,hf3⟩:=bcell hb3;have hz3:w.heap.size<w3.heap.size:=Nat.lt_of_lt_of_le hz hb3.size;clear hb3;go_wp2;go_ret;exact⟨by rw [HO.out];rfl,by repeat (with_reducible (first|exact HB3.out|exact box_below _ _|refine below_set ?_ (Nat.le_refl _) _ _))⟩
    | true =>
      (go_enter Tryz.func90,Tryz.ntmps90);(go_wp2_with fail);refine (HCK.out _ (HIN.out _).f).mono ?_;rintro e w1 ⟨rfl,hb1⟩;have HB1:=Hd (one_box hb1);obtain⟨hc,hf⟩:=bcell hb1;(have hz:w.heap.size<w1.heap.size:=by have:=hb1.size;simp at this;omega);clear hb1;(go_wp2_with fail);refine (HNM.out _).mono ?_;rintro e w3 ⟨rfl,hb3⟩;have HB3:=Hd (HB1.out.trans (hb3.mono HB1.out.size));obtain⟨hc3,hf3⟩:=bcell hb3;have hz3:w.heap.size<w3.heap.size:=Nat.lt_of_lt_of_le hz hb3.size;clear hb3;(go_wp2_with fail);refine (HEM.out 8 ta va ra none tn tc vn vc rn rc 0 0 [] s _ (HVM.out) (HRM.out)).mono ?_;rintro e w2 ⟨rfl,hb2⟩;have HB2:=Hd hb2;clear hb2;go_wp2;go_ret;refine⟨by rw [HO.out];rfl,Below.trans ?_ (HB2.out.mono ?_)⟩
      ·repeat (with_reducible (first|exact HB3.out|exact box_below _ _|refine below_set ?_ (Nat.le_refl _) _ _))
      ·have:=HB3.out.size;(try simp);omega
 ·subst h;have HO:=Hd (HR9.out rfl);clear HR1 HR2 HR3 HR5 HR7 HR8 HR9 HRN hF;cases ir with
  | false =>
    (have e0:formZ false=2:=rfl);rw [e0] at HIR;clear e0;(go_enter Tryz.func90,Tryz.ntmps90);(go_wp2_with fail);refine (HIR.out _).mono ?_;rintro e w1 ⟨rfl,hb1⟩;have HB1:=Hd (one_box hb1);obtain⟨hc,hf⟩:=bcell hb1;(have hz:w.heap.size<w1.heap.size:=by have:=hb1.size;simp at this;omega);clear hb1;go_wp2;go_ret;exact⟨by rw [HO.out];rfl,by repeat (with_reducible (first|exact HB1.out|exact box_below _ _|refine below_set ?_ (Nat.le_refl _) _ _))⟩
  | true =>
    (have e0:formZ true=0:=rfl);rw [e0] at HIR;clear e0;(go_enter Tryz.func90,Tryz.ntmps90);(go_wp2_with fail);refine (HIR.out _).mono ?_;rintro e w1 ⟨rfl,hb1⟩;have HB1:=Hd (one_box hb1);obtain⟨hc,hf⟩:=bcell hb1;(have hz:w.heap.size<w1.heap.size:=by have:=hb1.size;simp at this;omega);clear hb1;(go_wp2_with fail);refine (HEM.out 9 ta va ra fa tn tc vn vc rn rc fn fc [] false _ (HVM.out) (HRM.out)).mono ?_;rintro e w2 ⟨rfl,hb2⟩;have HB2:=Hd hb2;clear hb2;go_wp2;go_ret;refine⟨by rw [HO.out];rfl,Below.trans ?_ (HB2.out.mono ?_)⟩
    ·repeat (with_reducible (first|exact HB1.out|exact box_below _ _|refine below_set ?_ (Nat.le_refl _) _ _))
    ·have:=HB1.out.size;(try simp);omega
end
end Go.Proofs.YtjpfoophipcglaaGreatDoor
