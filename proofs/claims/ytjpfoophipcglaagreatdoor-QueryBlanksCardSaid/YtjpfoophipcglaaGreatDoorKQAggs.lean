/- Is there a text, an aggregate, a key of which a function says yes?. -/
import Derived.Test.YtjpfoophipcglaaGreatDoorKQArgs
import Derived.Laws.MakeOwn
import Derived.OwnWalk
namespace Go.Proofs.YtjpfoophipcglaaGreatDoor
set_option maxRecDepth 100000
set_option maxHeartbeats 8000000
section
open Go.RowKit
open Go.Shelf
def AggL.v (g:AggL):Value:=.agg #[.int .i64 g.k,.string (bs g.o),.string (bs g.m)]
def KeyL.v (k:KeyL):Value:=.agg #[.string (bs k.m),.bool k.d]
theorem Agg3.on {w w':World} {g j B:Nat} {x:AggL} (h:Agg3 w g j x) (hb:Below B w w') (hg:g<B):Agg3 w' g j x :=
  ⟨kpB hb hg h.1,kpB hb hg h.2.1,kpB hb hg h.2.2⟩
theorem Key2.on {w w':World} {g j B:Nat} {x:KeyL} (h:Key2 w g j x) (hb:Below B w w') (hg:g<B):Key2 w' g j x :=
  ⟨kpB hb hg h.1,kpB hb hg h.2⟩
theorem idxQ_calls (L:List (List UInt8)) (p:(List UInt8)→Bool) (gf:Nat) (lb:Array Value) (eg:∀args w,(callFunc gf args).run Tryz.prog w=.ok (.enter gf args) w) (a:Option Addr) (n c:Nat) (w:World) (hv:TxtA w a n c L) (hp:∀W (j:Nat) (h:j<L.length),Below w.heap.size w W→Calls Tryz.prog gf (#[.string (bs L[j])]++lb) W fun e w'=>e=.returned (.bool (p L[j]))∧Below W.heap.size W w'):Calls Tryz.prog 136 #[.slice a n c,.func (.func gf) #[] lb] w fun e w'=>∃r:Int,e=.returned (.int .i64 r)∧decide (0≤r)=L.any p∧Below w.heap.size w w':=by
 have HV:=Hd hv;have HP:=Hd hp;have HL:=Hd hv.len;have hcp:=hv.cap;have hms:=hv.most;(unfold maxLen at hms);clear hv hp;(go_enter Tryz.func136,Tryz.ntmps136);go_wp2;go_loopg [5,8] n (fun g _ i wr=>∃k:Nat,i=.int .i64 k∧k+g=n∧Hid ((L.take k).any p=false)∧Hid (Below w.heap.size w wr))
 case atStart=>exact⟨0,rfl,by omega,Hd rfl,Hd (Below.refl _ _)⟩
 case round =>
  obtain⟨W1,rfl⟩:∃W1,W1=wr:=⟨_,rfl⟩;obtain⟨k,rfl,hkg,HR,HB⟩:=hrel;by_cases hk:k<n
  ·(have hkL:k<L.length:=by rw [HL.out];exact hk);(obtain⟨gg,rfl⟩:∃gg,gk=gg+1:=⟨gk-1,by omega⟩);(obtain⟨g,o,ha,hgw,hcells⟩:=HV.out.cells (by omega));subst ha;have hgW:g<W1.heap.size:=Nat.lt_of_lt_of_le hgw HB.out.size;have c0:=kpB HB.out hgw (hcells k hkL);have HC:=Hd (HP.out W1 k hkL HB.out);(have HHIT:=Hd (fun h1=>anyN_hit (p:=p) hkL h1));(have HNX:=Hd (fun h1=>anyN_next (p:=p) HR.out hkL h1));clear hcells;generalize L[k]=y at c0 HC HHIT HNX;(have k0:(0:Int)≤(k:Int):=by omega);(have k1:(k:Int)<(n:Int):=by omega);cases hq:p y with
   | true =>
     rw [hq] at HC HNX HHIT;have HE:=Hd (HHIT.out rfl);clear HNX HHIT hq;(go_wp2_with (go_at_fn gf;refine HC.out.mono ?_;rintro e w2 ⟨rfl,hb2⟩;have HB2:=Hd (HB.out.trans (hb2.mono HB.out.size));clear hb2));go_ret;exact⟨k,rfl,by rw [HE.out];exact decide_eq_true k0,HB2.out⟩
   | false =>
     rw [hq] at HC HNX HHIT;have HN2:=Hd (HNX.out rfl);clear HNX HHIT hq;(go_wp2_with (go_at_fn gf;refine HC.out.mono ?_;rintro e w2 ⟨rfl,hb2⟩;have HB2:=Hd (HB.out.trans (hb2.mono HB.out.size));clear hb2));go_roundg gg
     case measure=>omega
     case rel=>exact⟨k+1,by go_num,by omega,HN2,HB2⟩
  ·(have HE:=Hd (anyN_end HR.out (by rw [HL.out];omega)));(have k1:¬(k:Int)<(n:Int):=by omega);go_wp2;go_ret;exact⟨-1,rfl,by rw [HE.out];rfl,HB.out⟩
theorem hasQ_calls (L:List (List UInt8)) (p:(List UInt8)→Bool) (gf:Nat) (lb:Array Value) (eg:∀args w,(callFunc gf args).run Tryz.prog w=.ok (.enter gf args) w) (a:Option Addr) (n c:Nat) (w:World) (hv:TxtA w a n c L) (hp:∀W (j:Nat) (h:j<L.length),Below w.heap.size w W→Calls Tryz.prog gf (#[.string (bs L[j])]++lb) W fun e w'=>e=.returned (.bool (p L[j]))∧Below W.heap.size W w'):Calls Tryz.prog 97 #[.slice a n c,.func (.func gf) #[] lb] w fun e w'=>e=.returned (.bool (L.any p))∧Below w.heap.size w w':=by
 have HC:=Hd (idxQ_calls L p gf lb eg a n c w hv hp);clear hv hp;(go_enter Tryz.func97,Tryz.ntmps97);(go_wp2_with (go_at_call 136;refine HC.out.mono ?_;rintro e w2 ⟨r,rfl,hr,hb2⟩;have HR:=Hd hr;clear hr));go_ret;exact⟨by rw [←HR.out];rfl,hb2⟩
theorem idxG_calls (L:List AggL) (p:AggL→Bool) (gf:Nat) (lb:Array Value) (eg:∀args w,(callFunc gf args).run Tryz.prog w=.ok (.enter gf args) w) (a:Option Addr) (n c:Nat) (w:World) (hv:AgA w a n c L) (hp:∀W (j:Nat) (h:j<L.length),Below w.heap.size w W→Calls Tryz.prog gf (#[L[j].v]++lb) W fun e w'=>e=.returned (.bool (p L[j]))∧Below W.heap.size W w'):Calls Tryz.prog 100 #[.slice a n c,.func (.func gf) #[] lb] w fun e w'=>∃r:Int,e=.returned (.int .i64 r)∧decide (0≤r)=L.any p∧Below w.heap.size w w':=by
 have HV:=Hd hv;have HP:=Hd hp;have HL:=Hd hv.len;have hcp:=hv.cap;have hms:=hv.most;(unfold maxLen at hms);clear hv hp;(go_enter Tryz.func100,Tryz.ntmps100);go_wp2;go_loopg [5,8] n (fun g _ i wr=>∃k:Nat,i=.int .i64 k∧k+g=n∧Hid ((L.take k).any p=false)∧Hid (Below w.heap.size w wr))
 case atStart=>exact⟨0,rfl,by omega,Hd rfl,Hd (Below.refl _ _)⟩
 case round =>
  obtain⟨W1,rfl⟩:∃W1,W1=wr:=⟨_,rfl⟩;obtain⟨k,rfl,hkg,HR,HB⟩:=hrel;by_cases hk:k<n
  ·(have hkL:k<L.length:=by rw [HL.out];exact hk);(obtain⟨gg,rfl⟩:∃gg,gk=gg+1:=⟨gk-1,by omega⟩);(obtain⟨g,o,ha,hgw,hcells⟩:=HV.out.cells (by omega));subst ha;have hgW:g<W1.heap.size:=Nat.lt_of_lt_of_le hgw HB.out.size;obtain⟨c0,c1,c2⟩:=(hcells k hkL).on HB.out hgw;have HC:=Hd (HP.out W1 k hkL HB.out);(have HHIT:=Hd (fun h1=>anyN_hit (p:=p) hkL h1));(have HNX:=Hd (fun h1=>anyN_next (p:=p) HR.out hkL h1));clear hcells;generalize L[k]=y at c0 c1 c2 HC HHIT HNX;(simp only [AggL.v] at HC);(have k0:(0:Int)≤(k:Int):=by omega);(have k1:(k:Int)<(n:Int):=by omega);cases hq:p y with
   | true =>
     rw [hq] at HC HNX HHIT;have HE:=Hd (HHIT.out rfl);clear HNX HHIT hq;(go_wp2_with (go_at_fn gf;refine HC.out.mono ?_;rintro e w2 ⟨rfl,hb2⟩;have HB2:=Hd (HB.out.trans (hb2.mono HB.out.size));clear hb2));go_ret;exact⟨k,rfl,by rw [HE.out];exact decide_eq_true k0,HB2.out⟩
   | false =>
     rw [hq] at HC HNX HHIT;have HN2:=Hd (HNX.out rfl);clear HNX HHIT hq;(go_wp2_with (go_at_fn gf;refine HC.out.mono ?_;rintro e w2 ⟨rfl,hb2⟩;have HB2:=Hd (HB.out.trans (hb2.mono HB.out.size));clear hb2));go_roundg gg
     case measure=>omega
     case rel=>exact⟨k+1,by go_num,by omega,HN2,HB2⟩
  ·(have HE:=Hd (anyN_end HR.out (by rw [HL.out];omega)));(have k1:¬(k:Int)<(n:Int):=by omega);go_wp2;go_ret;exact⟨-1,rfl,by rw [HE.out];rfl,HB.out⟩
theorem hasG_calls (L:List AggL) (p:AggL→Bool) (gf:Nat) (lb:Array Value) (eg:∀args w,(callFunc gf args).run Tryz.prog w=.ok (.enter gf args) w) (a:Option Addr) (n c:Nat) (w:World) (hv:AgA w a n c L) (hp:∀W (j:Nat) (h:j<L.length),Below w.heap.size w W→Calls Tryz.prog gf (#[L[j].v]++lb) W fun e w'=>e=.returned (.bool (p L[j]))∧Below W.heap.size W w'):Calls Tryz.prog 51 #[.slice a n c,.func (.func gf) #[] lb] w fun e w'=>e=.returned (.bool (L.any p))∧Below w.heap.size w w':=by
 have HC:=Hd (idxG_calls L p gf lb eg a n c w hv hp);clear hv hp;(go_enter Tryz.func51,Tryz.ntmps51);(go_wp2_with (go_at_call 100;refine HC.out.mono ?_;rintro e w2 ⟨r,rfl,hr,hb2⟩;have HR:=Hd hr;clear hr));go_ret;exact⟨by rw [←HR.out];rfl,hb2⟩
theorem idxK_calls (L:List KeyL) (p:KeyL→Bool) (gf:Nat) (lb:Array Value) (eg:∀args w,(callFunc gf args).run Tryz.prog w=.ok (.enter gf args) w) (a:Option Addr) (n c:Nat) (w:World) (hv:KyA w a n c L) (hp:∀W (j:Nat) (h:j<L.length),Below w.heap.size w W→Calls Tryz.prog gf (#[L[j].v]++lb) W fun e w'=>e=.returned (.bool (p L[j]))∧Below W.heap.size W w'):Calls Tryz.prog 101 #[.slice a n c,.func (.func gf) #[] lb] w fun e w'=>∃r:Int,e=.returned (.int .i64 r)∧decide (0≤r)=L.any p∧Below w.heap.size w w':=by
 have HV:=Hd hv;have HP:=Hd hp;have HL:=Hd hv.len;have hcp:=hv.cap;have hms:=hv.most;(unfold maxLen at hms);clear hv hp;(go_enter Tryz.func101,Tryz.ntmps101);go_wp2;go_loopg [5,8] n (fun g _ i wr=>∃k:Nat,i=.int .i64 k∧k+g=n∧Hid ((L.take k).any p=false)∧Hid (Below w.heap.size w wr))
 case atStart=>exact⟨0,rfl,by omega,Hd rfl,Hd (Below.refl _ _)⟩
 case round =>
  obtain⟨W1,rfl⟩:∃W1,W1=wr:=⟨_,rfl⟩;obtain⟨k,rfl,hkg,HR,HB⟩:=hrel;by_cases hk:k<n
  ·(have hkL:k<L.length:=by rw [HL.out];exact hk);(obtain⟨gg,rfl⟩:∃gg,gk=gg+1:=⟨gk-1,by omega⟩);(obtain⟨g,o,ha,hgw,hcells⟩:=HV.out.cells (by omega));subst ha;have hgW:g<W1.heap.size:=Nat.lt_of_lt_of_le hgw HB.out.size;obtain⟨c0,c1⟩:=(hcells k hkL).on HB.out hgw;have HC:=Hd (HP.out W1 k hkL HB.out);(have HHIT:=Hd (fun h1=>anyN_hit (p:=p) hkL h1));(have HNX:=Hd (fun h1=>anyN_next (p:=p) HR.out hkL h1));clear hcells;generalize L[k]=y at c0 c1 HC HHIT HNX;(simp only [KeyL.v] at HC);(have k0:(0:Int)≤(k:Int):=by omega);(have k1:(k:Int)<(n:Int):=by omega);cases hq:p y with
   | true =>
     rw [hq] at HC HNX HHIT;have HE:=Hd (HHIT.out rfl);clear HNX HHIT hq;(go_wp2_with (go_at_fn gf;refine HC.out.mono ?_;rintro e w2 ⟨rfl,hb2⟩;have HB2:=Hd (HB.out.trans (hb2.mono HB.out.size));clear hb2));go_ret;exact⟨k,rfl,by rw [HE.out];exact decide_eq_true k0,HB2.out⟩
   | false =>
     rw [hq] at HC HNX HHIT;have HN2:=Hd (HNX.out rfl);clear HNX HHIT hq;(go_wp2_with (go_at_fn gf;refine HC.out.mono ?_;rintro e w2 ⟨rfl,hb2⟩;have HB2:=Hd (HB.out.trans (hb2.mono HB.out.size));clear hb2));go_roundg gg
     case measure=>omega
     case rel=>exact⟨k+1,by go_num,by omega,HN2,HB2⟩
  ·(have HE:=Hd (anyN_end HR.out (by rw [HL.out];omega)));(have k1:¬(k:Int)<(n:Int):=by omega);go_wp2;go_ret;exact⟨-1,rfl,by rw [HE.out];rfl,HB.out⟩
theorem hasK_calls (L:List KeyL) (p:KeyL→Bool) (gf:Nat) (lb:Array Value) (eg:∀args w,(callFunc gf args).run Tryz.prog w=.ok (.enter gf args) w) (a:Option Addr) (n c:Nat) (w:World) (hv:KyA w a n c L) (hp:∀W (j:Nat) (h:j<L.length),Below w.heap.size w W→Calls Tryz.prog gf (#[L[j].v]++lb) W fun e w'=>e=.returned (.bool (p L[j]))∧Below W.heap.size W w'):Calls Tryz.prog 52 #[.slice a n c,.func (.func gf) #[] lb] w fun e w'=>e=.returned (.bool (L.any p))∧Below w.heap.size w w':=by
 have HC:=Hd (idxK_calls L p gf lb eg a n c w hv hp);clear hv hp;(go_enter Tryz.func52,Tryz.ntmps52);(go_wp2_with (go_at_call 101;refine HC.out.mono ?_;rintro e w2 ⟨r,rfl,hr,hb2⟩;have HR:=Hd hr;clear hr));go_ret;exact⟨by rw [←HR.out];rfl,hb2⟩
end
section
open Go.RowKit
theorem areNames_calls (V:List (List UInt8)) (hx:∀x∈V,(bs x).size≤maxLen) (a:Option Addr) (n c:Nat) (w:World) (hV:TxtA w a n c V):Calls Tryz.prog 40 #[.slice a n c] w fun e w'=>e=.returned (.bool (namesQ V))∧Below w.heap.size w w':=by
 have HV:=Hd hV;have HX:=Hd hx;have HVL:=Hd hV.len;have hvc:=hV.cap;have hvm:=hV.most;(unfold maxLen at hvm);clear hV hx;by_cases h32:32<n
 ·(have HE:=Hd (show namesQ V=false from by unfold namesQ;rw [decide_eq_false (by have:=HVL.out;omega)];rfl));(have g1:(32:Int)<(n:Int):=by omega);(go_enter Tryz.func40,Tryz.ntmps40);go_wp2;go_ret;exact⟨by rw [HE.out];rfl,Below.refl _ _⟩
 (have g1:¬(32:Int)<(n:Int):=by omega);(have HNQ:=Hd (show namesQ V=namesB [] V from by unfold namesQ;rw [decide_eq_true (by have:=HVL.out;omega)];rfl));(go_enter Tryz.func40,Tryz.ntmps40);go_wp2;go_loopg [3,4,10] n (fun g _ _ i wr=>∃k:Nat,i=.int .i64 k∧k+g=n∧Hid (NamesR V k)∧Hid (Below w.heap.size w wr))
 case atStart=>exact⟨0,rfl,by omega,Hd (names_start V),Hd (Below.refl _ _)⟩
 case round =>
  obtain⟨W1,rfl⟩:∃W1,W1=wr:=⟨_,rfl⟩;obtain⟨k,rfl,hkg,HN,HBW⟩:=hrel;by_cases hk:k<n
  ·(obtain⟨gg,rfl⟩:∃gg,gk=gg+1:=⟨gk-1,by omega⟩);(have hkL:k<V.length:=by rw [HVL.out];exact hk);(obtain⟨g,o,ha,hgw,hcells⟩:=HV.out.cells (by omega));subst ha;have hgW:g<W1.heap.size:=Nat.lt_of_lt_of_le hgw HBW.out.size;have c0:=kpB HBW.out hgw (hcells k hkL);(have HNX:=Hd (fun h1 h2=>names_next HN.out hkL h1 h2));(have HST:=Hd (fun h1=>names_stop HN.out hkL h1));(have HNM:=Hd (fun W=>IsName_calls (bs V[k]) W (HX.out _ (List.getElem_mem hkL))));(have HIN:=Hd (fun W h=>conA_calls (V.take k) V[k] g o k c W h));have HTK:=Hd (HV.out.cut (Nat.le_of_lt hk));(simp only [bs_data] at HNM);clear hcells;generalize V[k]=y at c0 HNX HST HNM HIN;(have hb1:nameL y=true∨nameL y=false:=by cases nameL y<;>simp);(have hk0:(0:Int)≤(k:Int):=by omega);(have hkn:(k:Int)<(n:Int):=by omega);rcases hb1 with hb1|hb1
   ·rw [hb1] at HNM;by_cases hin:y∈V.take k
    ·rw [decide_eq_true hin] at HIN;(have HE:=Hd (HST.out (fun c=>c.2 hin)));clear HNX HST hin hb1;(go_wp2_with fail);refine (HNM.out _).mono ?_;rintro e w2 ⟨rfl,hb2⟩;have HB2:=Hd (HBW.out.trans (hb2.mono HBW.out.size));clear hb2;(go_wp2_with fail);refine (HIN.out _ (HTK.out.on HB2.out)).mono ?_;rintro e w3 ⟨rfl,hw3⟩;subst hw3;go_wp2;go_ret;exact⟨by rw [HNQ.out,HE.out];rfl,HB2.out⟩
    ·rw [decide_eq_false hin] at HIN;have HN2:=Hd (HNX.out hb1 hin);clear HNX HST hin hb1;(go_wp2_with fail);refine (HNM.out _).mono ?_;rintro e w2 ⟨rfl,hb2⟩;have HB2:=Hd (HBW.out.trans (hb2.mono HBW.out.size));clear hb2;(go_wp2_with fail);refine (HIN.out _ (HTK.out.on HB2.out)).mono ?_;rintro e w3 ⟨rfl,hw3⟩;subst hw3;go_wp2;go_roundg gg
     case measure=>omega
     case rel=>exact⟨k+1,by go_num,by omega,HN2,HB2⟩
   ·rw [hb1] at HNM;(have HE:=Hd (HST.out (fun c=>by rw [hb1] at c;exact absurd c.1 (by decide))));clear HNX HST hb1;(go_wp2_with fail);refine (HNM.out _).mono ?_;rintro e w2 ⟨rfl,hb2⟩;have HB2:=Hd (HBW.out.trans (hb2.mono HBW.out.size));clear hb2;go_wp2;go_ret;exact⟨by rw [HNQ.out,HE.out];rfl,HB2.out⟩
  ·(have HNA:=Hd (names_end HN.out (by rw [HVL.out];omega)));(have k1:¬(k:Int)<(n:Int):=by omega);go_wp2;go_ret;exact⟨by rw [HNQ.out,HNA.out];rfl,HBW.out⟩
theorem keys1_calls (k:KeyL) (hx:(bs k.m).size≤maxLen) (w:World):Calls Tryz.prog 95 #[k.v] w fun e w'=>e=.returned (.bool (!nameL k.m))∧Below w.heap.size w w':=by
  have HNM:=Hd (fun W=>IsName_calls (bs k.m) W hx)
  simp only [bs_data] at HNM
  obtain⟨km,kd⟩:=k
  simp only [KeyL.v]
  dsimp only at HNM ⊢
  generalize nameL km=z at HNM
  clear hx
  go_enter Tryz.func95,Tryz.ntmps95
  go_wp2_with fail
  refine (HNM.out _).mono ?_
  rintro e w2 ⟨rfl,hb2⟩
  have HB2:=Hd ((box_below w _).trans (hb2.mono (by simp)))
  clear hb2
  go_wp2
  go_ret
  exact⟨rfl,HB2.out⟩
theorem areKeys_calls (O:List KeyL) (hx:∀k∈O,(bs k.m).size≤maxLen) (a:Option Addr) (n c:Nat) (w:World) (hV:KyA w a n c O):Calls Tryz.prog 42 #[.slice a n c] w fun e w'=>e=.returned (.bool (keysQ O))∧Below w.heap.size w w':=by
 (have eg:∀args w,(callFunc 95 args).run Tryz.prog w=.ok (.enter 95 args) w:=enters_of Tryz.func95 (by kernel_rfl) rfl);(have HC:=Hd (hasK_calls O (fun k=>!nameL k.m) 95 #[] eg a n c w hV (fun W j hj _=>keys1_calls O[j] (hx _ (List.getElem_mem hj)) W)));(have HA:=Hd (all_any (fun k:KeyL=>nameL k.m) O));have HL:=Hd hV.len;have hcp:=hV.cap;have hms:=hV.most;(unfold maxLen at hms);clear hV hx eg;by_cases h32:n≤32
 ·(have HE:=Hd (show keysQ O=!(O.any fun k=>!nameL k.m) from by unfold keysQ;rw [decide_eq_true (by have:=HL.out;omega),HA.out];rfl));(have g1:(n:Int)≤32:=by omega);(generalize (O.any fun k=>!nameL k.m)=z at HC HE);(go_enter Tryz.func42,Tryz.ntmps42);(go_wp2_with fail);refine HC.out.mono ?_;rintro e w1 ⟨rfl,hb1⟩;have HB:=Hd hb1;clear hb1;go_wp2;go_ret;exact⟨by rw [HE.out];rfl,HB.out⟩
 ·(have HE:=Hd (show keysQ O=false from by unfold keysQ;rw [decide_eq_false (by have:=HL.out;omega)];rfl));(have g1:¬(n:Int)≤32:=by omega);clear HC;(go_enter Tryz.func42,Tryz.ntmps42);go_wp2;go_ret;exact⟨by rw [HE.out];rfl,Below.refl _ _⟩
end
section
open Go.RowKit
section
open Go.Deep
theorem made_blk {w:World} {B g n size:Nat} {e:TypeId} {xs:List Value} (h:w.ownsRow B e size (.slice (some ⟨g,0,none⟩) n n) n xs):Blk w g e xs.toArray:=by
  rcases h.2 with ⟨e0,_⟩|⟨g',cap,cur,e0,hb,hg,hn,hm,hs,ht⟩
  · cases e0
  · injection e0 with e1 _ e3
    injection e1 with e1
    injection e1 with e1
    subst e1;subst e3
    rw [List.take_of_length_le (by rw [Array.length_toList,hs];exact Nat.le_refl _)] at ht
    unfold Blk
    rw [←ht]
    simpa using hg
end
def nmArr (l:List AggL) (k:Nat):List Value:=(l.take k).map (fun g=>.string (bs g.m))++List.replicate (l.length-k) (.string ⟨#[]⟩)
theorem nm_set {l:List AggL} {k:Nat} (hk:k<l.length):(nmArr l k).toArray.setIfInBounds k (.string (bs l[k].m))=(nmArr l (k+1)).toArray:=by
  obtain⟨j,hj⟩:∃j,l.length-k=j+1:=⟨l.length-k-1,by omega⟩
  have hj2:l.length-(k+1)=j:=by omega
  have hl:((l.take k).map (fun g:AggL=>Value.string (bs g.m))).length=k:=by rw [List.length_map,List.length_take];omega
  unfold nmArr
  rw [hj,hj2,List.setIfInBounds_toArray,List.take_succ_eq_append_getElem hk,List.map_append,List.replicate_succ,List.set_append_right (h:=by rw [hl];exact Nat.le_refl _),hl,Nat.sub_self,List.set_cons_zero,List.append_assoc]
  rfl
theorem nm_get {l:List AggL} {k:Nat} (hk:k<l.length):(nmArr l k).toArray[k]?=some (.string ⟨#[]⟩):=by
  obtain⟨j,hj⟩:∃j,l.length-k=j+1:=⟨l.length-k-1,by omega⟩
  have hl:((l.take k).map (fun g:AggL=>Value.string (bs g.m))).length=k:=by rw [List.length_map,List.length_take];omega
  unfold nmArr
  rw [List.getElem?_toArray,List.getElem?_append_right (by rw [hl];exact Nat.le_refl _),hl,Nat.sub_self,hj,List.replicate_succ];rfl
theorem nm_end (l:List AggL):nmArr l l.length=textCells (l.map AggL.m):=by
  unfold nmArr textCells
  rw [List.take_length,Nat.sub_self,List.replicate_zero,List.append_nil,List.map_map];rfl
theorem txtA_blk {w:World} {g n:Nat} {V:List (List UInt8)} {T:TypeId} (h:Blk w g T (textCells V).toArray) (hn:V.length=n) (hm:n≤maxLen):TxtA w (some ⟨g,0,none⟩) n n V:=by
  refine⟨hn,Nat.le_refl _,hm,fun _=>⟨g,0,rfl,blk_lt h,fun j hj=>?_⟩⟩
  rw [blk_cell h]
  unfold textCells
  simp [hj]
theorem agg_all {l:List AggL} {k:Nat} (h:(l.take k).all aggB=true) (hk:k<l.length) (h1:aggB l[k]=true):(l.take (k+1)).all aggB=true:=by
  rw [List.take_succ_eq_append_getElem hk,List.all_append,h,List.all_cons,h1];rfl
theorem agg_not {l:List AggL} {k:Nat} (hk:k<l.length) (h1:aggB l[k]=false):aggsQ l=false:=by
  have:l.all aggB=false:=List.all_eq_false.2 ⟨_,List.getElem_mem hk,by rw [h1];decide⟩
  unfold aggsQ;rw [this];simp
theorem agg_end {l:List AggL} {k:Nat} (h8:l.length≤8) (h:(l.take k).all aggB=true) (hk:l.length≤k):aggsQ l=namesQ (l.map AggL.m):=by
  rw [List.take_of_length_le hk] at h
  unfold aggsQ;rw [h,decide_eq_true h8];simp
theorem made_str (n:Nat) (h:n≤8):(madeCells (Value.string ⟨#[]⟩).cells (n*1)).toList=List.replicate n (.string ⟨#[]⟩):=by
  rcases (by omega:n=0∨n=1∨n=2∨n=3∨n=4∨n=5∨n=6∨n=7∨n=8) with rfl|rfl|rfl|rfl|rfl|rfl|rfl|rfl|rfl<;>kernel_rfl
theorem isOfName_calls (g:AggL) (hx:(bs g.o).size≤maxLen) (w:World):Calls Tryz.prog 94 #[g.v] w fun e w'=>e=.returned (.bool (ofNameB g))∧Below w.heap.size w w':=by
 (have HNM:=Hd (fun W=>IsName_calls (bs g.o) W hx));(simp only [bs_data] at HNM);(have HP:=Hd (show ofNameB g=(nameL g.o||(g.o.isEmpty&&decide (g.k=1))) from rfl));obtain⟨gk,go,gm⟩:=g;dsimp only at HNM HP;(simp only [AggL.v]);generalize ofNameB ⟨gk,go,gm⟩=R at HP ⊢;generalize nameL go=nm at HNM HP;(have ge:(bs go).toList.isEmpty=go.isEmpty:=by rw [bs_toList]);obtain⟨em,hem⟩:∃em,go.isEmpty=em:=⟨_,rfl⟩;rw [hem] at ge HP;clear hem hx;have HBX:=Hd (box_below w (.cells #[.int .i64 gk,.string (bs go),.string (bs gm)] 46));cases nm with
 | true =>
   (have HR:=Hd (show R=true from HP.out));clear HP;(go_enter Tryz.func94,Tryz.ntmps94);(go_wp2_with fail);refine (HNM.out _).mono ?_;rintro e w1 ⟨rfl,hb1⟩;(have HB:=Hd (HBX.out.trans (hb1.mono (by simp))));clear hb1;go_wp2;go_ret;exact⟨by rw [HR.out];rfl,HB.out⟩
 | false =>
   cases em with
   | false =>
     (have HR:=Hd (show R=false from HP.out));clear HP;(go_enter Tryz.func94,Tryz.ntmps94);(go_wp2_with fail);refine (HNM.out _).mono ?_;rintro e w1 ⟨rfl,hb1⟩;(have HB:=Hd (HBX.out.trans (hb1.mono (by simp))));(have HY:=Hd (blk_on (blk_new w 46 #[.int .i64 gk,.string (bs go),.string (bs gm)]) hb1 (by simp)));clear hb1;have y1:=bq HY.out 1;go_wp2;go_ret;exact⟨by rw [HR.out];rfl,HB.out⟩
   | true =>
     (have HR:=Hd (show R=decide (gk=1) from HP.out));clear HP;by_cases h1:gk=1
     ·have g1:(gk==1)=true:=beq_iff_eq.2 h1;(have HR2:=Hd (show R=true from by rw [HR.out];exact decide_eq_true h1));clear HR h1;(go_enter Tryz.func94,Tryz.ntmps94);(go_wp2_with fail);refine (HNM.out _).mono ?_;rintro e w1 ⟨rfl,hb1⟩;(have HB:=Hd (HBX.out.trans (hb1.mono (by simp))));(have HY:=Hd (blk_on (blk_new w 46 #[.int .i64 gk,.string (bs go),.string (bs gm)]) hb1 (by simp)));clear hb1;have y0:=bq HY.out 0;have y1:=bq HY.out 1;go_wp2;go_ret;exact⟨by rw [HR2.out];rfl,HB.out⟩
     ·have g1:(gk==1)=false:=beq_eq_false_iff_ne.2 h1;(have HR2:=Hd (show R=false from by rw [HR.out];exact decide_eq_false h1));clear HR h1;(go_enter Tryz.func94,Tryz.ntmps94);(go_wp2_with fail);refine (HNM.out _).mono ?_;rintro e w1 ⟨rfl,hb1⟩;(have HB:=Hd (HBX.out.trans (hb1.mono (by simp))));(have HY:=Hd (blk_on (blk_new w 46 #[.int .i64 gk,.string (bs go),.string (bs gm)]) hb1 (by simp)));clear hb1;have y0:=bq HY.out 0;have y1:=bq HY.out 1;go_wp2;go_ret;exact⟨by rw [HR2.out];rfl,HB.out⟩
theorem areAggregates_calls (G:List AggL) (hx:∀g∈G,(bs g.o).size≤maxLen∧(bs g.m).size≤maxLen) (a:Option Addr) (n c:Nat) (w:World) (hV:AgA w a n c G):Calls Tryz.prog 41 #[.slice a n c] w fun e w'=>e=.returned (.bool (aggsQ G))∧Below w.heap.size w w':=by
 have HV:=Hd hV;have HX:=Hd hx;have HVL:=Hd hV.len;have hvc:=hV.cap;have hvm:=hV.most;(unfold maxLen at hvm);clear hV hx;obtain⟨i0,hi,hz0,hz1,hz2⟩:=info_parts info_strQ;by_cases h8:8<n
 ·(have HE:=Hd (show aggsQ G=false from by unfold aggsQ;rw [decide_eq_false (by have:=HVL.out;omega)];rfl));(have g1:(8:Int)<(n:Int):=by omega);(go_enter Tryz.func41,Tryz.ntmps41);go_wp2;go_ret;exact⟨by rw [HE.out];rfl,Below.refl _ _⟩
 (have g1:¬(8:Int)<(n:Int):=by omega);(go_enter Tryz.func41,Tryz.ntmps41);(go_wp2_with (first|(at_make;refine wpList_make_full _ rfl _ _ 22 rfl w.heap.size 9 i0 (.string ⟨#[]⟩) 1 Tryz.underlying22 hi hz0 hz1 .i64 .i64 (n:Int) (n:Int) n (by kernel_rfl) (by kernel_rfl) rfl rfl (by rw [hz2];omega) (by unfold maxLen;omega) (Nat.le_refl _) ?_;intro w0 hown0 hgrow0)));(have HB0:=Hd ((Below.refl w.heap.size w).grown hgrow0 (Nat.le_refl _) (fun k h=>by cases h)));have HM0:=Hd (show Blk w0 w.heap.size 9 (nmArr G 0).toArray from by
  have:=made_blk hown0;(rw [made_str n (by omega)] at this);(unfold nmArr);rw [List.take_zero,List.map_nil,List.nil_append,Nat.sub_zero,HVL.out];exact this)
 clear hown0 hgrow0;go_wp2;go_loopg [4,5,14] n (fun g _ _ i wr=>∃k:Nat,i=.int .i64 k∧k+g=n∧Hid ((G.take k).all aggB=true)∧Hid (Blk wr w.heap.size 9 (nmArr G k).toArray)∧Hid (Below w.heap.size w wr))
 case atStart=>exact⟨0,rfl,by omega,Hd rfl,HM0,HB0⟩
 case round =>
  obtain⟨W1,rfl⟩:∃W1,W1=wr:=⟨_,rfl⟩;obtain⟨k,rfl,hkg,HA,HM,HBW⟩:=hrel;by_cases hk:k<n
  ·(obtain⟨gg,rfl⟩:∃gg,gk=gg+1:=⟨gk-1,by omega⟩);(have hkL:k<G.length:=by rw [HVL.out];exact hk);(obtain⟨g,o,ha,hgw,hcells⟩:=HV.out.cells (by omega));subst ha;have hgW:g<W1.heap.size:=Nat.lt_of_lt_of_le hgw HBW.out.size;have hMW:=blk_lt HM.out;obtain⟨c0,c1,c2⟩:=(hcells k hkL).on HBW.out hgw;(have HNX:=Hd (fun h1=>agg_all HA.out hkL h1));(have HST:=Hd (fun h1=>agg_not hkL h1));(have HNM:=Hd (fun W=>isOfName_calls G[k] (HX.out _ (List.getElem_mem hkL)).1 W));have HSET:=Hd (nm_set hkL);clear hcells;generalize G[k]=y at c0 c1 c2 HNX HST HNM HSET;obtain⟨yk,yo,ym⟩:=y;dsimp only at c0 c1 c2 HSET;(simp only [AggL.v] at HNM);(have HAB:=Hd (show aggB ⟨yk,yo,ym⟩=(decide (1≤yk)&&(decide (yk≤4)&&ofNameB ⟨yk,yo,ym⟩)) from rfl));generalize aggB ⟨yk,yo,ym⟩=q at HNX HST HAB;(have hk0:(0:Int)≤(k:Int):=by omega);(have hkn:(k:Int)<(n:Int):=by omega);by_cases k1:yk<1
   ·(have HE:=Hd (HST.out (by rw [HAB.out,decide_eq_false (by omega)];rfl)));clear HNX HST HAB HNM;go_wp2;go_ret;exact⟨by rw [HE.out];rfl,HBW.out.trans ((box_below _ _).mono HBW.out.size)⟩
   by_cases k4:4<yk
   ·(have HE:=Hd (HST.out (by rw [HAB.out,decide_eq_true (by omega),decide_eq_false (by omega)];rfl)));clear HNX HST HAB HNM;go_wp2;go_ret;exact⟨by rw [HE.out];rfl,HBW.out.trans ((box_below _ _).mono HBW.out.size)⟩
   (have HA2:=Hd (show q=ofNameB ⟨yk,yo,ym⟩ from by rw [HAB.out,decide_eq_true (by omega),decide_eq_true (by omega)];rfl));clear HAB;obtain⟨nm,hnm⟩:∃nm,ofNameB ⟨yk,yo,ym⟩=nm:=⟨_,rfl⟩;rw [hnm] at HNM HA2;clear hnm;cases nm with
   | false =>
     have HE:=Hd (HST.out HA2.out);clear HNX HST HA2;(go_wp2_with fail);refine (HNM.out _).mono ?_;rintro e w2 ⟨rfl,hb2⟩;(have HB2:=Hd ((show Below w.heap.size w (W1.alloc (.cells #[.int .i64 yk,.string (bs yo),.string (bs ym)] 46)) from HBW.out.trans ((box_below _ _).mono HBW.out.size)).trans (hb2.mono (by simp;have:=HBW.out.size;omega))));(have HM2:=Hd (blk_on (blk_on HM.out (box_below _ _) hMW) hb2 (by simp;omega)));(have HY2:=Hd (blk_on (blk_new W1 46 #[.int .i64 yk,.string (bs yo),.string (bs ym)]) hb2 (by simp)));clear hb2;go_wp2;go_ret;exact⟨by rw [HE.out];rfl,HB2.out⟩
   | true =>
     have HN2:=Hd (HNX.out HA2.out);clear HNX HST HA2;(have hYM:W1.heap.size≠w.heap.size:=by omega);(have hMY:w.heap.size≠W1.heap.size:=by omega);(go_wp2_with fail);refine (HNM.out _).mono ?_;rintro e w2 ⟨rfl,hb2⟩;(have HB2:=Hd ((show Below w.heap.size w (W1.alloc (.cells #[.int .i64 yk,.string (bs yo),.string (bs ym)] 46)) from HBW.out.trans ((box_below _ _).mono HBW.out.size)).trans (hb2.mono (by simp;have:=HBW.out.size;omega))));(have HM2:=Hd (blk_on (blk_on HM.out (box_below _ _) hMW) hb2 (by simp;omega)));(have HY2:=Hd (blk_on (blk_new W1 46 #[.int .i64 yk,.string (bs yo),.string (bs ym)]) hb2 (by simp)));clear hb2;have y2:=bq HY2.out 2;(have yf:=fun i=>blk_free HY2.out i);(have m0:w2.cell? ⟨w.heap.size,0+k,none⟩=some (.string ⟨#[]⟩):=by rw [Nat.zero_add,blk_cell HM2.out];exact nm_get hkL);(have mf:=fun i=>blk_free HM2.out i);have m1:=m0;rw [Nat.zero_add] at m1;go_wp2;go_roundg gg
     case measure=>omega
     case rel=>exact⟨k+1,by go_num,by omega,HN2,Hd (by have:=blk_set HM2.out k (.string (bs ym));rw [HSET.out] at this;first|exact this|simpa using this),Hd (HB2.out.setCell (by first|exact Nat.le_refl _|simp) _)⟩
  ·(have HE:=Hd (agg_end (by have:=HVL.out;omega) HA.out (by have:=HVL.out;omega)));(have hkn:k=n:=by omega);subst hkn;(have HT:=Hd (show TxtA W1 (some ⟨w.heap.size,0,none⟩) k k (G.map AggL.m) from txtA_blk (T:=9) (by have:=HM.out;rw [show nmArr G k=textCells (G.map AggL.m) from by rw [←HVL.out];exact nm_end G] at this;exact this) (by rw [List.length_map];exact HVL.out) (by unfold maxLen;omega)));(have HNQ:=Hd (areNames_calls (G.map AggL.m) (fun x hx=>by obtain⟨g,hg,rfl⟩:=List.mem_map.1 hx;exact (HX.out g hg).2) (some ⟨w.heap.size,0,none⟩) k k W1 HT.out));(have k1:¬(k:Int)<(k:Int):=by omega);(go_wp2_with fail);refine HNQ.out.mono ?_;rintro e w2 ⟨rfl,hb2⟩;have HB2:=Hd (HBW.out.trans (hb2.mono HBW.out.size));clear hb2;go_wp2;go_ret;exact⟨by rw [HE.out];rfl,HB2.out⟩
end
end Go.Proofs.YtjpfoophipcglaaGreatDoor
