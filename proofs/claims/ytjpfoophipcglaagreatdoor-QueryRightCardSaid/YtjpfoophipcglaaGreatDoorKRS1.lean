/- Which operations are right, by the document's own answer. -/
import Derived.Test.YtjpfoophipcglaaGreatDoorKRS0
import Derived.Test.YtjpfoophipcglaaGreatDoorKQParses
namespace Go.Proofs.YtjpfoophipcglaaGreatDoor
set_option maxRecDepth 100000
set_option maxHeartbeats 8000000
section
open Go.RowKit
def rightX (k:Int) (f rf nt nb em s pt tb nm ir:Bool):Bool :=
  if k=1 then pt&&nb&&!f&&em&&!s
  else if k=2 then nt&&tb&&!f&&em&&!s
  else if k=3∨k=4∨k=6 then nt&&nb&&!f&&em&&!s
  else if k=5 then nt&&nb&&(!f||rf)&&em&&!s
  else if k=7 then nt&&nb&&rf&&em&&!s
  else if k=8 then nt&&nb&&rf&&nm&&!s
  else if k=9 then nt&&nb&&!f&&ir
  else false
theorem rightO_eq (o:OpL):rightO o=rightX o.k (!o.F.isEmpty) (formB o.F) o.T.isEmpty (o.V.isEmpty&&o.R.isEmpty) o.m.isEmpty o.s (patsB o.T) (tableB o.V o.R) (nameL o.m) (iriL o.m):=by
  unfold rightO rightX
  simp only [Bool.not_not,Bool.and_assoc]
theorem rightX_other {k:Int} (h:k<1∨9<k) (f rf nt nb em s pt tb nm ir:Bool):rightX k f rf nt nb em s pt tb nm ir=false:=by
  unfold rightX
  rw [if_neg (by omega),if_neg (by omega),if_neg (by omega),if_neg (by omega),if_neg (by omega),if_neg (by omega),if_neg (by omega)]
theorem some_len {α:Type} {l:List α} {n:Nat} (h:l.length=n):decide ((0:Int)<(n:Int))=!l.isEmpty:=by
  cases l with
  | nil=>subst h;rfl
  | cons a b=>rw [List.isEmpty_cons,Bool.not_false];refine decide_eq_true ?_;rw [←h,List.length_cons];omega
set_option maxHeartbeats 16000000 in
theorem rORight_calls (o:OpL) (A:OpS) (w:World) (hok:OpOk o) (hin:OpIn w o A):Calls Tryz.prog 102 #[o.v A] w fun e w'=>e=.returned (.bool (rightO o))∧Below w.heap.size w w':=by
 have HE:=Hd (rightO_eq o);(have HNEW:=Hd (fun T=>OpBox.new w o A T));(have HCK:=Hd (fun W h=>rFCheck_calls o.F hok.f A.fa A.fn A.fc W h));(have HPT:=Hd (fun W h=>rpatterns_calls o.T hok.t A.ta A.tn A.tc W h));(have HTB:=Hd (fun W h1 h2=>rRightTable_calls o.V o.R hok.v hok.r A.va A.ra A.vn A.vc A.rn A.rc W h1 h2));(have HNM:=Hd (fun W=>rIsName_calls (bs o.m) W hok.m));(have HIR:=Hd (fun W=>rIsIri_calls (bs o.m) W hok.m));have HIN:=Hd hin;have hF:=some_len hin.f.len;have hT:=empty_len hin.t.len;have hV:=empty_len hin.v.len;have hR:=empty_len hin.r.len;(have ge:(bs o.m).toList.isEmpty=o.m.isEmpty:=by rw [bs_toList]);(have hFB:formB o.F=(!o.F.isEmpty&&decide (chkE o.F=0)):=by unfold formB;congr 1;cases o.F<;>rfl);have HFB:=Hd hFB;clear hok hin hFB;(simp only [bs_data] at HNM HIR);(have HX:=Hd (show ∀W,OpBox w o A W→Op7 W w.heap.size 0 o A from fun W h=>h.1));obtain⟨pt,hpt⟩:∃b,patsB o.T=b:=⟨_,rfl⟩;obtain⟨tb,htb⟩:∃b,tableB o.V o.R=b:=⟨_,rfl⟩;obtain⟨nm,hnm⟩:∃b,nameL o.m=b:=⟨_,rfl⟩;obtain⟨ir,hir⟩:∃b,iriL o.m=b:=⟨_,rfl⟩;obtain⟨em,hem⟩:∃b,o.m.isEmpty=b:=⟨_,rfl⟩;obtain⟨f,hf⟩:∃b,(!o.F.isEmpty)=b:=⟨_,rfl⟩;obtain⟨nt,hnt⟩:∃b,o.T.isEmpty=b:=⟨_,rfl⟩;obtain⟨nv,hnv⟩:∃b,o.V.isEmpty=b:=⟨_,rfl⟩;obtain⟨nr,hnr⟩:∃b,o.R.isEmpty=b:=⟨_,rfl⟩;obtain⟨rf,hrf⟩:∃b,formB o.F=b:=⟨_,rfl⟩;obtain⟨E,hEE⟩:∃e,chkE o.F=e:=⟨_,rfl⟩;obtain⟨nb,hnb⟩:∃b,(nv&&nr)=b:=⟨_,rfl⟩;rw [hpt,htb,hnm,hir,hem,hf,hnt,hnv,hnr,hrf,hnb] at HE;rw [hrf,hf,hEE] at HFB;rw [hf] at hF;rw [hnt] at hT;rw [hnv] at hV;rw [hnr] at hR;rw [hem] at ge;rw [hpt] at HPT;rw [htb] at HTB;rw [hnm] at HNM;rw [hir] at HIR;rw [hEE] at HCK;clear hpt htb hnm hir hem hf hnt hnv hnr hrf hEE;obtain⟨k,T,V,R,F,m,s⟩:=o;obtain⟨ta,tn,tc,va,vn,vc,ra,rn,rc,fa,fn,fc⟩:=A;(simp only [Op7] at HX);dsimp only at HE HNEW HCK HPT HTB HNM HIR hF hT hV hR ge HX;(have hF2:decide (0<fn)=f:=by rw [←hF,Bool.eq_iff_iff];simp);(simp only [OpL.v]);(go_enter Tryz.func102,Tryz.ntmps102);(go_upto_region 2 with fail);obtain⟨c0,c1,c2,c3,c4,c5,c6⟩:=HX.out _ (HNEW.out 57);go_cut [3,4] from 7 (fun s3 s4 wr=>s3=.bool f∧s4=.bool rf∧Hid (OpBox w ⟨k,T,V,R,F,m,s⟩ ⟨ta,tn,tc,va,vn,vc,ra,rn,rc,fa,fn,fc⟩ wr))
 case first =>
  cases f with
  | false =>
    (have hz:rf=false:=by rw [HFB.out];rfl);subst hz;go_wp2;go_meet
    case rel=>exact⟨rfl,rfl,Hd (HNEW.out _)⟩
  | true =>
    (have hz:rf=(E==0):=by rw [HFB.out,Bool.true_and,Bool.eq_iff_iff];simp);subst hz;(go_wp2_with fail);refine (HCK.out _ (HIN.out.f.on (box_below _ _))).mono ?_;rintro e w1 ⟨rfl,hb1⟩;have HB1:=Hd ((HNEW.out _).on hb1);clear hb1;go_wp2;go_meet
    case rel=>exact⟨rfl,rfl,HB1⟩
 case rest =>
  obtain⟨rfl,rfl,HBX⟩:=hcut;clear c0 c1 c2 c3 c4 c5 c6;obtain⟨c0,c1,c2,c3,c4,c5,c6⟩:=HX.out _ HBX.out;have hlt:=HBX.out.2.2;(go_upto_region 4 with fail);go_cut [6] from 7 (fun s6 wr=>s6=.bool nb∧wr=wc)
  case first =>
   cases nv with
   | false =>
     have hz:nb=false:=hnb.symm;subst hz;go_wp2;go_meet
     case rel=>exact⟨rfl,rfl⟩
   | true =>
     (have hz:nb=nr:=by rw [←hnb];rfl);subst hz;go_wp2;go_meet
     case rel=>exact⟨rfl,rfl⟩
  case rest =>
   rename_i wc0 _ _;obtain⟨rfl,rfl⟩:=hcut;clear hF hF2 hT hV hR HFB hnb HNEW HCK nv nr;rcases op_kinds k with h|h|h|h|h|h|h|h|h|h
   ·have HO:=Hd (rightX_other h f rf nt nb em s pt tb nm ir);(have H:=Hd (fun j h1 h2=>not_op h j h1 h2));(have n1:=H.out 1 (by decide) (by decide));(have n2:=H.out 2 (by decide) (by decide));(have n3:=H.out 3 (by decide) (by decide));(have n4:=H.out 4 (by decide) (by decide));(have n5:=H.out 5 (by decide) (by decide));(have n6:=H.out 6 (by decide) (by decide));(have n7:=H.out 7 (by decide) (by decide));(have n8:=H.out 8 (by decide) (by decide));(have n9:=H.out 9 (by decide) (by decide));clear h;go_wp2;go_ret;exact⟨by rw [HE.out,HO.out];rfl,HBX.out.2.1⟩
   ·subst h;cases pt with
    | false =>
      (go_wp2_with fail);refine (HPT.out _ (HIN.out.t.on HBX.out.2.1)).mono ?_;rintro e w2 ⟨rfl,hb2⟩;have HB2:=Hd (HBX.out.on hb2);clear hb2 c0 c1 c2 c3 c4 c5 c6 hlt;obtain⟨c0,c1,c2,c3,c4,c5,c6⟩:=HX.out _ HB2.out;have hlt:=HB2.out.2.2;go_wp2;go_ret;exact⟨by rw [HE.out];rfl,HB2.out.2.1⟩
    | true =>
      cases nb with
      | false =>
        (go_wp2_with fail);refine (HPT.out _ (HIN.out.t.on HBX.out.2.1)).mono ?_;rintro e w2 ⟨rfl,hb2⟩;have HB2:=Hd (HBX.out.on hb2);clear hb2 c0 c1 c2 c3 c4 c5 c6 hlt;obtain⟨c0,c1,c2,c3,c4,c5,c6⟩:=HX.out _ HB2.out;have hlt:=HB2.out.2.2;go_wp2;go_ret;exact⟨by rw [HE.out];rfl,HB2.out.2.1⟩
      | true =>
        cases f with
        | true =>
          (go_wp2_with fail);refine (HPT.out _ (HIN.out.t.on HBX.out.2.1)).mono ?_;rintro e w2 ⟨rfl,hb2⟩;have HB2:=Hd (HBX.out.on hb2);clear hb2 c0 c1 c2 c3 c4 c5 c6 hlt;obtain⟨c0,c1,c2,c3,c4,c5,c6⟩:=HX.out _ HB2.out;have hlt:=HB2.out.2.2;go_wp2;go_ret;exact⟨by rw [HE.out];rfl,HB2.out.2.1⟩
        | false =>
          cases em with
          | false =>
            (go_wp2_with fail);refine (HPT.out _ (HIN.out.t.on HBX.out.2.1)).mono ?_;rintro e w2 ⟨rfl,hb2⟩;have HB2:=Hd (HBX.out.on hb2);clear hb2 c0 c1 c2 c3 c4 c5 c6 hlt;obtain⟨c0,c1,c2,c3,c4,c5,c6⟩:=HX.out _ HB2.out;have hlt:=HB2.out.2.2;go_wp2;go_ret;exact⟨by rw [HE.out];rfl,HB2.out.2.1⟩
          | true =>
            (go_wp2_with fail);refine (HPT.out _ (HIN.out.t.on HBX.out.2.1)).mono ?_;rintro e w2 ⟨rfl,hb2⟩;have HB2:=Hd (HBX.out.on hb2);clear hb2 c0 c1 c2 c3 c4 c5 c6 hlt;obtain⟨c0,c1,c2,c3,c4,c5,c6⟩:=HX.out _ HB2.out;have hlt:=HB2.out.2.2;go_wp2;go_ret;exact⟨by rw [HE.out];rfl,HB2.out.2.1⟩
   ·subst h;cases nt with
    | false =>
      go_wp2;go_ret;exact⟨by rw [HE.out];rfl,HBX.out.2.1⟩
    | true =>
      cases tb with
      | false =>
        (go_wp2_with fail);refine (HTB.out _ (HIN.out.v.on HBX.out.2.1) (HIN.out.r.on HBX.out.2.1)).mono ?_;rintro e w2 ⟨rfl,hb2⟩;have HB2:=Hd (HBX.out.on hb2);clear hb2 c0 c1 c2 c3 c4 c5 c6 hlt;obtain⟨c0,c1,c2,c3,c4,c5,c6⟩:=HX.out _ HB2.out;have hlt:=HB2.out.2.2;go_wp2;go_ret;exact⟨by rw [HE.out];rfl,HB2.out.2.1⟩
      | true =>
        cases f with
        | true =>
          (go_wp2_with fail);refine (HTB.out _ (HIN.out.v.on HBX.out.2.1) (HIN.out.r.on HBX.out.2.1)).mono ?_;rintro e w2 ⟨rfl,hb2⟩;have HB2:=Hd (HBX.out.on hb2);clear hb2 c0 c1 c2 c3 c4 c5 c6 hlt;obtain⟨c0,c1,c2,c3,c4,c5,c6⟩:=HX.out _ HB2.out;have hlt:=HB2.out.2.2;go_wp2;go_ret;exact⟨by rw [HE.out];rfl,HB2.out.2.1⟩
        | false =>
          cases em with
          | false =>
            (go_wp2_with fail);refine (HTB.out _ (HIN.out.v.on HBX.out.2.1) (HIN.out.r.on HBX.out.2.1)).mono ?_;rintro e w2 ⟨rfl,hb2⟩;have HB2:=Hd (HBX.out.on hb2);clear hb2 c0 c1 c2 c3 c4 c5 c6 hlt;obtain⟨c0,c1,c2,c3,c4,c5,c6⟩:=HX.out _ HB2.out;have hlt:=HB2.out.2.2;go_wp2;go_ret;exact⟨by rw [HE.out];rfl,HB2.out.2.1⟩
          | true =>
            (go_wp2_with fail);refine (HTB.out _ (HIN.out.v.on HBX.out.2.1) (HIN.out.r.on HBX.out.2.1)).mono ?_;rintro e w2 ⟨rfl,hb2⟩;have HB2:=Hd (HBX.out.on hb2);clear hb2 c0 c1 c2 c3 c4 c5 c6 hlt;obtain⟨c0,c1,c2,c3,c4,c5,c6⟩:=HX.out _ HB2.out;have hlt:=HB2.out.2.2;go_wp2;go_ret;exact⟨by rw [HE.out];rfl,HB2.out.2.1⟩
   ·subst h;cases nt with
    | false =>
      go_wp2;go_ret;exact⟨by rw [HE.out];rfl,HBX.out.2.1⟩
    | true =>
      cases nb with
      | false =>
        go_wp2;go_ret;exact⟨by rw [HE.out];rfl,HBX.out.2.1⟩
      | true =>
        cases f with
        | true =>
          go_wp2;go_ret;exact⟨by rw [HE.out];rfl,HBX.out.2.1⟩
        | false =>
          cases em with
          | false =>
            go_wp2;go_ret;exact⟨by rw [HE.out];rfl,HBX.out.2.1⟩
          | true =>
            go_wp2;go_ret;exact⟨by rw [HE.out];rfl,HBX.out.2.1⟩
   ·subst h;cases nt with
    | false =>
      go_wp2;go_ret;exact⟨by rw [HE.out];rfl,HBX.out.2.1⟩
    | true =>
      cases nb with
      | false =>
        go_wp2;go_ret;exact⟨by rw [HE.out];rfl,HBX.out.2.1⟩
      | true =>
        cases f with
        | true =>
          go_wp2;go_ret;exact⟨by rw [HE.out];rfl,HBX.out.2.1⟩
        | false =>
          cases em with
          | false =>
            go_wp2;go_ret;exact⟨by rw [HE.out];rfl,HBX.out.2.1⟩
          | true =>
            go_wp2;go_ret;exact⟨by rw [HE.out];rfl,HBX.out.2.1⟩
   ·subst h;cases nt with
    | false =>
      go_wp2;go_ret;exact⟨by rw [HE.out];rfl,HBX.out.2.1⟩
    | true =>
      cases nb with
      | false =>
        go_wp2;go_ret;exact⟨by rw [HE.out];rfl,HBX.out.2.1⟩
      | true =>
        cases f with
        | false =>
          cases em with
          | false =>
            go_wp2;go_ret;exact⟨by rw [HE.out];rfl,HBX.out.2.1⟩
          | true =>
            go_wp2;go_ret;exact⟨by rw [HE.out];rfl,HBX.out.2.1⟩
        | true =>
          cases rf with
          | false =>
            go_wp2;go_ret;exact⟨by rw [HE.out];rfl,HBX.out.2.1⟩
          | true =>
            cases em with
            | false =>
              go_wp2;go_ret;exact⟨by rw [HE.out];rfl,HBX.out.2.1⟩
            | true =>
              go_wp2;go_ret;exact⟨by rw [HE.out];rfl,HBX.out.2.1⟩
   ·subst h;cases nt with
    | false =>
      go_wp2;go_ret;exact⟨by rw [HE.out];rfl,HBX.out.2.1⟩
    | true =>
      cases nb with
      | false =>
        go_wp2;go_ret;exact⟨by rw [HE.out];rfl,HBX.out.2.1⟩
      | true =>
        cases f with
        | true =>
          go_wp2;go_ret;exact⟨by rw [HE.out];rfl,HBX.out.2.1⟩
        | false =>
          cases em with
          | false =>
            go_wp2;go_ret;exact⟨by rw [HE.out];rfl,HBX.out.2.1⟩
          | true =>
            go_wp2;go_ret;exact⟨by rw [HE.out];rfl,HBX.out.2.1⟩
   ·subst h;cases nt with
    | false =>
      go_wp2;go_ret;exact⟨by rw [HE.out];rfl,HBX.out.2.1⟩
    | true =>
      cases nb with
      | false =>
        go_wp2;go_ret;exact⟨by rw [HE.out];rfl,HBX.out.2.1⟩
      | true =>
        cases rf with
        | false =>
          go_wp2;go_ret;exact⟨by rw [HE.out];rfl,HBX.out.2.1⟩
        | true =>
          cases em with
          | false =>
            go_wp2;go_ret;exact⟨by rw [HE.out];rfl,HBX.out.2.1⟩
          | true =>
            go_wp2;go_ret;exact⟨by rw [HE.out];rfl,HBX.out.2.1⟩
   ·subst h;cases nt with
    | false =>
      go_wp2;go_ret;exact⟨by rw [HE.out];rfl,HBX.out.2.1⟩
    | true =>
      cases nb with
      | false =>
        go_wp2;go_ret;exact⟨by rw [HE.out];rfl,HBX.out.2.1⟩
      | true =>
        cases rf with
        | false =>
          go_wp2;go_ret;exact⟨by rw [HE.out];rfl,HBX.out.2.1⟩
        | true =>
          cases nm with
          | false =>
            (go_wp2_with fail);refine (HNM.out _).mono ?_;rintro e w2 ⟨rfl,hw2⟩;subst hw2;go_wp2;go_ret;exact⟨by rw [HE.out];rfl,HBX.out.2.1⟩
          | true =>
            (go_wp2_with fail);refine (HNM.out _).mono ?_;rintro e w2 ⟨rfl,hw2⟩;subst hw2;go_wp2;go_ret;exact⟨by rw [HE.out];rfl,HBX.out.2.1⟩
   ·subst h;cases nt with
    | false =>
      go_wp2;go_ret;exact⟨by rw [HE.out];rfl,HBX.out.2.1⟩
    | true =>
      cases nb with
      | false =>
        go_wp2;go_ret;exact⟨by rw [HE.out];rfl,HBX.out.2.1⟩
      | true =>
        cases f with
        | true =>
          go_wp2;go_ret;exact⟨by rw [HE.out];rfl,HBX.out.2.1⟩
        | false =>
          (go_wp2_with fail);refine (HIR.out _).mono ?_;rintro e w2 ⟨rfl,hw2⟩;subst hw2;go_wp2;go_ret;exact⟨by rw [HE.out];rfl,HBX.out.2.1⟩
end
section
open Go.RowKit
theorem rshaped_calls (C:List OpL) (hok:∀o∈C,OpOk o) (a:Option Addr) (n c:Nat) (w:World) (hv:OpsA w a n c C):Calls Tryz.prog 53 #[.slice a n c] w fun e w'=>e=.returned (.bool (shB C))∧Below w.heap.size w w':=by
 have HV:=Hd hv;have HOK:=Hd hok;have HL:=Hd hv.len;have hcp:=hv.cap;have hms:=hv.most;(unfold maxLen at hms);clear hv hok;(go_enter Tryz.func53,Tryz.ntmps53);go_wp2;go_loopg [3,4] n (fun g r i wr=>∃k h:Nat,i=.int .i64 k∧r=.int .i64 h∧k+g=n∧h≤k∧Hid (ShR C k h)∧Hid (Below w.heap.size w wr))
 case atStart=>exact⟨0,0,rfl,rfl,by omega,Nat.le_refl _,Hd (shR_start C),Hd (Below.refl _ _)⟩
 case round =>
  obtain⟨W1,rfl⟩:∃W1,W1=wr:=⟨_,rfl⟩;obtain⟨k,h,rfl,rfl,hkg,hhk,HR,HB⟩:=hrel;by_cases hk:k<n
  ·(have hkL:k<C.length:=by rw [HL.out];exact hk);(obtain⟨g,o,ha,hgw,hcells⟩:=HV.out.cells (by omega));subst ha;have hgW:g<W1.heap.size:=Nat.lt_of_lt_of_le hgw HB.out.size;obtain⟨A,h7,hin⟩:=hcells k hkL;(have H7:=Hd (fun W (hb:Below w.heap.size w W)=>(Op7.on h7 hb hgw:Op7 W g (o+k*7) C[k] A)));have HIN:=Hd (hin.on HB.out);(have HNX:=Hd (fun h1 h2=>shR_next HR.out hkL h1 h2));(have HST:=Hd (fun h1=>shR_stop HR.out hkL h1));have HOO:=Hd (HOK.out C[k] (List.getElem_mem hkL));clear hcells h7 hin;generalize C[k]=p at H7 HIN HNX HST HOO;(have HND:=Hd (fun W=>rONeeds_calls p A W));have HRT:=Hd (rORight_calls p A W1 HOO.out HIN.out);(have HGD:=Hd (fun hg=>@needO_right p hg));have hc0:=H7.out W1 HB.out;obtain⟨pk,pT,pV,pR,pF,pm,ps⟩:=p;obtain⟨ta,tn,tc,va,vn,vc,ra,rn,rc,fa,fn,fc⟩:=A;(simp only [OpL.v] at HND HRT);(simp only [Op7] at H7 hc0);obtain⟨c0,c1,c2,c3,c4,c5,c6⟩:=hc0;dsimp only at HND HGD;obtain⟨x,hx⟩:∃x,needO pk=x:=⟨_,rfl⟩;rw [hx] at HND HGD;obtain⟨G,hG⟩:∃G,rightO ⟨pk,pT,pV,pR,pF,pm,ps⟩=G:=⟨_,rfl⟩;obtain⟨D,hD⟩:∃D,ndO ⟨pk,pT,pV,pR,pF,pm,ps⟩=D:=⟨_,rfl⟩;rw [hG] at HNX HST HRT HGD;rw [hD] at HNX HST HGD;(have k0:(0:Int)≤(k:Int):=by omega);(have k1:(k:Int)<(n:Int):=by omega);clear hx hG hD hkL hk HR HOO HIN;(obtain⟨gg,rfl⟩:∃gg,gk=gg+1:=⟨gk-1,by omega⟩);cases G with
   | false =>
     (have HE:=Hd (HST.out (fun c=>by simp at c)));clear HNX HST HGD;(go_wp2_with fail);refine HRT.out.mono ?_;rintro e w2 ⟨rfl,hb2⟩;have HB2:=Hd (HB.out.trans (hb2.mono HB.out.size));clear hb2;go_wp2;go_ret;exact⟨by rw [HE.out];rfl,HB2.out⟩
   | true =>
     (obtain rfl:=HGD.out rfl);by_cases hxh:D≤h
     ·(have gh:decide ((h:Int)<(D:Int))=false:=decide_eq_false (by omega));have HN2:=Hd (HNX.out rfl hxh);clear HNX HST;(go_wp2_with fail);refine HRT.out.mono ?_;rintro e w2 ⟨rfl,hb2⟩;have HB2:=Hd (HB.out.trans (hb2.mono HB.out.size));have hgW2:g<w2.heap.size:=Nat.lt_of_lt_of_le hgW hb2.size;clear hb2 c0 c1 c2 c3 c4 c5 c6;obtain⟨c0,c1,c2,c3,c4,c5,c6⟩:=H7.out w2 HB2.out;(go_wp2_with fail);refine (HND.out _).mono ?_;rintro e w3 ⟨rfl,hb3⟩;have HB3:=Hd (HB2.out.trans (hb3.mono HB2.out.size));have hgW3:g<w3.heap.size:=Nat.lt_of_lt_of_le hgW2 hb3.size;clear hb3 c0 c1 c2 c3 c4 c5 c6;obtain⟨c0,c1,c2,c3,c4,c5,c6⟩:=H7.out w3 HB3.out;(go_wp2_with fail);refine (HND.out _).mono ?_;rintro e w4 ⟨rfl,hb4⟩;have HB4:=Hd (HB3.out.trans (hb4.mono HB3.out.size));clear hb4;go_wp2;go_roundg gg
      case measure=>omega
      case rel=>exact⟨k+1,h-D+1,by go_num,by (congr 1;omega),by omega,by omega,HN2,HB4⟩
     ·(have gh:decide ((h:Int)<(D:Int))=true:=decide_eq_true (by omega));(have HE:=Hd (HST.out (fun c=>by omega)));clear HNX HST;(go_wp2_with fail);refine HRT.out.mono ?_;rintro e w2 ⟨rfl,hb2⟩;have HB2:=Hd (HB.out.trans (hb2.mono HB.out.size));have hgW2:g<w2.heap.size:=Nat.lt_of_lt_of_le hgW hb2.size;clear hb2 c0 c1 c2 c3 c4 c5 c6;obtain⟨c0,c1,c2,c3,c4,c5,c6⟩:=H7.out w2 HB2.out;(go_wp2_with fail);refine (HND.out _).mono ?_;rintro e w3 ⟨rfl,hb3⟩;have HB3:=Hd (HB2.out.trans (hb3.mono HB2.out.size));clear hb3;go_wp2;go_ret;exact⟨by rw [HE.out];rfl,HB3.out⟩
  ·(have HE:=Hd (shR_end HR.out (by rw [HL.out];omega)));(have k1:¬(k:Int)<(n:Int):=by omega);by_cases h1:h=1
   ·subst h1;have HE2:=Hd (HE.out.trans (decide_eq_true rfl));clear hhk HE;go_wp2;go_ret;exact⟨by rw [HE2.out];rfl,HB.out⟩
   ·(have g2:((h:Int)==1)=false:=beq_eq_false_iff_ne.2 (by omega));have HE2:=Hd (HE.out.trans (decide_eq_false h1));clear h1 HE;go_wp2;go_ret;exact⟨by rw [HE2.out];rfl,HB.out⟩
theorem rOFrom_calls (C:List OpL) (a:Option Addr) (n c:Nat) (w:World) (hv:OpsA w a n c C) (hh:Nat→Nat) (H:HtO C hh) (hl:n≤128) (i p:Nat) (hi:i<n) (F:FromAt hh i p):Calls Tryz.prog 103 #[.slice a n c,.int .i64 i] w fun e w'=>e=.returned (.int .i64 p)∧Below w.heap.size w w':=by
 have hL:=hv.len;have HV:=Hd hv;have HH:=Hd H;have HF:=Hd F;have hcap:=hv.cap;have hmost:=hv.most;have hpi:=F.le;(have i0:(0:Int)≤(i:Int):=by omega);(have i1:(i:Int)<(n:Int):=by omega);have HL:=Hd hL;clear hv H F hL;(unfold maxLen at hmost);(go_enter Tryz.func103,Tryz.ntmps103);go_wp2;go_loopg [5,6] (i-p) (fun g r q wr=>∃(qn:Nat) (x:Int),q=.int .i64 qn∧r=.int .i64 x∧p+g=qn∧qn≤i∧Hid (x=1+(hh (qn+1):Int)-hh (i+1))∧Hid (Below w.heap.size w wr))
 case atStart=>exact⟨i,1,rfl,rfl,by omega,Nat.le_refl _,Hd (by omega),Hd (Below.refl _ _)⟩
 case round =>
  obtain⟨W1,rfl⟩:∃W1,W1=wr:=⟨_,rfl⟩;obtain⟨q,x,rfl,rfl,hqg,hqi,HX,HB⟩:=hrel;(have hqL:q<C.length:=by rw [HL.out];omega);(obtain⟨g,o,ha,hgw,hcells⟩:=HV.out.cells (by omega));subst ha;have hgW:g<W1.heap.size:=Nat.lt_of_lt_of_le hgw HB.out.size;obtain⟨A,h7,hin⟩:=hcells q hqL;have hc0:=Op7.on h7 HB.out hgw;obtain⟨hgood,hnd,hst⟩:=HH.out.step q hqL;have hnd2:=ndO_le C[q];have hnn:=needO_right hgood;clear hcells h7 hin hgood;generalize C[q]=u at hc0 hnd hst hnd2 hnn;(have HND:=Hd (fun W=>rONeeds_calls u A W));obtain⟨pk,pT,pV,pR,pF,pm,ps⟩:=u;obtain⟨ta,tn,tc,va,vn,vc,ra,rn,rc,fa,fn,fc⟩:=A;(simp only [OpL.v] at HND);(simp only [Op7] at hc0);obtain⟨c0,c1,c2,c3,c4,c5,c6⟩:=hc0;dsimp only at HND hnn;rw [hnn] at HND;clear hnn;generalize ndO ⟨pk,pT,pV,pR,pF,pm,ps⟩=D at HND hnd hst hnd2;(have hb1:=htO_le HH.out (i+1) (by rw [HL.out];omega));(have hb2:=htO_le HH.out (q+1) (by rw [HL.out];omega));(have q0:(0:Int)≤(q:Int):=by omega);(have q1:(q:Int)<(n:Int):=by omega);(have x1:-200≤x∧x≤200:=by have:=HX.out;omega);(have hxx:x+(D:Int)-1=1+(hh q:Int)-hh (i+1):=by have:=HX.out;omega);(have e1:IntKind.i64.wrap (x+(D:Int))=x+(D:Int):=IntWalk.i64_in _ (by omega));(have e2:IntKind.i64.wrap (x+(D:Int)-1)=x+(D:Int)-1:=IntWalk.i64_in _ (by omega));have HXX:=Hd hxx;have hz1:q=p→((x+(D:Int)-1)==0)=true:=fun h=>by
   have:=HF.out.at_;rw [←h] at this;exact beq_iff_eq.2 (by omega)
  have hz2:q≠p→((x+(D:Int)-1)==0)=false:=fun h=>by
   (have:=HF.out.up q (by omega) (by omega));exact beq_eq_false_iff_ne.2 (by omega)
  clear hxx hnd hst hb1 hb2;by_cases hqp:q=p
  ·have gz:=hz1 hqp;subst hqp;clear hz1 hz2;(go_wp2_with fail);refine (HND.out _).mono ?_;rintro e w2 ⟨rfl,hb2⟩;have HB2:=Hd (HB.out.trans (hb2.mono HB.out.size));clear hb2;go_wp2;go_ret;exact⟨rfl,HB2.out⟩
  ·have gz:=hz2 hqp;clear hz1 hz2;(obtain⟨gg,rfl⟩:∃gg,gk=gg+1:=⟨gk-1,by omega⟩);(go_wp2_with fail);refine (HND.out _).mono ?_;rintro e w2 ⟨rfl,hb2⟩;have HB2:=Hd (HB.out.trans (hb2.mono HB.out.size));clear hb2;go_wp2;go_roundg gg
   case measure=>omega
   case rel=>exact⟨q-1,x+(D:Int)-1,by (congr 1;omega),by first|rfl|(congr 1;omega),by omega,by omega,Hd (by rw [HXX.out,show q-1+1=q by omega]),HB2⟩
theorem rSecond_calls (C:List OpL) (a:Option Addr) (n c:Nat) (w:World) (hv:OpsA w a n c C) (hh:Nat→Nat) (H:HtO C hh) (hl:n≤128) (i p:Nat) (hi:i+1<n) (F:FromAt hh i p):Calls Tryz.prog 65 #[.slice a n c,.int .i64 ((i:Int)+1)] w fun e w'=>e=.returned (.int .i64 p)∧Below w.heap.size w w':=by
 (have HC:=Hd (rOFrom_calls C a n c w hv hh H hl i p (by omega) F));(have e1:((i:Int)+1)-1=(i:Int):=by omega);(have e2:IntKind.i64.wrap (i:Int)=(i:Int):=IntWalk.i64_in _ (by omega));clear hv H F;(go_enter Tryz.func65,Tryz.ntmps65);(go_wp2_with fail);refine HC.out.mono ?_;rintro e w2 ⟨rfl,hb2⟩;go_wp2;go_ret;exact⟨rfl,hb2⟩
end
section
open Go.RowKit
theorem tpart_next {T:List TripL} {k:Nat} (hk:k<T.length):tpart (T.take (k+1))=unionO (tpart (T.take k)) (varsL T[k]):=by
  unfold tpart
  rw [List.take_succ_eq_append_getElem hk,List.foldl_append]
  rfl
theorem lack_next {R:List (List TermL)} {k j:Nat} (hj:j<R.length):(R.take (j+1)).any (lackZ k)=((R.take j).any (lackZ k)||lackZ k R[j]):=by
  rw [List.take_succ_eq_append_getElem hj,List.any_append]
  simp
theorem vpart_yes {R:List (List TermL)} {V:List (List UInt8)} {cert:Bool} {acc:List (List UInt8)} {k:Nat} (hk:k<V.length) (h:(!cert||!R.any (lackZ k))=true):vpart R V cert acc (k+1)=moreO (vpart R V cert acc k) V[k]:=by
  rw [vpart,if_pos h,List.getD_eq_getElem?_getD,List.getElem?_eq_getElem hk];rfl
theorem vpart_no {R:List (List TermL)} {V:List (List UInt8)} {cert:Bool} {acc:List (List UInt8)} {k:Nat} (h:(!cert||!R.any (lackZ k))=false):vpart R V cert acc (k+1)=vpart R V cert acc k:=by
  rw [vpart,if_neg (by rw [h];decide)]
theorem put_yes (c D:Bool) (h:(!c||!D)=true):c=false∨(c=true∧D=false):=by cases c<;>cases D<;>simp_all
theorem put_no (c D:Bool) (h:(!c||!D)=false):c=true∧D=true:=by cases c<;>cases D<;>simp_all
set_option maxHeartbeats 16000000 in
theorem rleaf_calls (o:OpL) (A:OpS) (cert:Bool) (w:World) (hin:OpIn w o A) (ht:o.T.length≤32) (hvl:o.V.length≤32) (hrl:∀r∈o.R,r.length=o.V.length):Calls Tryz.prog 63 #[o.v A,.bool cert] w (NamesT w (leafO o cert)):=by
 (have HNEW:=Hd (fun T=>OpBox.new w o A T));have HIN:=Hd hin;have HTL:=Hd hin.t.len;have HVL:=Hd hin.v.len;have HRL:=Hd hin.r.len;have HRR:=Hd hrl;have tc1:=hin.t.cap;have tc2:=hin.t.most;have vc1:=hin.v.cap;have vc2:=hin.v.most;have rc1:=hin.r.cap;have rc2:=hin.r.most;(unfold maxLen at tc2 vc2 rc2);(have HX:=Hd (show ∀W,OpBox w o A W→Op7 W w.heap.size 0 o A from fun W h=>h.1));(have HLF:=Hd (show leafO o cert=vpart o.R o.V cert (tpart o.T) o.V.length from rfl));clear hin hrl;obtain⟨pk,T,V,R,F,m,s⟩:=o;obtain⟨ta,tn,tc,va,vn,vc,ra,rn,rc,fa,fn,fc⟩:=A;(simp only [Op7] at HX);dsimp only at HNEW HTL HVL HRL HRR tc1 tc2 vc1 vc2 rc1 rc2 HX HLF ht hvl;(have ht2:tn≤32:=by rw [←HTL.out];exact ht);(have hv2:vn≤32:=by rw [←HVL.out];exact hvl);clear ht hvl;(simp only [OpL.v]);obtain⟨d0,d1,d2,d3,d4,d5,d6⟩:=HX.out _ (HNEW.out 57);clear d0 d2 d3 d4 d5 d6;(go_enter Tryz.func63,Tryz.ntmps63);go_wp2;go_loopg [5,6] tn (fun g v i wr=>∃(k:Nat) (a':Option Addr) (n' c':Nat),i=.int .i64 k∧v=.slice a' n' c'∧k+g=tn∧n'≤3*k∧Hid (TxtA wr a' n' c' (tpart (T.take k)))∧Hid (OpBox w ⟨pk,T,V,R,F,m,s⟩ ⟨ta,tn,tc,va,vn,vc,ra,rn,rc,fa,fn,fc⟩ wr))
 case atStart=>exact⟨0,_,0,0,rfl,rfl,by omega,by omega,Hd ⟨rfl,Nat.le_refl _,Nat.zero_le _,fun h=>absurd h (by omega)⟩,Hd ((HNEW.out _).on (box_below _ _))⟩
 case round =>
  obtain⟨W1,rfl⟩:∃W1,W1=wr:=⟨_,rfl⟩;obtain⟨k,a',n',c',rfl,rfl,hkg,hn',HT,HB⟩:=hrel;obtain⟨c0,c1,c2,c3,c4,c5,c6⟩:=HX.out _ HB.out;have hlt:=HB.out.2.2;by_cases hk:k<tn
  ·(obtain⟨gg,rfl⟩:∃gg,gk=gg+1:=⟨gk-1,by omega⟩);(have hkL:k<T.length:=by rw [HTL.out];exact hk);(obtain⟨g,o,ha,hgw,hcells⟩:=HIN.out.t.cells (by show 0<tn;omega));dsimp only at ha;subst ha;have hbW:=HB.out.2.1;have hgW:g<W1.heap.size:=Nat.lt_of_lt_of_le hgw hbW.size;obtain⟨hs,hp,ho⟩:=hcells k hkL;obtain⟨e0,e1,e2,e3⟩:=hs.on hbW hgw;obtain⟨e4,e5,e6,e7⟩:=hp.on hbW hgw;obtain⟨e8,e9,e10,e11⟩:=ho.on hbW hgw;have HNX:=Hd (tpart_next hkL);have HV3:=Hd (varsL_length T[k]);clear hcells hs hp ho hbW;dsimp only at e0 e1 e2 e3 e4 e5 e6 e7 e8 e9 e10 e11;generalize T[k]=t at e0 e1 e2 e3 e4 e5 e6 e7 e8 e9 e10 e11 HNX HV3;(have HVR:=Hd (show ∀W,Calls Tryz.prog 106 #[t.v] W fun e w'=>∃v,e=.returned v∧w'.ownsRow W.heap.size 9 1 v (varsL t).length (textCells (varsL t))∧Below W.heap.size W w' from fun W=>rVars_calls t W));obtain⟨VL,hVL⟩:∃l,varsL t=l:=⟨_,rfl⟩;rw [hVL] at HVR HNX HV3;clear hVL;obtain⟨⟨k1,x1,y1,z1⟩,⟨k2,x2,y2,z2⟩,⟨k3,x3,y3,z3⟩⟩:=t;(simp only [TripL.v] at HVR);dsimp only at e0 e1 e2 e3 e4 e5 e6 e7 e8 e9 e10 e11;(have k0:(0:Int)≤(k:Int):=by omega);(have kk:(k:Int)<(tn:Int):=by omega);(go_wp2_with fail);refine (HVR.out _).mono ?_;rintro e w2 ⟨v2,rfl,hown2,hb2⟩;obtain⟨a2,q2,rfl,ht2'⟩:=txtA_own hown2;(have HUN:=Hd (runion_calls _ VL a' a2 n' c' VL.length q2 w2 (HT.out.on hb2) ht2' (by have:=HV3.out;omega)));have HB2:=Hd (HB.out.on hb2);rw [←HNX.out] at HUN;(have HLN:=Hd (show (tpart (T.take (k+1))).length≤3*(k+1) by have h1:=unionO_length (tpart (T.take k)) VL;rw [HNX.out];have h2:=HT.out.len;have h3:=HV3.out;omega));clear hown2 hb2 ht2';(go_wp2_with fail);refine HUN.out.mono ?_;rintro e w3 ⟨a3,q3,rfl,ht3,hb3⟩;have HT3:=Hd ht3;have HB3:=Hd (HB2.out.on hb3);clear ht3 hb3;obtain⟨n3,hn3⟩:∃n3,(tpart (T.take (k+1))).length=n3:=⟨_,rfl⟩;rw [hn3] at HT3 HLN ⊢;clear hn3;go_wp2;go_roundg gg
   case measure=>omega
   case rel=>exact⟨k+1,a3,n3,q3,by go_num,rfl,by omega,HLN.out,HT3,HB3⟩
  ·(have hkm:k=tn:=by omega);(have kk:¬(k:Int)<(tn:Int):=by omega);(have HE:=Hd (show T.take k=T from List.take_of_length_le (by rw [HTL.out];omega)));rw [HE.out] at HT;clear hkm;go_wp2;have HLT:=Hd HT.out.len;clear c0 c1 c2 c3 c4 c5 c6 hlt;go_loopg [5,7] vn (fun g v i wr=>∃(k:Nat) (a':Option Addr) (n' c':Nat),i=.int .i64 k∧v=.slice a' n' c'∧k+g=vn∧n'≤96+k∧Hid (TxtA wr a' n' c' (vpart R V cert (tpart T) k))∧Hid (OpBox w ⟨pk,T,V,R,F,m,s⟩ ⟨ta,tn,tc,va,vn,vc,ra,rn,rc,fa,fn,fc⟩ wr))
   case atStart=>exact⟨0,a',n',c',rfl,rfl,by omega,by omega,HT,HB⟩
   case round =>
    obtain⟨W2,rfl⟩:∃W2,W2=wr:=⟨_,rfl⟩;obtain⟨i,a5,n5,q5,rfl,rfl,hig,hn5,HT5,HB5⟩:=hrel;obtain⟨c0,c1,c2,c3,c4,c5,c6⟩:=HX.out _ HB5.out;have hlt:=HB5.out.2.2;by_cases hi:i<vn
    ·(obtain⟨gg,rfl⟩:∃gg,gk=gg+1:=⟨gk-1,by omega⟩);(have hiL:i<V.length:=by rw [HVL.out];exact hi);(obtain⟨vg,vo,hva,hvgw,hvcells⟩:=HIN.out.v.cells (by show 0<vn;omega));dsimp only at hva;subst hva;have hvgW:vg<W2.heap.size:=Nat.lt_of_lt_of_le hvgw HB5.out.2.1.size;have v0:=kpB HB5.out.2.1 hvgw (hvcells i hiL);(have HYES:=Hd (fun h=>vpart_yes (R:=R) (cert:=cert) (acc:=tpart T) hiL h));(have HNO:=Hd (fun h=>vpart_no (R:=R) (V:=V) (cert:=cert) (acc:=tpart T) (k:=i) h));clear hvcells;dsimp only at v0;generalize V[i]=y at v0 HYES;(have i0:(0:Int)≤(i:Int):=by omega);(have i1:(i:Int)<(vn:Int):=by omega);go_wp2;go_loopg [8,9] rn (fun gh b i2 wr=>∃(j:Nat) (D:Bool),i2=.int .i64 j∧b=.bool D∧j+gh=rn∧Hid ((R.take j).any (lackZ i)=D)∧wr=W2)
     case atStart=>exact⟨0,false,rfl,rfl,by omega,Hd rfl,rfl⟩
     case round =>
      obtain⟨j,D,rfl,rfl,hjg,HD,rfl⟩:=hrel;by_cases hj:j<rn
      ·(obtain⟨hh,rfl⟩:∃hh,gk=hh+1:=⟨gk-1,by omega⟩);(have hjL:j<R.length:=by rw [HRL.out];exact hj);have HLX:=Hd (lack_next (k:=i) hjL);rw [HD.out] at HLX;cases D with
       | true =>
         go_wp2;go_roundg hh
         case measure=>omega
         case rel=>exact⟨j+1,true,by go_num,rfl,by omega,Hd (by rw [HLX.out];rfl),rfl⟩
       | false =>
         (obtain⟨rg,ro,hra,hrgw,hrcells⟩:=HIN.out.r.cells (by show 0<rn;omega));dsimp only at hra;subst hra;obtain⟨ra',rc',hrc,htrm⟩:=hrcells j hjL;dsimp only at hrc htrm;have hrlen:=HRR.out _ (List.getElem_mem hjL);rw [HVL.out] at hrlen;have hrgW:rg<wr.heap.size:=Nat.lt_of_lt_of_le hrgw HB5.out.2.1.size;have r0:=kpB HB5.out.2.1 hrgw hrc;(have hK:kindAt R[j] i=R[j][i].k:=by unfold kindAt;rw [dif_pos (by omega)]);(obtain⟨tg,tq,hta,htgw,htcells⟩:=htrm.cells (by omega));subst hta;have htgW:tg<wr.heap.size:=Nat.lt_of_lt_of_le htgw HB5.out.2.1.size;(have t0:=(HB5.out.2.1.cell (p:=⟨tg,tq+i*4,none⟩) htgw).trans (htcells i (by omega)).1);rw [←hK] at t0;have HRJ:=Hd hrlen;rw [hrlen] at r0;(have hlk:lackZ i R[j]=(kindAt R[j] i==0):=rfl);rw [hlk] at HLX;clear hrc htrm hrcells hK htcells hlk hrlen;generalize kindAt R[j] i=K at t0 HLX;obtain⟨z,hz⟩:∃z,(K==0)=z:=⟨_,rfl⟩;rw [hz] at HLX;(have j0:(0:Int)≤(j:Int):=by omega);(have j1:(j:Int)<(rn:Int):=by omega);go_wp2;go_roundg hh
         case measure=>omega
         case rel=>exact⟨j+1,z,by go_num,rfl,by omega,Hd (by rw [HLX.out];rfl),rfl⟩
      ·(have jj:¬(j:Int)<(rn:Int):=by omega);(have HEJ:=Hd (show R.take j=R from List.take_of_length_le (by rw [HRL.out];omega)));rw [HEJ.out] at HD;rw [HD.out] at HYES HNO;obtain⟨u,hu⟩:∃u,(!cert||!D)=u:=⟨_,rfl⟩;rw [hu] at HYES HNO;cases u with
       | true =>
         have HNX:=Hd (HYES.out rfl);clear HYES HNO;(have HMR:=Hd (rmore_calls _ y a5 n5 q5 wr HT5.out (by omega)));rw [←HNX.out] at HMR;(have HLN:=Hd (show (vpart R V cert (tpart T) (i+1)).length≤96+(i+1) by have h1:=moreO_length (vpart R V cert (tpart T) i) y;rw [HNX.out];have h2:=HT5.out.len;omega));have hcd:=put_yes cert D hu;clear hu;rcases hcd with rfl|⟨rfl,rfl⟩;all_goals
          (go_wp2_with fail);refine HMR.out.mono ?_;rintro e w3 ⟨a3,q3,rfl,ht3,hb3⟩;have HT3:=Hd ht3;have HB3:=Hd (HB5.out.on hb3);clear ht3 hb3;generalize (vpart R V _ (tpart T) (i+1)).length=n3 at HT3 HLN ⊢;go_wp2;go_roundg gg
          case measure=>omega
          case rel=>exact⟨i+1,a3,n3,q3,by go_num,rfl,by omega,HLN.out,HT3,HB3⟩
       | false =>
         have HNX:=Hd (HNO.out rfl);clear HYES HNO;have hcd:=put_no cert D hu;clear hu;obtain⟨rfl,rfl⟩:=hcd;go_wp2;go_roundg gg
         case measure=>omega
         case rel=>exact⟨i+1,a5,n5,q5,by go_num,rfl,by omega,by omega,Hd (by rw [HNX.out];exact HT5.out),HB5⟩
    ·(have hiv:i=vn:=by omega);(have ii:¬(i:Int)<(vn:Int):=by omega);(have HEV:=Hd (show leafO ⟨pk,T,V,R,F,m,s⟩ cert=vpart R V cert (tpart T) i by rw [HLF.out,HVL.out,hiv]));have HLE:=Hd HT5.out.len;clear hiv;go_wp2;refine bodyPost_ret (v:=.slice a5 n5 q5) (by simp [results,Tryz.results63,go_sem]) rfl ⟨a5,q5,by rw [HEV.out,HLE.out],by rw [HEV.out,HLE.out];exact HT5.out,HB5.out.2.1⟩
end
section
open Go.RowKit
theorem need_one {k:Int} (h:needO k=1):k=7∨k=8∨k=9:=by
  unfold needO at h
  split at h
  · omega
  · split at h
    · assumption
    · split at h<;>omega
theorem need_two {k:Int} (h:needO k=2):k=3∨k=4∨k=5∨k=6:=by
  unfold needO at h
  split at h
  · omega
  · split at h
    · omega
    · split at h
      · assumption
      · omega
set_option maxHeartbeats 16000000 in
theorem rNames_calls (C:List OpL) (hs:shB C=true) (cert:Bool) (a:Option Addr) (n c:Nat) (hl:n≤128):∀(f i:Nat) (w:World),OpsA w a n c C→i<f→i<n →
    Calls Tryz.prog 26 #[.slice a n c,.int .i64 i,.bool cert] w (NamesT w (namesF C cert f i))
  | 0,i,w,_,hf,_=>absurd hf (Nat.not_lt_zero _)
  | f+1,i,w,hv,hf,hi=>by
    have HV:=Hd hv
    have HIH:=Hd (fun i' W h h1 h2=>rNames_calls C hs cert a n c hl f i' W h h1 h2)
    have HS:=Hd hs
    have hiL:i<C.length:=by rw [hv.len];exact hi
    obtain⟨g,o,ha,hgw,hcells⟩:=hv.cells (by omega)
    subst ha
    obtain⟨A,h7,hin⟩:=hcells i hiL
    obtain⟨hg,hn2,_⟩:=(shB_hts hs).step i hiL
    obtain⟨ht,hvl,hrl⟩:=right_small hg
    clear hv hs hcells
    have i0:(0:Int)≤(i:Int):=by omega
    have i1:(i:Int)<(n:Int):=by omega
    generalize hp:C[i]=p at h7 hin hg hn2 ht hvl hrl
    obtain⟨pk,T,V,R,F,m,s⟩:=p
    obtain⟨ta,tn,tc,va,vn,vc,ra,rn,rc,fa,fn,fc⟩:=A
    simp only [Op7] at h7
    obtain⟨c0,c1,c2,c3,c4,c5,c6⟩:=h7
    have HND:=Hd (fun W=>rONeeds_calls ⟨pk,T,V,R,F,m,s⟩ ⟨ta,tn,tc,va,vn,vc,ra,rn,rc,fa,fn,fc⟩ W)
    have HLF:=Hd (fun W h=>rleaf_calls ⟨pk,T,V,R,F,m,s⟩ ⟨ta,tn,tc,va,vn,vc,ra,rn,rc,fa,fn,fc⟩ cert W h ht hvl hrl)
    have HB0:=Hd (OpBox.new w ⟨pk,T,V,R,F,m,s⟩ ⟨ta,tn,tc,va,vn,vc,ra,rn,rc,fa,fn,fc⟩ 57)
    have HX:=Hd (show ∀W,OpBox w ⟨pk,T,V,R,F,m,s⟩ ⟨ta,tn,tc,va,vn,vc,ra,rn,rc,fa,fn,fc⟩ W→Op7 W w.heap.size 0 ⟨pk,T,V,R,F,m,s⟩ ⟨ta,tn,tc,va,vn,vc,ra,rn,rc,fa,fn,fc⟩ from fun W h=>h.1)
    simp only [OpL.v] at HND HLF
    simp only [Op7] at HX
    have hnn:=needO_right hg
    dsimp only at HND HLF HX hnn
    have HIN:=Hd hin
    have hdl:=ndO_le ⟨pk,T,V,R,F,m,s⟩
    have HN:Hid (namesF C cert (f+1) i=if ndO ⟨pk,T,V,R,F,m,s⟩=0 then leafO ⟨pk,T,V,R,F,m,s⟩ cert else if ndO ⟨pk,T,V,R,F,m,s⟩=1 then (if (cert&&s)=true then [] else if pk=8∧cert=false then moreO (namesF C cert f (i-1)) m else namesF C cert f (i-1)) else if pk=6∨(pk=5∧cert=true) then namesF C cert f (fromC C (i-1)-1) else if pk=4∧cert=true then meetO (namesF C cert f (fromC C (i-1)-1)) (namesF C cert f (i-1)) else unionO (namesF C cert f (fromC C (i-1)-1)) (namesF C cert f (i-1))):=Hd (by rw [namesF,dif_pos hiL,hp])
    have HAH:=Hd (fun h=>need_ahead HS.out hiL h)
    have HSA:=Hd (fun j' h1 h2=>second_ahead HS.out (i:=j') h1 h2)
    have HP:=Hd hp
    rw [hp] at HAH
    rw [hnn] at HND
    generalize hD:ndO ⟨pk,T,V,R,F,m,s⟩=D at HND hnn HN HAH hdl hn2
    have HDD:=Hd hD
    clear hg ht hvl hrl hin hD hp hn2
    have hd3:D=0∨D=1∨D=2:=by omega
    clear hdl
    rcases hd3 with rfl|rfl|rfl
    · rw [if_pos rfl] at HN
      go_enter Tryz.func26,Tryz.ntmps26
      go_wp2_with fail
      refine (HND.out _).mono ?_
      rintro e w2 ⟨rfl,hb2⟩
      have HB2:=Hd (HB0.out.on hb2)
      clear hb2 c0 c1 c2 c3 c4 c5 c6
      obtain⟨c0,c1,c2,c3,c4,c5,c6⟩:=HX.out _ HB2.out
      have hlt:=HB2.out.2.2
      go_wp2_with fail
      refine (HLF.out _ (HIN.out.on HB2.out.2.1)).mono ?_
      rintro e w3 ⟨a3,q3,rfl,ht3,hb3⟩
      have HB3:=Hd (HB2.out.on hb3)
      go_wp2
      refine bodyPost_ret (v:=.slice a3 (leafO ⟨pk,T,V,R,F,m,s⟩ cert).length q3) (by simp [results,Tryz.results26,go_sem]) rfl ⟨a3,q3,by rw [HN.out],by rw [HN.out];exact ht3,HB3.out.2.1⟩
    · rw [if_neg (by decide),if_pos rfl] at HN
      have hk:=need_one hnn
      have hpos:=HAH.out (by decide)
      obtain⟨j,hj⟩:∃j,i=j+1:=⟨i-1,by omega⟩
      rw [show i-1=j by omega] at HN
      have HIJ:=Hd (fun W h=>HIH.out j W h (by omega) (by omega))
      have HLN:=Hd (names_few HS.out (by rw [HV.out.len];exact hl) cert f j (by omega) (by omega))
      have e0:(i:Int)-1=(j:Int):=by omega
      have e1:IntKind.i64.wrap (j:Int)=(j:Int):=IntWalk.i64_in _ (by omega)
      clear hj hnn hpos
      have hcs:(cert=true∧s=true)∨(cert=true∧s=false)∨cert=false:=by cases cert<;>cases s<;>simp
      rcases hcs with ⟨rfl,rfl⟩|⟨rfl,rfl⟩|rfl
      · rw [if_pos (show (true&&true)=true from rfl)] at HN
        go_enter Tryz.func26,Tryz.ntmps26
        go_wp2_with fail
        refine (HND.out _).mono ?_
        rintro e w2 ⟨rfl,hb2⟩
        have HB2:=Hd (HB0.out.on hb2)
        clear hb2 c0 c1 c2 c3 c4 c5 c6
        obtain⟨c0,c1,c2,c3,c4,c5,c6⟩:=HX.out _ HB2.out
        have hlt:=HB2.out.2.2
        go_wp2
        refine bodyPost_ret (v:=.slice (some ⟨w2.heap.size,0,none⟩) 0 0) (by simp [results,Tryz.results26,go_sem]) rfl ⟨_,0,by rw [HN.out];rfl,by rw [HN.out];exact⟨rfl,Nat.le_refl _,Nat.zero_le _,fun h=>absurd h (by simp)⟩,(HB2.out.on (box_below _ _)).2.1⟩
      · rw [if_neg (by decide),if_neg (fun h=>by cases h.2)] at HN
        rcases hk with rfl|rfl|rfl
        all_goals
          go_enter Tryz.func26,Tryz.ntmps26
          go_wp2_with fail
          refine (HND.out _).mono ?_
          rintro e w2 ⟨rfl,hb2⟩
          have HB2:=Hd (HB0.out.on hb2)
          clear hb2 c0 c1 c2 c3 c4 c5 c6
          obtain⟨c0,c1,c2,c3,c4,c5,c6⟩:=HX.out _ HB2.out
          have hlt:=HB2.out.2.2
          go_wp2_with fail
          refine (HIJ.out _ (HV.out.on HB2.out.2.1)).mono ?_
          rintro e w3 ⟨a3,q3,rfl,ht3,hb3⟩
          have HT3:=Hd ht3
          have HB3:=Hd (HB2.out.on hb3)
          clear ht3 hb3 c0 c1 c2 c3 c4 c5 c6 hlt
          obtain⟨c0,c1,c2,c3,c4,c5,c6⟩:=HX.out _ HB3.out
          have hlt:=HB3.out.2.2
          go_wp2
          refine bodyPost_ret (v:=.slice a3 (namesF C true f j).length q3) (by simp [results,Tryz.results26,go_sem]) rfl ⟨a3,q3,by rw [HN.out],by rw [HN.out];exact HT3.out,HB3.out.2.1⟩
      · rw [if_neg (by simp)] at HN
        rcases hk with rfl|rfl|rfl
        · rw [if_neg (by decide)] at HN
          go_enter Tryz.func26,Tryz.ntmps26
          go_wp2_with fail
          refine (HND.out _).mono ?_
          rintro e w2 ⟨rfl,hb2⟩
          have HB2:=Hd (HB0.out.on hb2)
          clear hb2 c0 c1 c2 c3 c4 c5 c6
          obtain⟨c0,c1,c2,c3,c4,c5,c6⟩:=HX.out _ HB2.out
          have hlt:=HB2.out.2.2
          go_wp2_with fail
          refine (HIJ.out _ (HV.out.on HB2.out.2.1)).mono ?_
          rintro e w3 ⟨a3,q3,rfl,ht3,hb3⟩
          have HT3:=Hd ht3
          have HB3:=Hd (HB2.out.on hb3)
          clear ht3 hb3 c0 c1 c2 c3 c4 c5 c6 hlt
          obtain⟨c0,c1,c2,c3,c4,c5,c6⟩:=HX.out _ HB3.out
          have hlt:=HB3.out.2.2
          go_wp2
          refine bodyPost_ret (v:=.slice a3 (namesF C false f j).length q3) (by simp [results,Tryz.results26,go_sem]) rfl ⟨a3,q3,by rw [HN.out],by rw [HN.out];exact HT3.out,HB3.out.2.1⟩
        · rw [if_pos ⟨rfl,rfl⟩] at HN
          go_enter Tryz.func26,Tryz.ntmps26
          go_wp2_with fail
          refine (HND.out _).mono ?_
          rintro e w2 ⟨rfl,hb2⟩
          have HB2:=Hd (HB0.out.on hb2)
          clear hb2 c0 c1 c2 c3 c4 c5 c6
          obtain⟨c0,c1,c2,c3,c4,c5,c6⟩:=HX.out _ HB2.out
          have hlt:=HB2.out.2.2
          go_wp2_with fail
          refine (HIJ.out _ (HV.out.on HB2.out.2.1)).mono ?_
          rintro e w3 ⟨a3,q3,rfl,ht3,hb3⟩
          have HT3:=Hd ht3
          have HB3:=Hd (HB2.out.on hb3)
          clear ht3 hb3 c0 c1 c2 c3 c4 c5 c6 hlt
          obtain⟨c0,c1,c2,c3,c4,c5,c6⟩:=HX.out _ HB3.out
          have hlt:=HB3.out.2.2
          go_wp2_with fail
          refine (rmore_calls _ m a3 _ q3 w3 HT3.out (by have:=HLN.out;omega)).mono ?_
          rintro e w4 ⟨a4,q4,rfl,ht4,hb4⟩
          have HB4:=Hd (HB3.out.on hb4)
          have HT4:=Hd ht4
          clear ht4 hb4
          go_wp2
          refine bodyPost_ret (v:=.slice a4 (moreO (namesF C false f j) m).length q4) (by simp [results,Tryz.results26,go_sem]) rfl ⟨a4,q4,by rw [HN.out],by rw [HN.out];exact HT4.out,HB4.out.2.1⟩
        · rw [if_neg (by decide)] at HN
          go_enter Tryz.func26,Tryz.ntmps26
          go_wp2_with fail
          refine (HND.out _).mono ?_
          rintro e w2 ⟨rfl,hb2⟩
          have HB2:=Hd (HB0.out.on hb2)
          clear hb2 c0 c1 c2 c3 c4 c5 c6
          obtain⟨c0,c1,c2,c3,c4,c5,c6⟩:=HX.out _ HB2.out
          have hlt:=HB2.out.2.2
          go_wp2_with fail
          refine (HIJ.out _ (HV.out.on HB2.out.2.1)).mono ?_
          rintro e w3 ⟨a3,q3,rfl,ht3,hb3⟩
          have HT3:=Hd ht3
          have HB3:=Hd (HB2.out.on hb3)
          clear ht3 hb3 c0 c1 c2 c3 c4 c5 c6 hlt
          obtain⟨c0,c1,c2,c3,c4,c5,c6⟩:=HX.out _ HB3.out
          have hlt:=HB3.out.2.2
          go_wp2
          refine bodyPost_ret (v:=.slice a3 (namesF C false f j).length q3) (by simp [results,Tryz.results26,go_sem]) rfl ⟨a3,q3,by rw [HN.out],by rw [HN.out];exact HT3.out,HB3.out.2.1⟩
    · rw [if_neg (by decide),if_neg (by decide)] at HN
      have hk:=need_two hnn
      have hpos:=HAH.out (by decide)
      obtain⟨j,hj⟩:∃j,i=j+1:=⟨i-1,by omega⟩
      have hjC:j<C.length:=by omega
      have hp1:0<fromC C j:=by
        subst hj
        exact second_ahead HS.out hiL (by rw [HP.out];exact HDD.out)
      have hle:=fromC_le HS.out hjC
      have HSC:=Hd (fun W h=>rSecond_calls C (some ⟨g,o,none⟩) n c W h (hhO C) (shB_hts HS.out) hl j (fromC C j) (by omega) (fromC_at HS.out hjC))
      rw [show (j:Int)+1=(i:Int) by omega] at HSC
      obtain⟨q,hq⟩:∃q,fromC C j=q+1:=⟨fromC C j-1,by omega⟩
      rw [show i-1=j by omega,show fromC C j-1=q by omega] at HN
      have HIJ:=Hd (fun W h=>HIH.out j W h (by omega) (by omega))
      have HIQ:=Hd (fun W h=>HIH.out q W h (by omega) (by omega))
      have HLJ:=Hd (names_few HS.out (by rw [HV.out.len];exact hl) cert f j (by omega) (by omega))
      have HLQ:=Hd (names_few HS.out (by rw [HV.out.len];exact hl) cert f q (by omega) (by omega))
      have e0:(i:Int)-1=(j:Int):=by omega
      have e1:IntKind.i64.wrap (j:Int)=(j:Int):=IntWalk.i64_in _ (by omega)
      have f0:((fromC C j:Nat):Int)-1=(q:Int):=by omega
      have f1:IntKind.i64.wrap (q:Int)=(q:Int):=IntWalk.i64_in _ (by omega)
      generalize fromC C j=P at HSC f0 hq hp1 hle
      clear hj hnn hpos hq hp1 hle hjC
      rcases hk with rfl|rfl|rfl|rfl
      · rw [if_neg (by simp),if_neg (by simp)] at HN
        go_enter Tryz.func26,Tryz.ntmps26
        go_wp2_with fail
        refine (HND.out _).mono ?_
        rintro e w2 ⟨rfl,hb2⟩
        have HB2:=Hd (HB0.out.on hb2)
        clear hb2 c0 c1 c2 c3 c4 c5 c6
        obtain⟨c0,c1,c2,c3,c4,c5,c6⟩:=HX.out _ HB2.out
        have hlt:=HB2.out.2.2
        go_wp2_with fail
        refine (HSC.out _ (HV.out.on HB2.out.2.1)).mono ?_
        rintro e w3 ⟨rfl,hb3⟩
        have HB3:=Hd (HB2.out.on hb3)
        clear hb3 c0 c1 c2 c3 c4 c5 c6 hlt
        obtain⟨c0,c1,c2,c3,c4,c5,c6⟩:=HX.out _ HB3.out
        have hlt:=HB3.out.2.2
        go_wp2_with fail
        refine (HIQ.out _ (HV.out.on HB3.out.2.1)).mono ?_
        rintro e w4 ⟨a4,q4,rfl,ht4,hb4⟩
        have HT4:=Hd ht4
        have HBB4:=Hd hb4
        have HB4:=Hd (HB3.out.on hb4)
        clear ht4 hb4 c0 c1 c2 c3 c4 c5 c6 hlt
        obtain⟨c0,c1,c2,c3,c4,c5,c6⟩:=HX.out _ HB4.out
        have hlt:=HB4.out.2.2
        go_wp2_with fail
        refine (HIJ.out _ (HV.out.on HB4.out.2.1)).mono ?_
        rintro e w5 ⟨a5,q5,rfl,ht5,hb5⟩
        have HT5:=Hd ht5
        have HBB5:=Hd hb5
        have HB5:=Hd (HB4.out.on hb5)
        clear ht5 hb5 c0 c1 c2 c3 c4 c5 c6 hlt
        obtain⟨c0,c1,c2,c3,c4,c5,c6⟩:=HX.out _ HB5.out
        have hlt:=HB5.out.2.2
        go_wp2_with fail
        refine (runion_calls _ _ a4 a5 _ q4 _ q5 w5 (HT4.out.on HBB5.out) HT5.out (by have h1:=HLJ.out;have h2:=HLQ.out;omega)).mono ?_
        rintro e w6 ⟨a6,q6,rfl,ht6,hb6⟩
        have HB6:=Hd (HB5.out.on hb6)
        have HT6:=Hd ht6
        clear ht6 hb6
        go_wp2
        refine bodyPost_ret (v:=.slice a6 (unionO (namesF C cert f q) (namesF C cert f j)).length q6) (by simp [results,Tryz.results26,go_sem]) rfl ⟨a6,q6,by rw [HN.out],by rw [HN.out];exact HT6.out,HB6.out.2.1⟩
      · cases cert with
        | true =>
          rw [if_neg (by simp),if_pos ⟨rfl,rfl⟩] at HN
          go_enter Tryz.func26,Tryz.ntmps26
          go_wp2_with fail
          refine (HND.out _).mono ?_
          rintro e w2 ⟨rfl,hb2⟩
          have HB2:=Hd (HB0.out.on hb2)
          clear hb2 c0 c1 c2 c3 c4 c5 c6
          obtain⟨c0,c1,c2,c3,c4,c5,c6⟩:=HX.out _ HB2.out
          have hlt:=HB2.out.2.2
          go_wp2_with fail
          refine (HSC.out _ (HV.out.on HB2.out.2.1)).mono ?_
          rintro e w3 ⟨rfl,hb3⟩
          have HB3:=Hd (HB2.out.on hb3)
          clear hb3 c0 c1 c2 c3 c4 c5 c6 hlt
          obtain⟨c0,c1,c2,c3,c4,c5,c6⟩:=HX.out _ HB3.out
          have hlt:=HB3.out.2.2
          go_wp2_with fail
          refine (HIQ.out _ (HV.out.on HB3.out.2.1)).mono ?_
          rintro e w4 ⟨a4,q4,rfl,ht4,hb4⟩
          have HT4:=Hd ht4
          have HBB4:=Hd hb4
          have HB4:=Hd (HB3.out.on hb4)
          clear ht4 hb4 c0 c1 c2 c3 c4 c5 c6 hlt
          obtain⟨c0,c1,c2,c3,c4,c5,c6⟩:=HX.out _ HB4.out
          have hlt:=HB4.out.2.2
          go_wp2_with fail
          refine (HIJ.out _ (HV.out.on HB4.out.2.1)).mono ?_
          rintro e w5 ⟨a5,q5,rfl,ht5,hb5⟩
          have HT5:=Hd ht5
          have HBB5:=Hd hb5
          have HB5:=Hd (HB4.out.on hb5)
          clear ht5 hb5 c0 c1 c2 c3 c4 c5 c6 hlt
          obtain⟨c0,c1,c2,c3,c4,c5,c6⟩:=HX.out _ HB5.out
          have hlt:=HB5.out.2.2
          go_wp2_with fail
          refine (rmeet_calls _ _ a4 a5 _ q4 _ q5 w5 (HT4.out.on HBB5.out) HT5.out (by have h2:=HLQ.out;omega)).mono ?_
          rintro e w6 ⟨a6,q6,rfl,ht6,hb6⟩
          have HB6:=Hd (HB5.out.on hb6)
          have HT6:=Hd ht6
          clear ht6 hb6
          go_wp2
          refine bodyPost_ret (v:=.slice a6 (meetO (namesF C true f q) (namesF C true f j)).length q6) (by simp [results,Tryz.results26,go_sem]) rfl ⟨a6,q6,by rw [HN.out],by rw [HN.out];exact HT6.out,HB6.out.2.1⟩
        | false =>
          rw [if_neg (by simp),if_neg (by simp)] at HN
          go_enter Tryz.func26,Tryz.ntmps26
          go_wp2_with fail
          refine (HND.out _).mono ?_
          rintro e w2 ⟨rfl,hb2⟩
          have HB2:=Hd (HB0.out.on hb2)
          clear hb2 c0 c1 c2 c3 c4 c5 c6
          obtain⟨c0,c1,c2,c3,c4,c5,c6⟩:=HX.out _ HB2.out
          have hlt:=HB2.out.2.2
          go_wp2_with fail
          refine (HSC.out _ (HV.out.on HB2.out.2.1)).mono ?_
          rintro e w3 ⟨rfl,hb3⟩
          have HB3:=Hd (HB2.out.on hb3)
          clear hb3 c0 c1 c2 c3 c4 c5 c6 hlt
          obtain⟨c0,c1,c2,c3,c4,c5,c6⟩:=HX.out _ HB3.out
          have hlt:=HB3.out.2.2
          go_wp2_with fail
          refine (HIQ.out _ (HV.out.on HB3.out.2.1)).mono ?_
          rintro e w4 ⟨a4,q4,rfl,ht4,hb4⟩
          have HT4:=Hd ht4
          have HBB4:=Hd hb4
          have HB4:=Hd (HB3.out.on hb4)
          clear ht4 hb4 c0 c1 c2 c3 c4 c5 c6 hlt
          obtain⟨c0,c1,c2,c3,c4,c5,c6⟩:=HX.out _ HB4.out
          have hlt:=HB4.out.2.2
          go_wp2_with fail
          refine (HIJ.out _ (HV.out.on HB4.out.2.1)).mono ?_
          rintro e w5 ⟨a5,q5,rfl,ht5,hb5⟩
          have HT5:=Hd ht5
          have HBB5:=Hd hb5
          have HB5:=Hd (HB4.out.on hb5)
          clear ht5 hb5 c0 c1 c2 c3 c4 c5 c6 hlt
          obtain⟨c0,c1,c2,c3,c4,c5,c6⟩:=HX.out _ HB5.out
          have hlt:=HB5.out.2.2
          go_wp2_with fail
          refine (runion_calls _ _ a4 a5 _ q4 _ q5 w5 (HT4.out.on HBB5.out) HT5.out (by have h1:=HLJ.out;have h2:=HLQ.out;omega)).mono ?_
          rintro e w6 ⟨a6,q6,rfl,ht6,hb6⟩
          have HB6:=Hd (HB5.out.on hb6)
          have HT6:=Hd ht6
          clear ht6 hb6
          go_wp2
          refine bodyPost_ret (v:=.slice a6 (unionO (namesF C false f q) (namesF C false f j)).length q6) (by simp [results,Tryz.results26,go_sem]) rfl ⟨a6,q6,by rw [HN.out],by rw [HN.out];exact HT6.out,HB6.out.2.1⟩
      · cases cert with
        | true =>
          rw [if_pos (.inr ⟨rfl,rfl⟩)] at HN
          go_enter Tryz.func26,Tryz.ntmps26
          go_wp2_with fail
          refine (HND.out _).mono ?_
          rintro e w2 ⟨rfl,hb2⟩
          have HB2:=Hd (HB0.out.on hb2)
          clear hb2 c0 c1 c2 c3 c4 c5 c6
          obtain⟨c0,c1,c2,c3,c4,c5,c6⟩:=HX.out _ HB2.out
          have hlt:=HB2.out.2.2
          go_wp2_with fail
          refine (HSC.out _ (HV.out.on HB2.out.2.1)).mono ?_
          rintro e w3 ⟨rfl,hb3⟩
          have HB3:=Hd (HB2.out.on hb3)
          clear hb3 c0 c1 c2 c3 c4 c5 c6 hlt
          obtain⟨c0,c1,c2,c3,c4,c5,c6⟩:=HX.out _ HB3.out
          have hlt:=HB3.out.2.2
          go_wp2_with fail
          refine (HIQ.out _ (HV.out.on HB3.out.2.1)).mono ?_
          rintro e w4 ⟨a4,q4,rfl,ht4,hb4⟩
          have HT4:=Hd ht4
          have HBB4:=Hd hb4
          have HB4:=Hd (HB3.out.on hb4)
          clear ht4 hb4 c0 c1 c2 c3 c4 c5 c6 hlt
          obtain⟨c0,c1,c2,c3,c4,c5,c6⟩:=HX.out _ HB4.out
          have hlt:=HB4.out.2.2
          go_wp2
          refine bodyPost_ret (v:=.slice a4 (namesF C true f q).length q4) (by simp [results,Tryz.results26,go_sem]) rfl ⟨a4,q4,by rw [HN.out],by rw [HN.out];exact HT4.out,HB4.out.2.1⟩
        | false =>
          rw [if_neg (by simp),if_neg (by simp)] at HN
          go_enter Tryz.func26,Tryz.ntmps26
          go_wp2_with fail
          refine (HND.out _).mono ?_
          rintro e w2 ⟨rfl,hb2⟩
          have HB2:=Hd (HB0.out.on hb2)
          clear hb2 c0 c1 c2 c3 c4 c5 c6
          obtain⟨c0,c1,c2,c3,c4,c5,c6⟩:=HX.out _ HB2.out
          have hlt:=HB2.out.2.2
          go_wp2_with fail
          refine (HSC.out _ (HV.out.on HB2.out.2.1)).mono ?_
          rintro e w3 ⟨rfl,hb3⟩
          have HB3:=Hd (HB2.out.on hb3)
          clear hb3 c0 c1 c2 c3 c4 c5 c6 hlt
          obtain⟨c0,c1,c2,c3,c4,c5,c6⟩:=HX.out _ HB3.out
          have hlt:=HB3.out.2.2
          go_wp2_with fail
          refine (HIQ.out _ (HV.out.on HB3.out.2.1)).mono ?_
          rintro e w4 ⟨a4,q4,rfl,ht4,hb4⟩
          have HT4:=Hd ht4
          have HBB4:=Hd hb4
          have HB4:=Hd (HB3.out.on hb4)
          clear ht4 hb4 c0 c1 c2 c3 c4 c5 c6 hlt
          obtain⟨c0,c1,c2,c3,c4,c5,c6⟩:=HX.out _ HB4.out
          have hlt:=HB4.out.2.2
          go_wp2_with fail
          refine (HIJ.out _ (HV.out.on HB4.out.2.1)).mono ?_
          rintro e w5 ⟨a5,q5,rfl,ht5,hb5⟩
          have HT5:=Hd ht5
          have HBB5:=Hd hb5
          have HB5:=Hd (HB4.out.on hb5)
          clear ht5 hb5 c0 c1 c2 c3 c4 c5 c6 hlt
          obtain⟨c0,c1,c2,c3,c4,c5,c6⟩:=HX.out _ HB5.out
          have hlt:=HB5.out.2.2
          go_wp2_with fail
          refine (runion_calls _ _ a4 a5 _ q4 _ q5 w5 (HT4.out.on HBB5.out) HT5.out (by have h1:=HLJ.out;have h2:=HLQ.out;omega)).mono ?_
          rintro e w6 ⟨a6,q6,rfl,ht6,hb6⟩
          have HB6:=Hd (HB5.out.on hb6)
          have HT6:=Hd ht6
          clear ht6 hb6
          go_wp2
          refine bodyPost_ret (v:=.slice a6 (unionO (namesF C false f q) (namesF C false f j)).length q6) (by simp [results,Tryz.results26,go_sem]) rfl ⟨a6,q6,by rw [HN.out],by rw [HN.out];exact HT6.out,HB6.out.2.1⟩
      · rw [if_pos (.inl rfl)] at HN
        go_enter Tryz.func26,Tryz.ntmps26
        go_wp2_with fail
        refine (HND.out _).mono ?_
        rintro e w2 ⟨rfl,hb2⟩
        have HB2:=Hd (HB0.out.on hb2)
        clear hb2 c0 c1 c2 c3 c4 c5 c6
        obtain⟨c0,c1,c2,c3,c4,c5,c6⟩:=HX.out _ HB2.out
        have hlt:=HB2.out.2.2
        go_wp2_with fail
        refine (HSC.out _ (HV.out.on HB2.out.2.1)).mono ?_
        rintro e w3 ⟨rfl,hb3⟩
        have HB3:=Hd (HB2.out.on hb3)
        clear hb3 c0 c1 c2 c3 c4 c5 c6 hlt
        obtain⟨c0,c1,c2,c3,c4,c5,c6⟩:=HX.out _ HB3.out
        have hlt:=HB3.out.2.2
        go_wp2_with fail
        refine (HIQ.out _ (HV.out.on HB3.out.2.1)).mono ?_
        rintro e w4 ⟨a4,q4,rfl,ht4,hb4⟩
        have HT4:=Hd ht4
        have HBB4:=Hd hb4
        have HB4:=Hd (HB3.out.on hb4)
        clear ht4 hb4 c0 c1 c2 c3 c4 c5 c6 hlt
        obtain⟨c0,c1,c2,c3,c4,c5,c6⟩:=HX.out _ HB4.out
        have hlt:=HB4.out.2.2
        go_wp2
        refine bodyPost_ret (v:=.slice a4 (namesF C cert f q).length q4) (by simp [results,Tryz.results26,go_sem]) rfl ⟨a4,q4,by rw [HN.out],by rw [HN.out];exact HT4.out,HB4.out.2.1⟩
end
section
open Go.RowKit
theorem rnested_calls (C:List OpL) (a:Option Addr) (n c:Nat) (w:World) (hv:OpsA w a n c C) (hs:shB C=true) (hl:n≤128):Calls Tryz.prog 54 #[.slice a n c] w fun e w'=>e=.returned (.bool (nestB C))∧Below w.heap.size w w':=by
 have HV:=Hd hv;have HL:=Hd hv.len;have hcp:=hv.cap;have hms:=hv.most;(unfold maxLen at hms);(have HK:=Hd (fun h0=>hv.kind h0));(have HF:=Hd (fun i (hi:i<n) W (hW:Below w.heap.size w W)=>rOFrom_calls C a n c W (hv.on hW) (hhO C) (shB_hts hs) hl i (fromC C i) hi (fromC_at hs (by rw [hv.len];exact hi))));(have HFL:=Hd (fun i (hi:i<n)=>fromC_le hs (i:=i) (by rw [hv.len];exact hi)));clear hv hs;(go_enter Tryz.func54,Tryz.ntmps54);go_wp2;go_loopg [3] n (fun g i wr=>∃k:Nat,i=.int .i64 k∧k+g=n∧Hid (NestR C k)∧Hid (Below w.heap.size w wr))
 case atStart=>exact⟨0,rfl,by omega,Hd (nest_start C),Hd (Below.refl _ _)⟩
 case round =>
  obtain⟨W1,rfl⟩:∃W1,W1=wr:=⟨_,rfl⟩;obtain⟨k,rfl,hkg,HR,HB⟩:=hrel;by_cases hk:k<n
  ·(obtain⟨gg,rfl⟩:∃gg,gk=gg+1:=⟨gk-1,by omega⟩);(have hkL:k<C.length:=by rw [HL.out];exact hk);(obtain⟨g,o,ha,hgw,hcells⟩:=HK.out (by omega));subst ha;have HC:=Hd hcells;clear hcells;have hgW:g<W1.heap.size:=Nat.lt_of_lt_of_le hgw HB.out.size;have c0:=kpB HB.out hgw (HC.out k hkL);(have k0:(0:Int)≤(k:Int):=by omega);(have k1:(k:Int)<(n:Int):=by omega);by_cases h9:kindO C k=9
   ·rw [h9] at c0;have HFK:=Hd (HF.out k hk W1 HB.out);have hfl:=HFL.out k hk;have HK9:=Hd h9;(have HNX:=Hd (fun h=>nest_next HR.out h));(have HYS:=Hd (fun j h1 h2 h3=>nest_yes (k:=j) hkL h9 h1 h2 h3));obtain⟨f,hf⟩:∃f,fromC C k=f:=⟨_,rfl⟩;rw [hf] at HFK hfl HNX HYS;clear h9 hf HR hkL;(go_wp2_with fail);refine HFK.out.mono ?_;rintro e w2 ⟨rfl,hb2⟩;have HB2:=Hd (HB.out.trans (hb2.mono HB.out.size));clear hb2 c0;go_wp2;go_loopg [4] (k-f) (fun gh i wr=>∃j:Nat,i=.int .i64 j∧j+gh=k∧f≤j∧Hid (∀x,f≤x→x<j→kindO C x≠9)∧wr=w2)
    case atStart=>exact⟨f,rfl,by omega,Nat.le_refl _,Hd (fun x a b=>absurd a (by omega)),rfl⟩
    case round =>
     obtain⟨j,rfl,hjg,hfj,HJ,rfl⟩:=hrel;have hgW2:g<wr.heap.size:=Nat.lt_of_lt_of_le hgw HB2.out.size;by_cases hj:j<k
     ·(obtain⟨hh,rfl⟩:∃hh,gk=hh+1:=⟨gk-1,by omega⟩);(have c0:=(HB2.out.cell (p:=⟨g,o+j*7,none⟩) hgw).trans (HC.out j (by rw [HL.out];omega)));(have j0:(0:Int)≤(j:Int):=by omega);(have j1:(j:Int)<(n:Int):=by omega);by_cases h9:kindO C j=9
      ·rw [h9] at c0;have HE:=Hd (HYS.out j hfj hj h9);clear h9;go_wp2;go_ret;exact⟨by rw [HE.out];rfl,HB2.out⟩
      ·have g9:(kindO C j==9)=false:=beq_eq_false_iff_ne.2 h9;have HJ2:=Hd (show ∀x,f≤x→x<j+1→kindO C x≠9 from fun x a b=>by
        by_cases hx:x=j
        ·subst hx;exact h9
        ·exact HJ.out x a (by omega))
       clear h9;generalize kindO C j=K at c0 g9;go_wp2;go_roundg hh
       case measure=>omega
       case rel=>exact⟨j+1,by go_num,by omega,by omega,HJ2,rfl⟩
     ·(have k2:¬(j:Int)<(k:Int):=by omega);(have hjk:j=k:=by omega);(have HR2:=Hd (HNX.out (fun x a b=>HJ.out x a (by omega))));go_wp2;go_roundg gg
      case measure=>omega
      case rel=>exact⟨k+1,by go_num,by omega,HR2,HB2⟩
   ·have g9:(kindO C k !=9)=true:=bne_iff_ne.2 h9;have HR2:=Hd (nest_skip HR.out h9);clear h9;generalize kindO C k=K at c0 g9;go_wp2;go_roundg gg
    case measure=>omega
    case rel=>exact⟨k+1,by go_num,by omega,HR2,HB⟩
  ·(have HE:=Hd (nest_no HR.out (by rw [HL.out];omega)));(have k1:¬(k:Int)<(n:Int):=by omega);go_wp2;go_ret;exact⟨by rw [HE.out];rfl,HB.out⟩
end
section
open Go.RowKit
theorem any_next {C:List OpL} {k:Nat} (h:(List.range k).any (eO C)=false) (h1:eO C k=false):(List.range (k+1)).any (eO C)=false:=by
  rw [List.range_succ,List.any_append,h]
  simp [h1]
theorem any_yes {C:List OpL} {k:Nat} (hk:k<C.length) (h1:eO C k=true):(List.range C.length).any (eO C)=true:=by
  rw [List.any_eq_true]
  exact⟨k,List.mem_range.2 hk,h1⟩
theorem eO_no {C:List OpL} {k:Nat} (h:k<C.length) (hk:C[k].k≠8):eO C k=false:=by
  unfold eO
  rw [dif_pos h,show (C[k].k==8)=false from by rw [Bool.eq_false_iff];intro c;exact hk (eq_of_beq c)];rfl
theorem eO_is {C:List OpL} {k:Nat} (h:k<C.length) (hk:C[k].k=8):eO C k=decide (C[k].m∈nmC C false (k-1)):=by
  unfold eO
  rw [dif_pos h,hk];rfl
theorem rOCheck_calls (C:List OpL) (hok:∀o∈C,OpOk o) (a:Option Addr) (n c:Nat) (w:World) (hv:OpsA w a n c C):Calls Tryz.prog 23 #[.slice a n c] w fun e w'=>e=.returned (.int .i64 (checkC C))∧Below w.heap.size w w':=by
 have HL:=Hd hv.len;have hcp:=hv.cap;have hms:=hv.most;(unfold maxLen at hms);(have n0:(0:Int)≤(n:Int):=by omega);by_cases hl:128<n
 ·(have HE:Hid (checkC C=3):=Hd (by unfold checkC;rw [if_pos (by rw [hv.len];exact hl)]));clear hv hok;(have h1:(n:Int) > 128:=by omega);(go_enter Tryz.func23,Tryz.ntmps23);go_wp2;go_ret;exact⟨by rw [HE.out];rfl,Below.refl _ _⟩
 have HS:=Hd (rshaped_calls C hok a n c w hv);(have h1:¬(n:Int) > 128:=by omega);(have hl2:n≤128:=by omega);(have HC:Hid (checkC C=if shB C=false∨nestB C=true then 2 else if (List.range C.length).any (eO C)=true then 6 else 0):=Hd (by unfold checkC;rw [if_neg (by rw [hv.len];exact hl)]));by_cases hs:shB C=true
 case neg =>
  have hs2:shB C=false:=Bool.eq_false_iff.2 hs;(have HE:Hid (checkC C=2):=Hd (by rw [HC.out,if_pos (.inl hs2)]));rw [hs2] at HS;clear hv hok HC hs hs2 hl;(go_enter Tryz.func23,Tryz.ntmps23);(go_wp2_with fail);refine HS.out.mono ?_;rintro e w2 ⟨rfl,hb2⟩;have HB2:=Hd hb2;clear hb2;go_wp2;go_ret;exact⟨by rw [HE.out];rfl,HB2.out⟩
 (have HN:=Hd (fun W (hb:Below w.heap.size w W)=>rnested_calls C a n c W (hv.on hb) hs hl2));have HS1:=Hd hs;rw [hs] at HS;by_cases hn:nestB C=true
 ·(have HE:Hid (checkC C=2):=Hd (by rw [HC.out,if_pos (.inr hn)]));rw [hn] at HN;clear hv hok HC hs hn hl HS1;(go_enter Tryz.func23,Tryz.ntmps23);(go_wp2_with fail);refine HS.out.mono ?_;rintro e w2 ⟨rfl,hb2⟩;have HB2:=Hd hb2;clear hb2;(go_wp2_with fail);refine (HN.out _ HB2.out).mono ?_;rintro e w3 ⟨rfl,hb3⟩;have HB3:=Hd (HB2.out.trans (hb3.mono HB2.out.size));clear hb3;go_wp2;go_ret;exact⟨by rw [HE.out];rfl,HB3.out⟩
 have hn2:nestB C=false:=Bool.eq_false_iff.2 hn;rw [hn2] at HN;(have HE:Hid (checkC C=if (List.range C.length).any (eO C)=true then 6 else 0):=Hd (by rw [HC.out,if_neg (by rw [hs,hn2];simp)]));have HV:=Hd hv;clear hok HC hn hn2 hl hv;(go_enter Tryz.func23,Tryz.ntmps23);(go_wp2_with fail);refine HS.out.mono ?_;rintro e w2 ⟨rfl,hb2⟩;have HB2:=Hd hb2;clear hb2;(go_wp2_with fail);refine (HN.out _ HB2.out).mono ?_;rintro e w3 ⟨rfl,hb3⟩;have HB3:=Hd (HB2.out.trans (hb3.mono HB2.out.size));clear hb3 HN HS HB2;go_wp2;go_loopg [3] n (fun g i wr=>∃k:Nat,i=.int .i64 k∧k+g=n∧Hid ((List.range k).any (eO C)=false)∧Hid (Below w.heap.size w wr))
 case atStart=>exact⟨0,rfl,by omega,Hd rfl,HB3⟩
 case round =>
  obtain⟨W1,rfl⟩:∃W1,W1=wr:=⟨_,rfl⟩;obtain⟨k,rfl,hkg,HR,HB⟩:=hrel;by_cases hk:k<n
  ·(obtain⟨gg,rfl⟩:∃gg,gk=gg+1:=⟨gk-1,by omega⟩);(have hkL:k<C.length:=by rw [HL.out];exact hk);(obtain⟨g,o,ha,hgw,hcells⟩:=(HV.out.on HB.out).name (by omega));subst ha;obtain⟨c0,c5⟩:=hcells k hkL;clear hcells;(have HNX:=Hd (fun h=>any_next HR.out h));(have HYS:=Hd (fun h=>any_yes hkL h));(have k0:(0:Int)≤(k:Int):=by omega);(have k1:(k:Int)<(n:Int):=by omega);by_cases h8:C[k].k=8
   ·have HEO:=Hd (eO_is hkL h8);(have hpos:=need_ahead HS1.out hkL (by rw [nd_of.2.2.2.1 h8];decide));rw [h8] at c0;(obtain⟨j,hj⟩:∃j,k=j+1:=⟨k-1,by omega⟩);(have hjk:k-1=j:=by omega);rw [hjk] at HEO;(have e0:(k:Int)-1=(j:Int):=by omega);(have e1:IntKind.i64.wrap (j:Int)=(j:Int):=IntWalk.i64_in _ (by omega));generalize C[k].m=m at c5 HEO;(have HNA:=Hd (show ∀(W:World),Below w.heap.size w W→Calls Tryz.prog 26 #[.slice (some ⟨g,o,none⟩) n c,.int .i64 j,.bool false] W (NamesT W (nmC C false j)) from fun W hb=>rNames_calls C HS1.out false (some ⟨g,o,none⟩) n c hl2 (j+1) j W (HV.out.on hb) (Nat.lt_succ_self j) (by omega)));(have HINA:=Hd (fun a n c W (h:TxtA W a n c (nmC C false j))=>InA_calls (nmC C false j) m a n c W h));have hgW:g<W1.heap.size:=hgw;generalize nmC C false j=N at HEO HNA HINA;clear h8 hpos HR hj hjk;cases hD:decide (m∈N) with
    | true =>
      rw [hD] at HEO HINA;(have HE1:Hid (checkC C=6):=Hd (by rw [HE.out,if_pos (HYS.out HEO.out)]));clear hD HNX HYS HEO HE;(go_upto_region 8 with fail);(have HD:=Hd (show Below w.heap.size w W1.drew from HB.out.trans ((Below.refl W1.heap.size W1).drew.mono HB.out.size)));have HGW:=Hd hgW;refine wp_region_held_drew (S:=(fun WW=>WW.cell? ⟨g,o+k*7,none⟩=some (.int .i64 8)∧WW.cell? ⟨g,o+k*7+5,none⟩=some (.string (bs m)))) (by kernel_rfl) ?_ (fun hHeld=>?_)
      ·(try dsimp only);exact⟨c0,c5⟩
      refine tkA 0 20 ?_;refine tkA 1 21 ?_;refine tkA 2 22 ?_;refine tkA 3 23 ?_;refine tkA 4 24 ?_;refine tkB 5 25 (v:=.bool true) ?_ ?_
      ·(intro ww hSw;(try dsimp only at hSw);(go_simp))
      refine tkA 6 26 ?_;refine tkA 7 27 ?_;refine tkA 8 28 ?_;refine tkB 9 29 (v:=.int .i64 (j:Int)) ?_ ?_
      ·(intro ww hSw;(try dsimp only at hSw);(go_simp))
      refine tkA 11 31 ?_;refine tkA 12 32 ?_;refine tkA 13 33 ?_;refine tkA 14 34 ?_;refine tkA 15 35 ?_;(refine rdA 10 fun K hK=>?_);go_simp;refine (HNA.out _ HD.out).mono ?_;rintro e4 w4 ⟨a4,q4,rfl,ht4,hb4⟩;have HB4:=Hd (HD.out.trans (hb4.mono HD.out.size));have HT4:=Hd ht4;have d0:=kpB hb4 HGW.out c0;have d5:=kpB hb4 HGW.out c5;clear hb4 ht4;(go_wp2_with fail);refine hK.out _ _ ?_ (fun hHeld=>?_)
      ·(try dsimp only);exact⟨d0,d5⟩
      clear hK K;(try simp only [Act.put,sb,sz,ss]);(refine rdA 16 fun K hK=>?_);go_simp;refine (HINA.out _ _ _ _ HT4.out).mono ?_;rintro e5 w5 ⟨rfl,rfl⟩;(go_wp2_with fail);refine hK.out _ _ ?_ (fun hHeld=>?_)
      ·(try dsimp only);exact⟨d0,d5⟩
      clear hK K;(try simp only [Act.put,sb,sz,ss]);refine tkA 17 37 ?_;refine dnA ?_;go_wp2;go_ret;exact⟨by rw [HE1.out];rfl,HB4.out⟩
    | false =>
      rw [hD] at HEO HINA;have HR2:=Hd (HNX.out HEO.out);clear hD HNX HYS HEO;(go_upto_region 8 with fail);(have HD:=Hd (show Below w.heap.size w W1.drew from HB.out.trans ((Below.refl W1.heap.size W1).drew.mono HB.out.size)));have HGW:=Hd hgW;refine wp_region_held_drew (S:=(fun WW=>WW.cell? ⟨g,o+k*7,none⟩=some (.int .i64 8)∧WW.cell? ⟨g,o+k*7+5,none⟩=some (.string (bs m)))) (by kernel_rfl) ?_ (fun hHeld=>?_)
      ·(try dsimp only);exact⟨c0,c5⟩
      refine tkA 0 20 ?_;refine tkA 1 21 ?_;refine tkA 2 22 ?_;refine tkA 3 23 ?_;refine tkA 4 24 ?_;refine tkB 5 25 (v:=.bool true) ?_ ?_
      ·(intro ww hSw;(try dsimp only at hSw);(go_simp))
      refine tkA 6 26 ?_;refine tkA 7 27 ?_;refine tkA 8 28 ?_;refine tkB 9 29 (v:=.int .i64 (j:Int)) ?_ ?_
      ·(intro ww hSw;(try dsimp only at hSw);(go_simp))
      refine tkA 11 31 ?_;refine tkA 12 32 ?_;refine tkA 13 33 ?_;refine tkA 14 34 ?_;refine tkA 15 35 ?_;(refine rdA 10 fun K hK=>?_);go_simp;refine (HNA.out _ HD.out).mono ?_;rintro e4 w4 ⟨a4,q4,rfl,ht4,hb4⟩;have HB4:=Hd (HD.out.trans (hb4.mono HD.out.size));have HT4:=Hd ht4;have d0:=kpB hb4 HGW.out c0;have d5:=kpB hb4 HGW.out c5;clear hb4 ht4;(go_wp2_with fail);refine hK.out _ _ ?_ (fun hHeld=>?_)
      ·(try dsimp only);exact⟨d0,d5⟩
      clear hK K;(try simp only [Act.put,sb,sz,ss]);(refine rdA 16 fun K hK=>?_);go_simp;refine (HINA.out _ _ _ _ HT4.out).mono ?_;rintro e5 w5 ⟨rfl,rfl⟩;(go_wp2_with fail);refine hK.out _ _ ?_ (fun hHeld=>?_)
      ·(try dsimp only);exact⟨d0,d5⟩
      clear hK K;(try simp only [Act.put,sb,sz,ss]);refine tkA 17 37 ?_;refine dnA ?_;go_wp2;go_roundg gg
      case measure=>omega
      case rel=>exact⟨k+1,by go_num,by omega,HR2,HB4⟩
   ·have g8:(C[k].k==8)=false:=beq_eq_false_iff_ne.2 h8;have HR2:=Hd (HNX.out (eO_no hkL h8));clear h8 HR HYS;generalize C[k].k=K at c0 g8;go_wp2;(go_quiet (fail));go_wp2;go_roundg gg
    case measure=>omega
    case rel=>exact⟨k+1,by go_num,by omega,HR2,Hd (drew_below HB.out _)⟩
  ·(have HE0:Hid (checkC C=0):=Hd (by rw [HE.out,if_neg];rw [show C.length=k by rw [HL.out];omega,HR.out];simp));(have k1:¬(k:Int)<(n:Int):=by omega);go_wp2;go_ret;exact⟨by rw [HE0.out];rfl,HB.out⟩
end
section
open Go.RowKit
theorem atE_is {C:List OpL} {i:Int} (h:resE C=0) (h0:0≤i) (h1:i<(C.length:Int)):atE C i=0:=atE_ok h (by omega)
end
theorem noq_ok:QOk noQ:=⟨tx_nil,fun _ h=>(by cases h),tx_nil,fun _ h=>(by cases h),ops_nil,Nat.zero_le _,Nat.zero_le _,Nat.zero_le _,Nat.zero_le _⟩
theorem parse_ok {l:List UInt8} (E:TOk (lexS l).1) (hL:(lexS l).1.length≤100000):QOk (parseQ l).1:=by
  unfold parseQ
  split
  · exact noq_ok
  · split
    · exact noq_ok
    · rename_i q hq
      split
      · exact noq_ok
      · split
        · exact noq_ok
        · exact read_ok E hL hq
theorem parseQ_ok (l:List UInt8):QOk (parseQ l).1:=parse_ok (lex_tok l) (by have:=(lex_short l).2;omega)
section
open Go.RowKit
theorem qdraws_on {B:Nat} {a w:World} (h:Below B a w) (n:Nat):Below B a (w.drewN n):=⟨h.os,h.tape,h.output,h.size,h.block⟩
theorem names_each {V:List (List UInt8)} (h:namesB [] V=true):∀k (hk:k<V.length),nameL V[k]=true∧¬V[k]∈V.take k
  | k,hk=>by
    have H:∀j,j≤k→NamesR V j:=fun j=>by
      induction j with
      | zero=>intro _;exact names_start V
      | succ i ih =>
        intro hj
        have hi:=ih (by omega)
        by_cases c:nameL (V[i]'(by omega))=true∧¬(V[i]'(by omega))∈V.take i
        · exact names_next hi (by omega) c.1 c.2
        · rw [names_stop hi (by omega) c] at h;cases h
    by_cases c:nameL V[k]=true∧¬V[k]∈V.take k
    · exact c
    · rw [names_stop (H k (Nat.le_refl _)) hk c] at h;cases h
theorem rnames8_calls (V:List (List UInt8)) (hx:TxOk V) (h:namesB [] V=true) (a:Option Addr) (n c:Nat) (w:World) (hV:TxtA w a n c V):Calls Tryz.prog 57 #[.slice a n c] w fun e w'=>e=.returned (.bool true)∧Below w.heap.size w w':=by
 have HV:=Hd hV;have HX:=Hd hx;have HE:=Hd (names_each h);have HVL:=Hd hV.len;have hvc:=hV.cap;have hvm:=hV.most;(unfold maxLen at hvm);clear hV hx h;(go_enter Tryz.func57,Tryz.ntmps57);go_wp2;go_loopg [3] n (fun g i wr=>∃k:Nat,i=.int .i64 k∧k+g=n∧Hid (Below w.heap.size w wr))
 case atStart=>exact⟨0,rfl,by omega,Hd (Below.refl _ _)⟩
 case round =>
  obtain⟨W1,rfl⟩:∃W1,W1=wr:=⟨_,rfl⟩;obtain⟨k,rfl,hkg,HBW⟩:=hrel;by_cases hk:k<n
  ·(obtain⟨gg,rfl⟩:∃gg,gk=gg+1:=⟨gk-1,by omega⟩);(have hkL:k<V.length:=by rw [HVL.out];exact hk);(obtain⟨g,o,ha,hgw,hcells⟩:=HV.out.cells (by omega));subst ha;have hgW:g<W1.heap.size:=Nat.lt_of_lt_of_le hgw HBW.out.size;have c0:=kpB HBW.out hgw (hcells k hkL);obtain⟨h1,h2⟩:=HE.out k hkL;(have HNM:=Hd (fun W=>rIsName_calls (bs V[k]) W (HX.out _ (List.getElem_mem hkL))));(have HIN:=Hd (fun nn=>InA_calls (V.take k) V[k] (some ⟨g,o,none⟩) k c (W1.drewN nn) ((HV.out.cut (Nat.le_of_lt hk)).on (qdraws_on HBW.out nn))));(simp only [bs_data] at HNM);rw [h1] at HNM;rw [decide_eq_false h2] at HIN;clear hcells h1 h2;generalize V[k]=y at c0 HNM HIN;(have hk0:(0:Int)≤(k:Int):=by omega);(have hkn:(k:Int)<(n:Int):=by omega);go_wp2;(go_quiet (first|(go_at_call 56;exact Calls.quiet_of_same (HNM.out _))|(go_at_call 55;exact Calls.quiet_of_same (HIN.out _))));go_wp2;go_roundg gg
   case measure=>omega
   case rel=>exact⟨k+1,by go_num,by omega,Hd (qdraws_on HBW.out _)⟩
  ·(have k1:¬(k:Int)<(n:Int):=by omega);go_wp2;go_ret;exact⟨rfl,HBW.out⟩
theorem rall8_calls (l I:List (List UInt8)) (h:∀x∈l,x∈I) (a ia:Option Addr) (n c m ic:Nat) (w:World) (hl:TxtA w a n c l) (hI:TxtA w ia m ic I):Calls Tryz.prog 61 #[.slice a n c,.slice ia m ic] w fun e w'=>e=.returned (.bool true)∧Below w.heap.size w w':=by
 have HV:=Hd hl;have HI:=Hd hI;have HE:=Hd h;have HVL:=Hd hl.len;have hvc:=hl.cap;have hvm:=hl.most;(unfold maxLen at hvm);clear hl hI h;(go_enter Tryz.func61,Tryz.ntmps61);go_wp2;go_loopg [5] n (fun g i wr=>∃k:Nat,i=.int .i64 k∧k+g=n∧Hid (Below w.heap.size w wr))
 case atStart=>exact⟨0,rfl,by omega,Hd (Below.refl _ _)⟩
 case round =>
  obtain⟨W1,rfl⟩:∃W1,W1=wr:=⟨_,rfl⟩;obtain⟨k,rfl,hkg,HBW⟩:=hrel;by_cases hk:k<n
  ·(obtain⟨gg,rfl⟩:∃gg,gk=gg+1:=⟨gk-1,by omega⟩);(have hkL:k<l.length:=by rw [HVL.out];exact hk);(obtain⟨g,o,ha,hgw,hcells⟩:=HV.out.cells (by omega));subst ha;have hgW:g<W1.heap.size:=Nat.lt_of_lt_of_le hgw HBW.out.size;have c0:=kpB HBW.out hgw (hcells k hkL);have HIN:=Hd (InA_calls I l[k] ia m ic W1 (HI.out.on HBW.out));rw [decide_eq_true (HE.out _ (List.getElem_mem hkL))] at HIN;clear hcells;generalize l[k]=y at c0 HIN;(have hk0:(0:Int)≤(k:Int):=by omega);(have hkn:(k:Int)<(n:Int):=by omega);(go_wp2_with fail);refine HIN.out.mono ?_;rintro e w2 ⟨rfl,hw2⟩;subst hw2;go_wp2;go_roundg gg
   case measure=>omega
   case rel=>exact⟨k+1,by go_num,by omega,HBW⟩
  ·(have k1:¬(k:Int)<(n:Int):=by omega);go_wp2;go_ret;exact⟨rfl,HBW.out⟩
theorem own8_calls (G:List AggL) (a:Option Addr) (n c:Nat) (w:World) (hG:AgA w a n c G) (hn:n≤1000000):Calls Tryz.prog 60 #[.slice a n c] w (NamesT w (G.map AggL.m)):=by
 obtain⟨i0,hi,hz0,hz1,hz2⟩:=info_parts info_strQ;have HV:=Hd hG;have HVL:=Hd hG.len;have hvc:=hG.cap;have hvm:=hG.most;(unfold maxLen at hvm);clear hG;(go_enter Tryz.func60,Tryz.ntmps60);go_wp2;go_loopg [3,4] n (fun g v i wr=>∃k:Nat,i=.int .i64 k∧k+g=n∧Hid (wr.ownsRow w.heap.size 9 1 v k (textCells ((G.take k).map AggL.m)))∧Hid (Below w.heap.size w wr))
 case atStart=>exact⟨0,rfl,by omega,Hd (own_start _),Hd (box_below _ _)⟩
 case round =>
  obtain⟨W1,rfl⟩:∃W1,W1=wr:=⟨_,rfl⟩;obtain⟨k,rfl,hkg,HO,HBW⟩:=hrel;obtain⟨pa,pc,rfl⟩:=row_slice HO.out;by_cases hk:k<n
  ·(obtain⟨gg,rfl⟩:∃gg,gk=gg+1:=⟨gk-1,by omega⟩);(have hkL:k<G.length:=by rw [HVL.out];exact hk);(obtain⟨g,o,ha,hgw,hcells⟩:=HV.out.cells (by omega));subst ha;have hgW:g<W1.heap.size:=Nat.lt_of_lt_of_le hgw HBW.out.size;obtain⟨c0,c1,c2⟩:=(hcells k hkL).on HBW.out hgw;(have HT:=Hd (show textCells ((G.take (k+1)).map AggL.m)=textCells ((G.take k).map AggL.m)++[.string (bs G[k].m)] from by rw [List.take_succ_eq_append_getElem hkL,List.map_append,textCells_append];rfl));clear hcells;generalize G[k].m=y at c2 HT;(have hk0:(0:Int)≤(k:Int):=by omega);(have hkn:(k:Int)<(n:Int):=by omega);have hsw:=HBW.out.size;(go_wp2_with (at_builtin;go_must (refine wpList_append_own _ rfl (.tmp 12) (.tmp 18) 22 rfl w.heap.size 9 i0 (.string ⟨#[]⟩) 1 16 Tryz.underlying22 hi hz0 hz1 hz2 rfl (by decide) _ _ _ rfl (HO.out.alloc _) ⟨W1.heap.size,0,none⟩ 1 1 [.string (bs y)] rfl rfl (news_gen _ _ _ rfl) (by intro u hu;simp at hu;subst hu;rfl) (by unfold maxLen;omega) (by omega) (by simp;omega) ?_;intro v9 w9 hown9 hgrow9 hnil9;clear hnil9;have HG9:=Hd (grown_one hgrow9);have HO9:=Hd hown9;clear hown9 hgrow9)));go_roundg gg
   case measure=>omega
   case rel=>exact⟨k+1,by go_num,by omega,Hd (by rw [HT.out];exact HO9.out),Hd (HBW.out.trans (grown_belowQ HG9.out (fun q hq=>(HO.out.lt q hq).1) hsw))⟩
  ·(have hkn:k=n:=by omega);subst hkn;(have k1:¬(k:Int)<(k:Int):=by omega);(have HF:=Hd (show (G.take k).map AggL.m=G.map AggL.m from by rw [List.take_of_length_le (by rw [HVL.out];exact Nat.le_refl _)]));(have hlen:(G.map AggL.m).length=k:=by rw [List.length_map];exact HVL.out);go_wp2;go_ret;(refine⟨pa,pc,by rw [hlen];rfl,?_,HBW.out⟩);rw [hlen];have h9:=HO.out;rw [HF.out] at h9;exact txtA_row h9 hlen
end
section
open Go.RowKit
structure AgR (g:AggL):Prop where
  lo:1≤g.k
  hi:g.k≤4
  no:g.o=[]→g.k=1
  nm:g.o≠[]→nameL g.o=true
theorem formedAggs_calls (G:List AggL) (hx:AgOk G) (h:∀g∈G,AgR g) (h8:G.length≤8) (hN:namesB [] (G.map AggL.m)=true) (a:Option Addr) (n c:Nat) (w:World) (hG:AgA w a n c G):Calls Tryz.prog 58 #[.slice a n c] w fun e w'=>e=.returned (.bool true)∧Below w.heap.size w w':=by
 have HV:=Hd hG;have HX:=Hd hx;have HR:=Hd h;have HVL:=Hd hG.len;have hvc:=hG.cap;have hvm:=hG.most;(unfold maxLen at hvm);(have hn8:n≤8:=by rw [←hG.len];exact h8);(have HNS:=Hd (fun W a c (ht:TxtA W a (G.map AggL.m).length c (G.map AggL.m))=>rnames8_calls (G.map AggL.m) (fun x hx2=>by obtain⟨g,hg,rfl⟩:=List.mem_map.1 hx2;exact (hx g hg).2) hN a _ c W ht));clear hG hx h h8 hN;obtain⟨M,hM⟩:∃M,G.map AggL.m=M:=⟨_,rfl⟩;rw [hM] at HNS;have HM:=Hd hM;clear hM;(go_enter Tryz.func58,Tryz.ntmps58);go_wp2;go_loopg [3] n (fun g i wr=>∃k:Nat,i=.int .i64 k∧k+g=n∧Hid (Below w.heap.size w wr))
 case atStart=>exact⟨0,rfl,by omega,Hd (Below.refl _ _)⟩
 case round =>
  obtain⟨W1,rfl⟩:∃W1,W1=wr:=⟨_,rfl⟩;obtain⟨k,rfl,hkg,HBW⟩:=hrel;by_cases hk:k<n
  ·(obtain⟨gg,rfl⟩:∃gg,gk=gg+1:=⟨gk-1,by omega⟩);(have hkL:k<G.length:=by rw [HVL.out];exact hk);(obtain⟨g,o,ha,hgw,hcells⟩:=HV.out.cells (by omega));subst ha;have hgW:g<W1.heap.size:=Nat.lt_of_lt_of_le hgw HBW.out.size;obtain⟨c0,c1,c2⟩:=(hcells k hkL).on HBW.out hgw;have hr:=HR.out _ (List.getElem_mem hkL);(have HNM:=Hd (fun W=>rIsName_calls (bs G[k].o) W (HX.out _ (List.getElem_mem hkL)).1));(simp only [bs_data] at HNM);clear hcells c2;generalize G[k]=y at c0 c1 hr HNM;obtain⟨yk,yo,ym⟩:=y;obtain⟨h1,h4,hno,hnm⟩:=hr;dsimp only at c0 c1 h1 h4 hno hnm HNM;(have hk0:(0:Int)≤(k:Int):=by omega);(have hkn:(k:Int)<(n:Int):=by omega);(have f1:¬yk<1:=by omega);(have f4:¬4<yk:=by omega);(have ge:(bs yo).toList.isEmpty=yo.isEmpty:=by rw [bs_toList]);by_cases hz:yo=[]
   ·have hk1:=hno hz;(have f5:(yk !=1)=false:=by rw [hk1];rfl);(rw [show yo.isEmpty=true from by rw [hz];rfl] at ge);clear hno hnm hz HNM h1 h4;go_wp2;go_roundg gg
    case measure=>omega
    case rel=>exact⟨k+1,by go_num,by omega,HBW⟩
   ·have hb:=hnm hz;rw [hb] at HNM;(rw [show yo.isEmpty=false from by cases yo with|nil=>exact absurd rfl hz|cons _ _=>rfl] at ge);clear hno hnm hz h1 h4 hb;(go_wp2_with fail);refine (HNM.out _).mono ?_;rintro e w2 ⟨rfl,hw2⟩;subst hw2;go_wp2;go_roundg gg
    case measure=>omega
    case rel=>exact⟨k+1,by go_num,by omega,HBW⟩
  ·(have k1:¬(k:Int)<(n:Int):=by omega);(have g8:(n:Int)≤8:=by omega);(have HOW:=Hd (own8_calls G a n c W1 (HV.out.on HBW.out) (by omega)));rw [HM.out] at HOW;(go_wp2_with fail);refine HOW.out.mono ?_;rintro e w2 ⟨pa,pc,rfl,ht,hb2⟩;have HT:=Hd ht;have HB2:=Hd (HBW.out.trans (hb2.mono HBW.out.size));clear ht hb2;(go_wp2_with fail);refine (HNS.out w2 pa pc HT.out).mono ?_;rintro e w3 ⟨rfl,hb3⟩;have HB3:=Hd (HB2.out.trans (hb3.mono HB2.out.size));clear hb3;go_wp2;go_ret;exact⟨rfl,HB3.out⟩
end
def inOwn (G:List AggL) (x:List UInt8):Bool:=decide (x∈G.map AggL.m)
def restQ (V:List (List UInt8)) (G:List AggL):List (List UInt8):=V.filter fun x=>!inOwn G x
def aggsOf (V:List (List UInt8)) (G:List AggL):List (List UInt8):=V.filter (inOwn G)
theorem nodup_names:∀{V:List (List UInt8)},(∀k (hk:k<V.length),¬V[k]∈V.take k)→V.Nodup
  | [],_=>List.nodup_nil
  | x::V,h=>by
    refine List.nodup_cons.2 ⟨fun c=>?_,nodup_names fun k hk c=>?_⟩
    · obtain⟨j,hj,e⟩:=List.getElem_of_mem c
      exact h (j+1) (by simp;exact hj) (by simp [e])
    · exact h (k+1) (by simp;exact hk) (by simp;exact .inr c)
theorem plain_own:∀(V:List (List UInt8)) (G:List AggL) (P:List (List UInt8)),V.Nodup→plainQ V G=(P,true)→aggsOf V G=G.map AggL.m∧restQ V G=P
  | [],G,P,_,h=>by
    rw [plainQ] at h
    injection h with h1 h2
    cases G with
    | nil=>exact⟨rfl,h1⟩
    | cons=>cases h2
  | x::V,[],P,hd,h=>by
    rw [plainQ] at h
    injection h with h1 h2
    have ih:=plain_own V [] (plainQ V []).1 (List.nodup_cons.1 hd).2 (Prod.ext rfl h2)
    unfold aggsOf restQ at ih ⊢
    refine⟨?_,?_⟩
    · rw [List.filter_cons_of_neg (by simp [inOwn])];exact ih.1
    · rw [List.filter_cons_of_pos (by simp [inOwn]),ih.2];exact h1
  | x::V,g::G,P,hd,h=>by
    have hx:=(List.nodup_cons.1 hd).1
    rw [plainQ] at h
    split at h
    · rename_i e
      have ih:=plain_own V G P (List.nodup_cons.1 hd).2 h
      have hf:∀y∈V,inOwn (g::G) y=inOwn G y:=fun y hy=>by
        have:y≠g.m:=fun c=>hx (by rw [←e,←c];exact hy)
        simp [inOwn,this]
      unfold aggsOf restQ at ih ⊢
      refine⟨?_,?_⟩
      · rw [List.filter_cons_of_pos (by simp [inOwn,e]),List.filter_congr hf,ih.1,List.map_cons,e]
      · rw [List.filter_cons_of_neg (by simp [inOwn,e]),List.filter_congr (fun y hy=>by rw [hf y hy]),ih.2]
    · injection h with h1 h2
      have ih:=plain_own V (g::G) (plainQ V (g::G)).1 (List.nodup_cons.1 hd).2 (Prod.ext rfl h2)
      have hn:inOwn (g::G) x=false:=by
        unfold inOwn
        rw [decide_eq_false]
        intro c
        rw [←ih.1] at c
        exact hx (List.mem_filter.1 c).1
      unfold aggsOf restQ at ih ⊢
      refine⟨?_,?_⟩
      · rw [List.filter_cons_of_neg (by rw [hn];decide)];exact ih.1
      · rw [List.filter_cons_of_pos (by rw [hn];rfl),ih.2];exact h1
structure FormedR (q:QueryL):Prop where
  rV:namesB [] q.V=true
  lV:q.V.length≤32
  rB:namesB [] q.B=true
  lB:q.B.length≤32
  rG:∀g∈q.G,AgR g
  lG:q.G.length≤8
  rN:namesB [] (q.G.map AggL.m)=true
  rO:∀k∈q.O,nameL k.m=true
  lO:q.O.length≤32
  e1:-1≤q.lim
  e2:q.lim≤999999999
  e3:0≤q.off
  e4:q.off≤999999999
  gr:q.gr=(decide (0<q.G.length)||decide (0<q.B.length))
structure ScopedR (q:QueryL) (I:List (List UInt8)):Prop where
  own:aggsOf q.V q.G=q.G.map AggL.m
  restI:∀x∈restQ q.V q.G,x∈I
  restB:q.gr=true→∀x∈restQ q.V q.G,x∈q.B
  bI:∀x∈q.B,x∈I
  gI:∀g∈q.G,¬g.m∈I
  oI:∀g∈q.G,g.o≠[]→g.o∈I
  kV:∀k∈q.O,k.m∈q.V
  nz:0<q.V.length∨(I=[]∧q.gr=false)
theorem allIn_mem {l I:List (List UInt8)} (h:allIn l I=true):∀x∈l,x∈I:=fun x hx=>of_decide_eq_true (List.all_eq_true.1 h x hx)
theorem formed_scoped {q:QueryL} {I:List (List UInt8)} (h:formedQ q=true) (hs:scopedQ q I=true):FormedR q∧ScopedR q I:=by
 (unfold formedQ countsQ namesQ aggsQ namesQ keysQ at h);(simp only [Bool.and_eq_true,decide_eq_true_eq,List.all_eq_true] at h);obtain⟨⟨e1,e2,e3,e4⟩,hgr,⟨lV,rV⟩,⟨lB,rB⟩,⟨lG,aG,lN,rN⟩,lO,rO⟩:=h;(unfold scopedQ at hs);(simp only [Bool.and_eq_true,List.all_eq_true] at hs);obtain⟨s1,s2,s3,s4,s5,s6,s7⟩:=hs;(have hp:=plain_own q.V q.G (plainQ q.V q.G).1 (nodup_names fun k hk=>(names_each rV k hk).2) (Prod.ext rfl s2));have hpl:∀g∈q.G,¬g.m∈I∧(g.o≠[]→g.o∈I):=fun g hg=>by
  have:=s6 g hg;(unfold placedQ at this);(simp only [Bool.and_eq_true] at this);obtain⟨p2,p1⟩:=this;refine⟨fun c=>?_,fun e=>?_⟩
  ·rw [decide_eq_true c] at p1;cases p1
  ·(rw [show g.o.isEmpty=false from by cases hh:g.o with|nil=>exact absurd hh e|cons=>rfl] at p2);exact of_decide_eq_true p2
 refine⟨⟨rV,lV,rB,lB,fun g hg=>?_,lG,rN,rO,lO,e1,e2,e3,e4,hgr⟩,⟨hp.1,?_,fun hg=>?_,allIn_mem s4,fun g hg=>(hpl g hg).1,fun g hg=>(hpl g hg).2,fun k hk=>of_decide_eq_true (s7 k hk),?_⟩⟩
 ·have:=aG g hg;(unfold aggB ofNameB at this);(simp only [Bool.and_eq_true,Bool.or_eq_true,decide_eq_true_eq] at this);obtain⟨a1,a2,a3⟩:=this;refine⟨a1,a2,fun e=>?_,fun e=>?_⟩
  ·rcases a3 with a3|a3
   ·rw [e] at a3;exact absurd a3 (by decide)
   ·exact a3.2
  ·rcases a3 with a3|a3
   ·exact a3
   ·exact absurd (List.isEmpty_iff.1 a3.1) e
 ·rw [hp.2];exact allIn_mem s3
 ·rw [hp.2];rw [hg,Bool.true_and,Bool.not_not] at s5;exact allIn_mem s5
 ·by_cases c:0<q.V.length
  ·exact .inl c
  ·(right);(have hv:q.V.isEmpty=true:=by rw [List.isEmpty_iff];exact List.eq_nil_of_length_eq_zero (by omega));rw [hv,Bool.true_and] at s1;cases hi:I with
   | nil =>
     rw [hi] at s1;refine⟨rfl,?_⟩;cases hg:q.gr with
     | true=>rw [hg] at s1;cases s1
     | false=>rfl
   | cons=>rw [hi] at s1;cases s1
structure BareR (q:QueryL):Prop where
  v:q.V.length=0
  g:q.G.length=0
  b:q.B.length=0
  o:q.O.length=0
  d:q.dist=false
  gr:q.gr=false
  lim:q.lim = -1
  off:q.off=0
theorem bare_r {q:QueryL} (h:bareQ q=true):BareR q:=by
  rw [bare_is] at h
  simp only [Bool.and_eq_true,decide_eq_true_eq,Bool.not_eq_true'] at h
  obtain⟨h1,h2,h3,h4,h5⟩:=h
  exact⟨by omega,by omega,by omega,by omega,h2,h3,h4,h5⟩
theorem check_zero {q:QueryL} (h:checkQ q=0):checkC q.C=0∧(q.ask=true→BareR q)∧(q.ask=false→FormedR q∧ScopedR q (starM q.C)):=by
  unfold checkQ at h
  split at h
  · rename_i c;exact absurd h c
  · rename_i c
    refine⟨by omega,fun ha=>?_,fun ha=>?_⟩
    · rw [if_pos ha] at h
      split at h
      · rename_i hb;exact bare_r hb
      · cases h
    · rw [if_neg (by rw [ha];decide)] at h
      split at h
      · rename_i hf
        split at h
        · rename_i hs;exact formed_scoped hf hs
        · cases h
      · cases h
end Go.Proofs.YtjpfoophipcglaaGreatDoor
