/- Groups with UNION between; an element that stands by itself: the reader of a query. -/
import Derived.Test.YtekebddhaieipaaGreatDoorKTakeKit
import Derived.Test.YtekebddhaieipaaGreatDoorKQOpts
import Derived.Test.YtekebddhaieipaaGreatDoorKQVals
import Derived.WalkMore
namespace Go.Proofs.YtekebddhaieipaaGreatDoor
set_option maxRecDepth 100000
set_option maxHeartbeats 8000000
section
open Go.RowKit
def UniF (A X:Nat) (v:Value) (L:List TokL) (U:QV) (cv:Value) (w:World) (R:RG) (g:Nat) (ok:Bool) (wr:World):Prop :=
  ∃(a:Nat) (C:List OpL) (cv':Value),QRd A X v L a U C cv' wr∧Ch (rdS X cv) (rdS X cv') w wr∧(ok=true→Room L a C∧2*(L.length - a)+1≤g)∧(if ok=true then runQ L g .more a C=R else R=⟨false,a,C,[]⟩)
theorem uniR_of {A X:Nat} {v:Value} {L:List TokL} (E:Env L) (f:Nat) (IG:∀g,g≤f→GrpR A X v L g):UniR A X v L f:=by
 intro a C U cv w hf hr h hbr;have hmb:=((run_most L f).1).brace a C hbr;have hgo:=((run_most L f).1).goes a C h.le;have HIG:=Hd IG;have HG:=Hd (IG f (Nat.le_refl _) a C U cv w hf hr h);(have HWD:=Hd (fun K a C b cv W (hW:QRd A X v L a U C cv W) (hK:isW L a 1 kUNION=K) (hb:stepA K a=b)=>qword_calls hW E.len kUNION K hK b hb));have HE:=Hd E;have hal:=isW_lt hbr;obtain⟨R,hR⟩:∃R,unionQ (runQ L f) a C=R:=⟨_,rfl⟩;have HR:=Hd hR;rw [hR];(unfold unionQ at HR);obtain⟨m1,m2,m3⟩:=hmb;have hmG:(grpQ (runQ L f .unf a C)).C.length+2+6*a≤C.length+6*(grpQ (runQ L f .unf a C)).a:=by
  simp only [grpQ,List.length_append,List.length_cons,List.length_nil,List.length_map] at m3 ⊢;omega
 have hm2:(grpQ (runQ L f .unf a C)).a≤L.length:=m2;have hgo2:(grpQ (runQ L f .unf a C)).ok=true→a+1≤(grpQ (runQ L f .unf a C)).a:=hgo;(have hF:(grpQ (runQ L f .unf a C)).F=[]:=rfl);generalize grpQ (runQ L f .unf a C)=r at HG HR hmG hm2 hgo2 hF;obtain⟨ok,b,D,F⟩:=r;dsimp only at HG HR hmG hm2 hgo2 hF;subst hF;(unfold Room at hr);clear h IG m1 m2 m3 hR hgo E;(go_enter Tryz.func160,Tryz.ntmps160);(go_wp2_with fail);refine HG.out.mono ?_;rintro e w1 ⟨rfl,cv1,h1,hc1⟩;have H1:=Hd h1;have HC1:=Hd hc1;clear h1 hc1;dsimp only at *;go_wp2;go_loopg [3] f (fun g okv wr=>∃m,okv=.bool m∧g≤f∧Hid (UniF A X v L U cv w R g m wr))
 case atStart =>
  refine⟨ok,rfl,Nat.le_refl _,Hd ⟨b,D,cv1,H1.out,HC1.out,fun hc=>⟨?_,?_⟩,?_⟩⟩
  · unfold Room;omega
  · have:=hgo2 hc;omega
  · have:=HR.out;cases ok with
    | true=>rw [if_pos rfl] at this ⊢;exact this
    | false=>rw [if_neg (by decide)] at this ⊢;exact this.symm
 case round =>
  obtain⟨W1,rfl⟩:∃W1,W1=wr:=⟨_,rfl⟩;obtain⟨m,rfl,hgf,hrel⟩:=hrel;obtain⟨b,D,cvk,hq,hc,hrm,hrun⟩:=hrel.out;have HQ:=Hd hq;have HC:=Hd hc;have hble:=hq.le;clear hq hc hrel;cases m with
  | false =>
    (rw [if_neg (by decide)] at hrun);have HRR:=Hd hrun;clear hrun;go_wp2;go_ret;rw [HRR.out];exact⟨rfl,cvk,HQ.out,HC.out⟩
  | true =>
    (obtain⟨hroom,hfu⟩:=hrm rfl);(obtain⟨g,rfl⟩:∃g,gk=g+1:=⟨gk - 1,by omega⟩);rw [if_pos rfl,runQ] at hrun;clear hrm;cases hK:isW L b 1 kUNION with
    | false =>
      (rw [if_neg (by rw [hK];decide)] at hrun);have HRR:=Hd hrun;have HS:=Hd (HWD.out false b D b cvk _ HQ.out hK rfl);clear hrun hK;(go_wp2_with fail);refine HS.out.mono ?_;rintro e w2 ⟨rfl,cv2,h2,hc2⟩;have H2:=Hd h2;have HC2:=Hd (HC.out.trans hc2);clear h2 hc2;go_wp2;go_ret;rw [← HRR.out];exact⟨rfl,cv2,H2.out,HC2.out⟩
    | true =>
      rw [if_pos hK] at hrun;have hbl:=isW_lt hK;have HS:=Hd (HWD.out true b D (b+1) cvk _ HQ.out hK rfl);(have hr1:Room L (b+1) D:=by unfold Room at hroom ⊢;omega);(have hf1:2*(L.length - (b+1))+1≤g:=by omega);(have hmr:=grp_most (((run_most L g).1).unf (b+1) D (by omega)));(have hgo3:(grpQ (runQ L g .unf (b+1) D)).ok=true→b+1+1≤(grpQ (runQ L g .unf (b+1) D)).a:=((run_most L g).1).goes (b+1) D (by omega));(have HGG:=Hd (fun cv W (hW:QRd A X v L (b+1) U D cv W)=>HIG.out g (by omega) (b+1) D U cv W hf1 hr1 hW));(have hF:(grpQ (runQ L g .unf (b+1) D)).F=[]:=rfl);obtain⟨k1,k2,k3⟩:=hmr;rw [hF,List.length_nil] at k3;have HRUN:=Hd hrun;generalize grpQ (runQ L g .unf (b+1) D)=r at HGG HRUN k1 k2 k3 hgo3 hF;obtain⟨ok2,b2,D2,F2⟩:=r;dsimp only at HGG HRUN k1 k2 k3 hgo3 hF;subst hF;(have hD2:D2.length≤2000000:=by unfold Room at hroom;omega);(have HL:=Hd (fun (cv':Value) W (hW:QRd A X v L b2 U D2 cv' W)=>lay_calls hW (opK 4) (opS0 none 0 0) (held_op0 _ _ _ _ _) hD2));(simp only [OpL.v,opK,opS0,bs_nil] at HL);have HREL:Hid (∀(cv4:Value) (w4:World),QRd A X v L b2 U (D2++[opK 4]) cv4 w4→Ch (rdS X cv) (rdS X cv4) w w4→UniF A X v L U cv w R g ok2 w4):=Hd fun cv4 w4 hq4 hc4=>by
       refine⟨b2,D2++[opK 4],cv4,hq4,hc4,fun hc=>⟨?_,?_⟩,?_⟩
       · (unfold Room at hroom ⊢);rw [List.length_append,List.length_singleton];have:=hgo3 hc;omega
       · have:=hgo3 hc;omega
       · have:=HRUN.out;cases ok2 with
         | true=>rw [if_pos rfl] at this ⊢;exact this
         | false=>rw [if_neg (by decide)] at this ⊢;exact this.symm
      clear hrun hK hr1 hf1 k1 k2 k3 hroom hgo3;(go_wp2_with fail);refine HS.out.mono ?_;rintro e w2 ⟨rfl,cv2,h2,hc2⟩;have H2:=Hd h2;have HC2:=Hd (HC.out.trans hc2);clear h2 hc2;(go_wp2_with fail);refine (HGG.out cv2 _ H2.out).mono ?_;rintro e w3 ⟨rfl,cv3,h3,hc3⟩;have H3:=Hd h3;have HC3:=Hd (HC2.out.trans hc3);clear h3 hc3;(go_wp2_with fail);refine (HL.out cv3 _ H3.out).mono ?_;rintro e w4 ⟨rfl,cv4,h4,hc4⟩;have HX4:=Hd (HREL.out cv4 _ h4 (HC3.out.trans hc4));clear h4 hc4;go_wp2;go_roundg g
      case measure=>omega
      case rel=>exact⟨ok2,rfl,by omega,HX4⟩
theorem pieR_of {A X:Nat} {v:Value} {L:List TokL} (E:Env L) (f:Nat) (IS:SerR A X v L f) (IUn:UniR A X v L f):PieR A X v L f:=by
 intro a C U cv w hf hr h;have H0:=Hd h;have HC0:=Hd (Ch.refl (rdS X cv) w);(have hC:C.length≤2000000:=by unfold Room at hr;omega);(unfold pieceQ);cases hK1:isW L a 1 kVALUES with
 | true =>
   rw [if_pos rfl];(have HT1:=Hd (fun cv W (hW:QRd A X v L a U C cv W)=>qword_calls hW E.len kVALUES true hK1 _ rfl));(have HV:=Hd (fun cv W (hW:QRd A X v L (a+1) U C cv W)=>qvalues_calls hW E hC));generalize valuesM L (a+1) C=r at HV ⊢;clear h hf hr IS IUn hK1 E;(go_enter Tryz.func119,Tryz.ntmps119);(go_wp2_with fail);refine (HT1.out _ _ H0.out).mono ?_;rintro e w1 ⟨rfl,cv1,h1,hc1⟩;have H1:=Hd h1;have HC1:=Hd (HC0.out.trans hc1);have HD1:=Hd hc1;clear h1 hc1;(go_wp2_with fail);refine (HV.out _ _ H1.out).mono ?_;rintro e w2 ⟨rfl,cv2,h2,hc2⟩;have H2:=Hd h2;have HC2:=Hd (HC1.out.trans hc2);have HD2:=Hd hc2;clear h2 hc2;go_wp2;go_ret;exact⟨rfl,cv2,H2.out,HC2.out⟩
 | false =>
   (rw [if_neg (by decide)]);(have HT1:=Hd (fun cv W (hW:QRd A X v L a U C cv W)=>qword_calls hW E.len kVALUES false hK1 _ rfl));cases hK2:isW L a 1 kSERVICE with
   | true =>
     rw [if_pos rfl];have hal:=isW_lt hK2;(have HT2:=Hd (fun cv W (hW:QRd A X v L a U C cv W)=>qword_calls hW E.len kSERVICE true hK2 _ rfl));(have HV:=Hd (fun cv W (hW:QRd A X v L (a+1) U C cv W)=>IS (a+1) C U cv W (by omega) (by unfold Room at hr ⊢;omega) hW));generalize serviceQ (runQ L f) L (a+1) C=r at HV ⊢;clear h hf hr IS IUn hK1 hK2 E;(go_enter Tryz.func119,Tryz.ntmps119);(go_wp2_with fail);refine (HT1.out _ _ H0.out).mono ?_;rintro e w1 ⟨rfl,cv1,h1,hc1⟩;have H1:=Hd h1;have HC1:=Hd (HC0.out.trans hc1);have HD1:=Hd hc1;clear h1 hc1;(go_wp2_with fail);refine (HT2.out _ _ H1.out).mono ?_;rintro e w2 ⟨rfl,cv2,h2,hc2⟩;have H2:=Hd h2;have HC2:=Hd (HC1.out.trans hc2);have HD2:=Hd hc2;clear h2 hc2;(go_wp2_with fail);refine (HV.out _ _ H2.out).mono ?_;rintro e w3 ⟨rfl,cv3,h3,hc3⟩;have H3:=Hd h3;have HC3:=Hd (HC2.out.trans hc3);have HD3:=Hd hc3;clear h3 hc3;go_wp2;go_ret;exact⟨rfl,cv3,H3.out,HC3.out⟩
   | false =>
     (rw [if_neg (by decide)]);(have HT2:=Hd (fun cv W (hW:QRd A X v L a U C cv W)=>qword_calls hW E.len kSERVICE false hK2 _ rfl));cases hK3:isW L a 5 s_begin with
     | true =>
       rw [if_pos rfl];(have HT3:=Hd (fun cv W (hW:QRd A X v L a U C cv W)=>qis_calls hW E.len 5 s_begin true hK3));(have HV:=Hd (fun cv W (hW:QRd A X v L a U C cv W)=>IUn a C U cv W hf hr hW hK3));generalize unionQ (runQ L f) a C=r at HV ⊢;clear h hf hr IS IUn hK1 hK2 hK3 E;(go_enter Tryz.func119,Tryz.ntmps119);(go_wp2_with fail);refine (HT1.out _ _ H0.out).mono ?_;rintro e w1 ⟨rfl,cv1,h1,hc1⟩;have H1:=Hd h1;have HC1:=Hd (HC0.out.trans hc1);have HD1:=Hd hc1;clear h1 hc1;(go_wp2_with fail);refine (HT2.out _ _ H1.out).mono ?_;rintro e w2 ⟨rfl,cv2,h2,hc2⟩;have H2:=Hd h2;have HC2:=Hd (HC1.out.trans hc2);have HD2:=Hd hc2;clear h2 hc2;(go_wp2_with fail);refine (HT3.out _ _ H2.out).mono ?_;rintro e w3 ⟨rfl,n,rfl⟩;have H3:=Hd (H2.out.on (below_draws _ n));have HC3:=Hd (HC2.out.trans (Ch.of_below (below_draws _ n)));(go_wp2_with fail);refine (HV.out _ _ H3.out).mono ?_;rintro e w4 ⟨rfl,cv4,h4,hc4⟩;have H4:=Hd h4;have HC4:=Hd (HC3.out.trans hc4);clear h4 hc4;go_wp2;go_ret;exact⟨rfl,cv4,H4.out,HC4.out⟩
     | false =>
       (rw [if_neg (by decide)]);(have HT3:=Hd (fun cv W (hW:QRd A X v L a U C cv W)=>qis_calls hW E.len 5 s_begin false hK3));(have HV:=Hd (fun cv W (hW:QRd A X v L a U C cv W)=>qbasic_calls hW E hC));generalize basicM L a C=r at HV ⊢;clear h hf hr IS IUn hK1 hK2 hK3 E;(go_enter Tryz.func119,Tryz.ntmps119);(go_wp2_with fail);refine (HT1.out _ _ H0.out).mono ?_;rintro e w1 ⟨rfl,cv1,h1,hc1⟩;have H1:=Hd h1;have HC1:=Hd (HC0.out.trans hc1);have HD1:=Hd hc1;clear h1 hc1;(go_wp2_with fail);refine (HT2.out _ _ H1.out).mono ?_;rintro e w2 ⟨rfl,cv2,h2,hc2⟩;have H2:=Hd h2;have HC2:=Hd (HC1.out.trans hc2);have HD2:=Hd hc2;clear h2 hc2;(go_wp2_with fail);refine (HT3.out _ _ H2.out).mono ?_;rintro e w3 ⟨rfl,n,rfl⟩;have H3:=Hd (H2.out.on (below_draws _ n));have HC3:=Hd (HC2.out.trans (Ch.of_below (below_draws _ n)));(go_wp2_with fail);refine (HV.out _ _ H3.out).mono ?_;rintro e w4 ⟨rfl,cv4,h4,hc4⟩;have H4:=Hd h4;have HC4:=Hd (HC3.out.trans hc4);clear h4 hc4;go_wp2;go_ret;exact⟨rfl,cv4,H4.out,HC4.out⟩
end
section
open Go.RowKit
theorem qfilter_calls {A X:Nat} {v cv:Value} {L:List TokL} {a:Nat} {U:QV} {C:List OpL} {w:World} (h:QRd A X v L a U C cv w) (E:Env L) :
    Calls Tryz.prog 114 #[.pointer (some ⟨X,0,none⟩)] w (FT A X v L U cv (filterM L a) C w):=by
 have H0:=Hd h;have HC0:=Hd (Ch.refl (rdS X cv) w);(unfold filterM);cases hK:isW L a 5 s_open with
 | false =>
   (rw [if_neg (by decide)]);(have HT1:=Hd (fun cv W (hW:QRd A X v L a U C cv W)=>qsign_calls hW E.len s_open false (hK) _ rfl));clear h hK E;(go_enter Tryz.func114,Tryz.ntmps114);(go_wp2_with fail);refine (HT1.out _ _ H0.out).mono ?_;rintro e w1 ⟨rfl,cv1,h1,hc1⟩;have H1:=Hd h1;have HC1:=Hd (HC0.out.trans hc1);have HD1:=Hd hc1;clear h1 hc1;go_wp2;(refine bodyPost_ret (v:=.tuple #[.slice none 0 0,.bool false]) (by simp [results,Tryz.results114,go_sem]) rfl ?_);exact⟨cv1,none,0,rfl,H1.out,HC1.out,fun w' _=>arg_none w',fun _=>rfl⟩
 | true =>
   rw [if_pos rfl];(have HF:=Hd (fun cv W (hW:QRd A X v L (a+1) U C cv W)=>qformula_calls hW E));cases hO:(formM L (a+1)).ok with
   | false =>
     (rw [if_neg (by decide)]);rw [form_fails hO] at HF;(have HT1:=Hd (fun cv W (hW:QRd A X v L a U C cv W)=>qsign_calls hW E.len s_open true (hK) _ rfl));clear h hK E hO;(go_enter Tryz.func114,Tryz.ntmps114);(go_wp2_with fail);refine (HT1.out _ _ H0.out).mono ?_;rintro e w1 ⟨rfl,cv1,h1,hc1⟩;have H1:=Hd h1;have HC1:=Hd (HC0.out.trans hc1);have HD1:=Hd hc1;clear h1 hc1;(go_wp2_with fail);refine (HF.out _ _ H1.out).mono ?_;rintro e w2 ⟨cv2,fa,fc,rfl,h2,hc2,hp2,hz2⟩;have H2:=Hd h2;have HC2:=Hd (HC1.out.trans hc2);have HP2:=Hd hp2;have HZ2:=Hd hz2;clear h2 hc2 hp2 hz2;go_wp2;(refine bodyPost_ret (v:=.tuple #[.slice fa 0 fc,.bool false]) (by simp [results,Tryz.results114,go_sem]) rfl ?_);exact⟨cv2,fa,fc,rfl,H2.out,HC2.out,HP2.out,HZ2.out⟩
   | true =>
     rw [if_pos rfl];generalize formM L (a+1)=r at HF hO ⊢;obtain⟨ok,b,f⟩:=r;dsimp only at hO;subst hO;dsimp only at HF ⊢;obtain⟨K,hK2⟩:∃K,isW L b 5 s_close=K:=⟨_,rfl⟩;rw [hK2];(have HT1:=Hd (fun cv W (hW:QRd A X v L a U C cv W)=>qsign_calls hW E.len s_open true (hK) _ rfl));(have HT3:=Hd (fun cv W (hW:QRd A X v L b U C cv W)=>qsign_calls hW E.len s_close K (hK2) _ rfl));clear h hK hK2 E;(go_enter Tryz.func114,Tryz.ntmps114);(go_wp2_with fail);refine (HT1.out _ _ H0.out).mono ?_;rintro e w1 ⟨rfl,cv1,h1,hc1⟩;have H1:=Hd h1;have HC1:=Hd (HC0.out.trans hc1);have HD1:=Hd hc1;clear h1 hc1;(go_wp2_with fail);refine (HF.out _ _ H1.out).mono ?_;rintro e w2 ⟨cv2,fa,fc,rfl,h2,hc2,hp2,hz2⟩;have H2:=Hd h2;have HC2:=Hd (HC1.out.trans hc2);have HP2:=Hd hp2;have HZ2:=Hd hz2;clear h2 hc2 hp2 hz2;(go_wp2_with fail);refine (HT3.out _ _ H2.out).mono ?_;rintro e w3 ⟨rfl,cv3,h3,hc3⟩;have H3:=Hd h3;have HC3:=Hd (HC2.out.trans hc3);have HD3:=Hd hc3;clear h3 hc3;go_wp2;(refine bodyPost_ret (v:=.tuple #[.slice fa f.length fc,.bool K]) (by simp [results,Tryz.results114,go_sem]) rfl ?_);exact⟨cv3,fa,fc,rfl,H3.out,HC3.out,HP2.out.onP HD3.out,HZ2.out⟩
theorem qbind_calls {A X:Nat} {v cv:Value} {L:List TokL} {a:Nat} {U:QV} {C:List OpL} {w:World} (h:QRd A X v L a U C cv w) (E:Env L) (hC:C.length≤2000000) :
    Calls Tryz.prog 118 #[.pointer (some ⟨X,0,none⟩)] w fun e w'=>e=.returned (.bool (bindM L a C).ok)∧QT A X v L U cv (bindM L a C).a (bindM L a C).C w w':=by
 have H0:=Hd h;have HC0:=Hd (Ch.refl (rdS X cv) w);(unfold bindM);cases hK:isW L a 5 s_open with
 | false =>
   (rw [if_neg (by decide)]);(have HT1:=Hd (fun cv W (hW:QRd A X v L a U C cv W)=>qsign_calls hW E.len s_open false (hK) _ rfl));clear h hK E;(go_enter Tryz.func118,Tryz.ntmps118);(go_wp2_with fail);refine (HT1.out _ _ H0.out).mono ?_;rintro e w1 ⟨rfl,cv1,h1,hc1⟩;have H1:=Hd h1;have HC1:=Hd (HC0.out.trans hc1);have HD1:=Hd hc1;clear h1 hc1;go_wp2;go_ret;exact⟨rfl,cv1,H1.out,HC1.out⟩
 | true =>
   rw [if_pos rfl];(have HF:=Hd (fun cv W (hW:QRd A X v L (a+1) U C cv W)=>qformula_calls hW E));cases hO:(formM L (a+1)).ok with
   | false =>
     (rw [if_neg (by decide)]);rw [form_fails hO] at HF;(have HT1:=Hd (fun cv W (hW:QRd A X v L a U C cv W)=>qsign_calls hW E.len s_open true (hK) _ rfl));clear h hK E hO;(go_enter Tryz.func118,Tryz.ntmps118);(go_wp2_with fail);refine (HT1.out _ _ H0.out).mono ?_;rintro e w1 ⟨rfl,cv1,h1,hc1⟩;have H1:=Hd h1;have HC1:=Hd (HC0.out.trans hc1);have HD1:=Hd hc1;clear h1 hc1;(go_wp2_with fail);refine (HF.out _ _ H1.out).mono ?_;rintro e w2 ⟨cv2,fa,fc,rfl,h2,hc2,hp2,hz2⟩;have H2:=Hd h2;have HC2:=Hd (HC1.out.trans hc2);have HP2:=Hd hp2;have HZ2:=Hd hz2;clear h2 hc2 hp2 hz2;go_wp2;go_ret;exact⟨rfl,cv2,H2.out,HC2.out⟩
   | true =>
     rw [if_pos rfl];generalize formM L (a+1)=r at HF hO ⊢;obtain⟨ok,b,f⟩:=r;dsimp only at hO;subst hO;dsimp only at HF ⊢;cases hK3:isW L b 1 kAS with
     | false =>
       (rw [if_neg (by decide)]);(have HT1:=Hd (fun cv W (hW:QRd A X v L a U C cv W)=>qsign_calls hW E.len s_open true (hK) _ rfl));(have HT3:=Hd (fun cv W (hW:QRd A X v L b U C cv W)=>qword_calls hW E.len kAS false (hK3) _ rfl));clear h hK hK3 E;(go_enter Tryz.func118,Tryz.ntmps118);(go_wp2_with fail);refine (HT1.out _ _ H0.out).mono ?_;rintro e w1 ⟨rfl,cv1,h1,hc1⟩;have H1:=Hd h1;have HC1:=Hd (HC0.out.trans hc1);have HD1:=Hd hc1;clear h1 hc1;(go_wp2_with fail);refine (HF.out _ _ H1.out).mono ?_;rintro e w2 ⟨cv2,fa,fc,rfl,h2,hc2,hp2,hz2⟩;have H2:=Hd h2;have HC2:=Hd (HC1.out.trans hc2);have HP2:=Hd hp2;have HZ2:=Hd hz2;clear h2 hc2 hp2 hz2;(go_wp2_with fail);refine (HT3.out _ _ H2.out).mono ?_;rintro e w3 ⟨rfl,cv3,h3,hc3⟩;have H3:=Hd h3;have HC3:=Hd (HC2.out.trans hc3);have HD3:=Hd hc3;clear h3 hc3;go_wp2;go_ret;exact⟨rfl,cv3,H3.out,HC3.out⟩
     | true =>
       rw [if_pos rfl];(have HV:=Hd (fun cv W (hW:QRd A X v L (b+1) U C cv W)=>qvar_calls hW E.len (E.tok (b+1))));generalize (tokAt L (b+1)).x=x at HV ⊢;(have HL:=Hd (fun (cv':Value) (fa:Option Addr) (fc:Nat) W (hW:QRd A X v L (nextA L (b+1)) U C cv' W) (hF:Held (hS U X cv') W fun w2=>ArgP w2 fa f.length fc f)=>lay_calls hW (bindOp f x) (opS0 fa f.length fc) (held_opF hF _ _ _) hC));(simp only [OpL.v,bindOp,opS0] at HL);cases hV:isVar (tokAt L (b+1)) with
       | false =>
         (rw [if_neg (by decide)]);rw [hV] at HV;(have HT1:=Hd (fun cv W (hW:QRd A X v L a U C cv W)=>qsign_calls hW E.len s_open true (hK) _ rfl));(have HT3:=Hd (fun cv W (hW:QRd A X v L b U C cv W)=>qword_calls hW E.len kAS true (hK3) _ rfl));clear h hK hK3 E hV hC;(go_enter Tryz.func118,Tryz.ntmps118);(go_wp2_with fail);refine (HT1.out _ _ H0.out).mono ?_;rintro e w1 ⟨rfl,cv1,h1,hc1⟩;have H1:=Hd h1;have HC1:=Hd (HC0.out.trans hc1);have HD1:=Hd hc1;clear h1 hc1;(go_wp2_with fail);refine (HF.out _ _ H1.out).mono ?_;rintro e w2 ⟨cv2,fa,fc,rfl,h2,hc2,hp2,hz2⟩;have H2:=Hd h2;have HC2:=Hd (HC1.out.trans hc2);have HP2:=Hd hp2;have HZ2:=Hd hz2;clear h2 hc2 hp2 hz2;(go_wp2_with fail);refine (HT3.out _ _ H2.out).mono ?_;rintro e w3 ⟨rfl,cv3,h3,hc3⟩;have H3:=Hd h3;have HC3:=Hd (HC2.out.trans hc3);have HD3:=Hd hc3;clear h3 hc3;(go_wp2_with fail);refine (HV.out _ _ H3.out).mono ?_;rintro e w4 ⟨rfl,cv4,h4,hc4⟩;have H4:=Hd h4;have HC4:=Hd (HC3.out.trans hc4);have HD4:=Hd hc4;clear h4 hc4;(go_wp2_with fail);refine (HL.out _ fa fc _ H4.out ((HP2.out.onP HD3.out).onP HD4.out)).mono ?_;rintro e w5 ⟨rfl,cv5,h5,hc5⟩;have H5:=Hd h5;have HC5:=Hd (HC4.out.trans hc5);clear h5 hc5;go_wp2;go_ret;exact⟨rfl,cv5,H5.out,HC5.out⟩
       | true =>
         rw [if_pos rfl];rw [hV] at HV;obtain⟨K,hK6⟩:∃K,isW L (nextA L (b+1)) 5 s_close=K:=⟨_,rfl⟩;rw [hK6];(have HT1:=Hd (fun cv W (hW:QRd A X v L a U C cv W)=>qsign_calls hW E.len s_open true (hK) _ rfl));(have HT3:=Hd (fun cv W (hW:QRd A X v L b U C cv W)=>qword_calls hW E.len kAS true (hK3) _ rfl));(have HT6:=Hd (fun cv W (hW:QRd A X v L (nextA L (b+1)) U (C++[bindOp f x]) cv W)=>qsign_calls hW E.len s_close K (hK6) _ rfl));(simp only [bindOp] at HT6);clear h hK hK3 hK6 E hV hC;(go_enter Tryz.func118,Tryz.ntmps118);(go_wp2_with fail);refine (HT1.out _ _ H0.out).mono ?_;rintro e w1 ⟨rfl,cv1,h1,hc1⟩;have H1:=Hd h1;have HC1:=Hd (HC0.out.trans hc1);have HD1:=Hd hc1;clear h1 hc1;(go_wp2_with fail);refine (HF.out _ _ H1.out).mono ?_;rintro e w2 ⟨cv2,fa,fc,rfl,h2,hc2,hp2,hz2⟩;have H2:=Hd h2;have HC2:=Hd (HC1.out.trans hc2);have HP2:=Hd hp2;have HZ2:=Hd hz2;clear h2 hc2 hp2 hz2;(go_wp2_with fail);refine (HT3.out _ _ H2.out).mono ?_;rintro e w3 ⟨rfl,cv3,h3,hc3⟩;have H3:=Hd h3;have HC3:=Hd (HC2.out.trans hc3);have HD3:=Hd hc3;clear h3 hc3;(go_wp2_with fail);refine (HV.out _ _ H3.out).mono ?_;rintro e w4 ⟨rfl,cv4,h4,hc4⟩;have H4:=Hd h4;have HC4:=Hd (HC3.out.trans hc4);have HD4:=Hd hc4;clear h4 hc4;(go_wp2_with fail);refine (HL.out _ fa fc _ H4.out ((HP2.out.onP HD3.out).onP HD4.out)).mono ?_;rintro e w5 ⟨rfl,cv5,h5,hc5⟩;have H5:=Hd h5;have HC5:=Hd (HC4.out.trans hc5);clear h5 hc5;(go_wp2_with fail);refine (HT6.out _ _ H5.out).mono ?_;rintro e w6 ⟨rfl,cv6,h6,hc6⟩;have H6:=Hd h6;have HC6:=Hd (HC5.out.trans hc6);have HD6:=Hd hc6;clear h6 hc6;go_wp2;go_ret;exact⟨rfl,cv6,H6.out,HC6.out⟩
end
section
open Go.RowKit
theorem info_parts1:(Tryz.prog.info? 55).map (fun i=>(i.zero,i.size,i.bytes))=some (some (.slice none 0 0),1,24):=by kernel_rfl
def QV.with (U:QV) (fv:Value):QV:=⟨U.ask,U.dist,U.vv,U.av,U.gr,U.gv,U.ov,U.lim,U.off,fun k=>U.P k∨fv.ownBlock=some k⟩
theorem held_less {U:QV} {fv cv:Value} {X:Nat} {w:World} {Q:World→Prop} (h:Held (hS (U.with fv) X cv) w Q):Held (hS U X cv) w Q:=fun w' ha=>h w' ⟨ha.1,fun k hk hn=>ha.2 k hk (fun c=>hn (c.elim .inl (fun d=>.inr (.inl d))))⟩
theorem qrd_less {A X:Nat} {v:Value} {L:List TokL} {a:Nat} {U:QV} {fv:Value} {C:List OpL} {cv:Value} {w:World} (h:QRd A X v L a (U.with fv) C cv w):QRd A X v L a U C cv w:=by
  refine⟨h.blk,?_,h.low,h.toks,h.good,h.le,fun k hk=>h.pl k (.inl hk)⟩
  obtain⟨PC,h1,h2,h3⟩:=h.code
  exact⟨PC,h1,h2,fun p hp=>held_less (h3 p hp)⟩
theorem fil_less {U:QV} {fv cv:Value} {X B:Nat} {w:World} {F:List (List PartL)} (h:FilR (U.with fv) X cv B w fv F):FilR U X cv B w fv F:=by
  obtain⟨PF,h1,h2,h3,h4,h5⟩:=h
  exact⟨PF,h1,h2,h3,fun p hp=>held_less (h4 p hp),h5⟩
theorem qrd_none {A X:Nat} {v:Value} {L:List TokL} {a:Nat} {U:QV} {C:List OpL} {cv:Value} {w:World} (h:QRd A X v L a U C cv w):QRd A X v L a (U.with (.slice none 0 0)) C cv w:=by
  have hn:∀k,¬ (Value.slice none 0 0).ownBlock=some k:=fun k c=>by simp [Value.ownBlock] at c
  refine⟨h.blk,?_,h.low,h.toks,h.good,h.le,fun k hk=>hk.elim (h.pl k) (fun c=>absurd c (hn k))⟩
  obtain⟨PC,h1,h2,h3⟩:=h.code
  exact⟨PC,h1,h2,fun p hp=>fun w' ha=>h3 p hp w' ⟨ha.1,fun k hk hno=>ha.2 k hk (fun c=>hno (c.elim .inl (fun d=>d.elim .inr (fun e=>absurd e (hn k)))))⟩⟩
theorem held_grown {U:QV} {fv fv' cv:Value} {X:Nat} {w w7:World} {Q:World→Prop} (h:Held (hS (U.with fv) X cv) w Q) (hg:w.grownBy w7 fv.ownBlock) (hn:∀g,fv'.ownBlock=some g→fv.ownBlock=some g∨w.heap.size≤g):Held (hS (U.with fv') X cv) w7 Q:=fun w2 h2 =>
  h w2 ⟨Nat.le_trans hg.size h2.1,fun k hk hno=>by
    rw [h2.2 k (Nat.lt_of_lt_of_le hk hg.size) (fun c=>hno (c.elim .inl (fun d=>d.elim (fun e=>.inr (.inl e)) (fun e=>(hn k e).elim (fun z=>.inr (.inr z)) (fun z=>by omega)))))]
    exact hg.block k hk (fun c=>hno (.inr (.inr c.symm)))⟩
theorem ch_grown {S S':Nat→Prop} {w w4 w7:World} {row:Option Nat} (h:Ch S S' w w4) (hg:w4.grownBy w7 row) (hr:∀g,row=some g→w.heap.size≤g):Ch S S' w w7 :=
  ⟨hg.os.trans h.os,hg.tape.trans h.tape,hg.output.trans h.output,Nat.le_trans h.size hg.size,fun k hk hn=>(hg.block k (Nat.lt_of_lt_of_le hk h.size) (fun c=>by have:=hr k c.symm;omega)).trans (h.block k hk hn),h.own⟩
theorem fil_more {A X M B g7 c7:Nat} {v v5:Value} {L:List TokL} {a:Nat} {U:QV} {C:List OpL} {cv:Value} {w4 w7:World} {PF:List PSl} {fa:Option Addr} {fc:Nat} {ff:List PartL}
    (hq:QRd A X v L a (U.with v5) C cv w4) (hB:A≤B) (hrow:w4.ownsRow B 55 1 v5 M (PF.map PSl.v)) (hS5:∀g,v5.ownBlock=some g→¬ rdS X cv g) (hheld:∀p∈PF,Held (hS (U.with v5) X cv) w4 fun w'=>ArgP w' p.a p.P.length p.c p.P) (h256:∀p∈PF,p.P.length≤256∧(p.a=none→p.c=0))
    (hf:Held (hS (U.with v5) X cv) w4 fun w'=>ArgP w' fa ff.length fc ff) (hf256:ff.length≤256) (hfz:fa=none→fc=0) (hown:w7.ownsRow B 55 1 (.slice (some ⟨g7,0,none⟩) (M+1) c7) (M+1) (PF.map PSl.v++[.slice fa ff.length fc])) (hM:PF.length=M) (hg:w4.grownBy w7 v5.ownBlock) (hat:v5.ownBlock=some g7∨w4.heap.size≤g7) :
    QRd A X v L a (U.with (.slice (some ⟨g7,0,none⟩) (M+1) c7)) C cv w7∧FilR (U.with (.slice (some ⟨g7,0,none⟩) (M+1) c7)) X cv B w7 (.slice (some ⟨g7,0,none⟩) (M+1) c7) (PF.map PSl.P++[ff]):=by
 have hn:∀g,(Value.slice (some ⟨g7,0,none⟩) (M+1) c7).ownBlock=some g→v5.ownBlock=some g∨w4.heap.size≤g:=fun g h=>by
  (simp only [Value.ownBlock,Option.some.injEq] at h);subst h;exact hat
 (have hb:Below A w4 w7:=(Below.refl A w4).grown hg hq.size (fun g h=>Nat.le_trans hB (hrow.lt g h).1));constructor
 · refine⟨?_,?_,hq.low,hq.toks.on hb,hq.good.on hb,hq.le,fun k hk=>?_⟩
   · have hbk:=hq.blk;(unfold Blk at hbk ⊢);(rw [hg.block X (blk_lt hq.blk) (fun c=>hS5 X c.symm (.inl rfl))]);exact hbk
   · obtain⟨PC,h1,h2,h3⟩:=hq.code;exact⟨PC,h1,row_at h2 (fun g h=>hg.block g (h2.lt g h).2 (fun c=>hS5 g c.symm (.inr h))),fun p hp=>held_grown (h3 p hp) hg hn⟩
   · rcases hk with hk|hk
     · exact Nat.lt_of_lt_of_le (hq.pl k (.inl hk)) hg.size
     · exact (hown.lt k hk).2
 · refine⟨PF++[⟨fa,fc,ff⟩],by rw [List.map_append];rfl,?_,fun g h=>?_,fun p hp=>?_,fun p hp=>?_⟩
   · rw [List.length_append,List.length_singleton,List.map_append,hM];exact hown
   · rcases hn g h with e|e
     · exact hS5 g e
     · exact new_notS hq e
   · rcases List.mem_append.1 hp with hp|hp
     · exact held_grown (hheld p hp) hg hn
     · rw [List.mem_singleton] at hp;subst hp;exact held_grown hf hg hn
   · rcases List.mem_append.1 hp with hp|hp
     · exact h256 p hp
     · rw [List.mem_singleton] at hp;subst hp;exact⟨hf256,hfz⟩
def ElmR (A X:Nat) (v:Value) (L:List TokL) (U:QV) (cv:Value) (w:World) (R:RG) (g:Nat) (fv:Value) (th ok:Bool) (wr:World):Prop :=
  ∃(a:Nat) (C:List OpL) (F:List (List PartL)) (cv':Value),QRd A X v L a (U.with fv) C cv' wr∧Ch (rdS X cv) (rdS X cv') w wr∧FilR (U.with fv) X cv' w.heap.size wr fv F∧C.length≤1000010∧(ok=true→C.length+F.length+6*(L.length - a)≤1000000∧2*(L.length - a)+2≤g)∧(if ok=true then runQ L g (.elems th F) a C=R else R=⟨false,a,groundQ th C,F⟩)
theorem unfR_of {A X:Nat} {v:Value} {L:List TokL} (E:Env L) (f:Nat) (IO:∀g,g<f→OptR A X v L g) (IM:∀g,g<f→MinR A X v L g) (IP:∀g,g<f→PieR A X v L g):UnfR A X v L f:=by
 intro a C U cv w hf hr h;(obtain⟨f,rfl⟩:∃f',f=f'+1:=⟨f - 1,by omega⟩);have hle:=h.le;have hA:=h.size;(unfold Room at hr);obtain⟨K,hO⟩:∃K,isW L a 5 s_begin=K:=⟨_,rfl⟩;obtain⟨R,hR⟩:∃R,runQ L (f+1) .unf a C=R:=⟨_,rfl⟩;have hR2:=hR;rw [runQ,hO] at hR2;have HR:=Hd hR2;rw [hR];(have hal:K=true→a<L.length:=fun c=>isW_lt (hO.trans c));have H0:=Hd h;have HC0:=Hd (Ch.refl (rdS X cv) w);(have HAB:=Hd (show A≤w.heap.size from hA));(have HT1:=Hd (fun cv W (hW:QRd A X v L a U C cv W)=>qsign_calls hW E.len s_begin K hO _ rfl));(have HSGN:=Hd (fun U a C K b cv W (hW:QRd A X v L a U C cv W) (hK:isW L a 5 s_end=K) (hb:stepA K a=b)=>qsign_calls hW E.len s_end K hK b hb));(have HWRD:=Hd (fun s U a C K b cv W (hW:QRd A X v L a U C cv W) (hK:isW L a 1 s=K) (hb:stepA K a=b)=>qword_calls hW E.len s K hK b hb));(have HFIL:=Hd (fun U a C cv W (hW:QRd A X v L a U C cv W)=>qfilter_calls hW E));(have HBND:=Hd (fun U a C cv W (hW:QRd A X v L a U C cv W) hC=>qbind_calls hW E hC));(have HGRD:=Hd (fun U a C b cv W (hW:QRd A X v L a U C cv W) hC=>ground_calls hW b hC));(have HJN:=Hd (fun U a C b cv W (hW:QRd A X v L a U C cv W) hC=>join_calls hW b hC));have HIO:=Hd IO;have HIM:=Hd IM;have HIP:=Hd IP;have hL:=E.len;obtain⟨j0,ji,jz0,jz1,jz2⟩:=info_parts info_parts1;clear h hO IO IM IP E hR hR2;(go_enter Tryz.func77,Tryz.ntmps77);go_wp2;go_step3;(go_wp2_with fail);refine (HT1.out _ _ H0.out).mono ?_;rintro e w1 ⟨rfl,cv1,h1,hc1⟩;have H1:=Hd h1;have HC1:=Hd (HC0.out.trans hc1);have HD1:=Hd hc1;clear h1 hc1;go_wp2;go_step3;go_wp2;go_loopg [4,5,6] f (fun g fx tv okv wr=>∃fv th ok,fv=fx∧tv=.bool th∧okv=.bool ok∧g≤f∧Hid (ElmR A X v L U cv w R g fv th ok wr))
 case atStart =>
  refine⟨_,false,K,rfl,rfl,rfl,Nat.le_refl _,Hd ⟨stepA K a,C,[],cv1,qrd_none H1.out,HC1.out,fil_nil _ _ _ _ _,by omega,fun hc=>?_,?_⟩⟩
  · subst hc;(have:=hal rfl);exact⟨by rw [List.length_nil];show C.length+0+6*(L.length - (a+1))≤1000000;omega,by show 2*(L.length - (a+1))+2≤f;omega⟩
  · have:=HR.out;cases K with
    | true=>rw [if_pos rfl] at this ⊢;exact this
    | false=>rw [if_neg (by decide)] at this ⊢;exact this.symm
 case round =>
  obtain⟨W1,rfl⟩:∃W1,W1=wr:=⟨_,rfl⟩;obtain⟨fv,th,ok,rfl,rfl,rfl,hgf,hrel⟩:=hrel;obtain⟨b,D,F,cvk,hq,hc,hfil,hD,hrm,hrun⟩:=hrel.out;have H0:=Hd hq;have HC0:=Hd hc;have HF0:=Hd hfil;have hble:=hq.le;clear hq hc hfil hrel;cases ok with
  | false =>
    (rw [if_neg (by decide)] at hrun);have HRR:=Hd hrun;(have HGR:=Hd (fun cv W hW=>HGRD.out (U.with fv) b D th cv W hW (by omega)));clear hrun;(go_wp2_with fail);refine (HGR.out _ _ H0.out).mono ?_;rintro e w1 ⟨rfl,cv1,h1,hc1⟩;have H1:=Hd h1;have HC1:=Hd (HC0.out.trans hc1);have HD1:=Hd hc1;clear h1 hc1;have HF1:=Hd (HF0.out.on HD1.out);go_wp2;(refine bodyPost_ret (v:=.tuple #[fv,.bool false]) (by simp [results,Tryz.results77,go_sem]) rfl ?_);rw [HRR.out];exact⟨cv1,fv,rfl,qrd_less H1.out,HC1.out,fil_less HF1.out⟩
  | true =>
    (obtain⟨hroom,hfu⟩:=hrm rfl);(obtain⟨g,rfl⟩:∃g,gk=g+1:=⟨gk - 1,by omega⟩);rw [if_pos rfl,runQ] at hrun;clear hrm;(have hD':D.length≤1000000:=by omega);cases hK:isW L b 5 s_end with
    | true =>
      rw [if_pos hK] at hrun;have HRR:=Hd hrun;(have HT1:=Hd (fun cv W hW=>HSGN.out (U.with fv) b D true _ cv W hW hK rfl));(have HGR:=Hd (fun cv W hW=>HGRD.out (U.with fv) (b+1) D th cv W hW (by omega)));clear hrun hK;(go_wp2_with fail);refine (HT1.out _ _ H0.out).mono ?_;rintro e w1 ⟨rfl,cv1,h1,hc1⟩;have H1:=Hd h1;have HC1:=Hd (HC0.out.trans hc1);have HD1:=Hd hc1;clear h1 hc1;have HF1:=Hd (HF0.out.on HD1.out);(go_wp2_with fail);refine (HGR.out _ _ H1.out).mono ?_;rintro e w2 ⟨rfl,cv2,h2,hc2⟩;have H2:=Hd h2;have HC2:=Hd (HC1.out.trans hc2);have HD2:=Hd hc2;clear h2 hc2;have HF2:=Hd (HF1.out.on HD2.out);go_wp2;(refine bodyPost_ret (v:=.tuple #[fv,.bool true]) (by simp [results,Tryz.results77,go_sem]) rfl ?_);rw [← HRR.out];exact⟨cv2,fv,rfl,qrd_less H2.out,HC2.out,fil_less HF2.out⟩
    | false =>
      (rw [if_neg (by rw [hK];decide)] at hrun);(have HT1:=Hd (fun cv W hW=>HSGN.out (U.with fv) b D false _ cv W hW hK rfl));cases hK2:isW L b 1 kFILTER with
      | true =>
        rw [if_pos hK2] at hrun;have hbl:=isW_lt hK2;(have HT2:=Hd (fun cv W hW=>HWRD.out kFILTER (U.with fv) b D true _ cv W hW hK2 rfl));(have HT3:=Hd (fun cv W hW=>HFIL.out (U.with fv) (b+1) D cv W hW));have hfm:=filter_most (L:=L) (a:=b+1) hbl;generalize filterM L (b+1)=r at HT3 hrun hfm;obtain⟨rok,rb,ff⟩:=r;dsimp only at hrun hfm;have HF256:=Hd hfm.2.2;have hfm1:=hfm.1;have hfm2:=hfm.2.1;have HREL:Hid (∀(cv4 fv':Value) (w4:World),QRd A X v L rb (U.with fv') D cv4 w4→Ch (rdS X cv) (rdS X cv4) w w4→FilR (U.with fv') X cv4 w.heap.size w4 fv' (F++[ff])→ElmR A X v L U cv w R g fv' th rok w4):=Hd fun cv4 fv' w4 hq4 hc4 hf4=>by
         refine⟨rb,D,F++[ff],cv4,hq4,hc4,hf4,hD,fun hc=>⟨?_,?_⟩,?_⟩
         · rw [List.length_append,List.length_singleton];omega
         · omega
         · cases rok with
           | true=>rw [if_pos rfl] at hrun ⊢;exact hrun
           | false=>rw [if_neg (by decide)] at hrun ⊢;exact hrun.symm
        (have hFl:F.length≤1000000:=by omega);clear hrun hK hK2 hfm;(go_wp2_with fail);refine (HT1.out _ _ H0.out).mono ?_;rintro e w1 ⟨rfl,cv1,h1,hc1⟩;have H1:=Hd h1;have HC1:=Hd (HC0.out.trans hc1);have HD1:=Hd hc1;clear h1 hc1;have HF1:=Hd (HF0.out.on HD1.out);(go_wp2_with fail);refine (HT2.out _ _ H1.out).mono ?_;rintro e w2 ⟨rfl,cv2,h2,hc2⟩;have H2:=Hd h2;have HC2:=Hd (HC1.out.trans hc2);have HD2:=Hd hc2;clear h2 hc2;have HF2:=Hd (HF1.out.on HD2.out);(go_wp2_with fail);refine (HT3.out _ _ H2.out).mono ?_;rintro e w4 ⟨cv4,fa,fc,rfl,h4,hc4,hp4,hz4⟩;dsimp only at h4 hp4 hz4;obtain⟨PF,hPF,hrow4,hS4,hheld4,h254⟩:=HF2.out.on hc4;have HQ4:=Hd h4;have HC4:=Hd (HC2.out.trans hc4);have HF4:=Hd hp4;have HFZ:=Hd hz4;have HH4:=Hd hheld4;have HN4:=Hd hS4;have H254:=Hd h254;obtain⟨M,hM⟩:∃M,PF.length=M:=⟨_,rfl⟩;have HM:=Hd hM;(have hM1:M≤1000000:=by rw [← hM,← List.length_map (f:=PSl.P),hPF];exact hFl);rw [hM] at hrow4;have HP4:=Hd hrow4;obtain⟨v5,c5,rfl⟩:=row_slice hrow4;have HPF:=Hd hPF;have hs4:=HC4.out.size;clear h4 hc4 hp4 hz4 hheld4 hS4 h254 hrow4 hM hPF;(go_wp2_with (at_builtin;go_must (refine wpList_append_lies _ rfl (.tmp 33) (.tmp 35) 118 rfl w.heap.size 55 j0 (.slice none 0 0) 1 24 Tryz.underlying118 ji jz0 jz1 jz2 rfl (by decide) _ _ _ rfl (HP4.out.alloc _) ⟨w4.heap.size,0,none⟩ 1 1 [.slice fa ff.length fc] rfl rfl (news_gen _ _ _ rfl) (by intro u hu;simp at hu;subst hu;rfl) (by decide) (by unfold maxLen;omega) (by omega) (by simp;omega) (w4.heap.size+1) (by simp) ?_;intro g7 c7 w7 hown7 hgrow7 hat7 hlt7;clear hlt7;have HK7:=Hd (fil_more HQ4.out HAB.out HP4.out HN4.out HH4.out H254.out HF4.out HF256.out HFZ.out hown7 HM.out (grown_one hgrow7) (hat7.imp id (fun e=>(by omega:w4.heap.size≤g7))));have HC7:=Hd (ch_grown HC4.out (grown_one hgrow7) (fun g hg=>(HP4.out.lt g hg).1));clear hown7 hgrow7 hat7)));(have HX7:=Hd (HREL.out cv4 _ _ HK7.out.1 HC7.out (by rw [← HPF.out];exact HK7.out.2)));go_wp2;go_roundg g
        case measure=>omega
        case rel=>exact⟨_,th,rok,rfl,rfl,rfl,by omega,HX7⟩
      | false =>
        (rw [if_neg (by rw [hK2];decide)] at hrun);(have HT2:=Hd (fun cv W hW=>HWRD.out kFILTER (U.with fv) b D false _ cv W hW hK2 rfl));have hem:=elem_most ((run_most L g).1) th D hble;have HREL:Hid (∀(cv4:Value) (w4:World),QRd A X v L (elemQ (runQ L g) L th b D).a (U.with fv) (elemQ (runQ L g) L th b D).C cv4 w4→Ch (rdS X cv) (rdS X cv4) w w4→FilR (U.with fv) X cv4 w.heap.size w4 fv F→ElmR A X v L U cv w R g fv true (elemQ (runQ L g) L th b D).ok w4):=Hd fun cv4 w4 hq4 hc4 hf4=>by
         obtain⟨⟨e1,e2,e3⟩,e4,e5⟩:=hem;rw [e4,List.length_nil] at e3;refine⟨_,_,F,cv4,hq4,hc4,hf4,by omega,fun hc=>?_,?_⟩
         · have:=e5 hc;exact⟨by omega,by omega⟩
         · cases hok:(elemQ (runQ L g) L th b D).ok with
           | true=>rw [if_pos hok] at hrun;rw [if_pos rfl];exact hrun
           | false=>rw [if_neg (by rw [hok];decide)] at hrun;rw [if_neg (by decide)];exact hrun.symm
        (have HRM:=Hd (show ∀D',D'.length≤D.length+1→b<L.length→Room L (b+1) D' from fun D' h1 h2=>by unfold Room;omega));have HG1:=Hd (ground_most th D);clear hrun hK hem;(have HW3:=Hd (fun s K cv W hW (hK:isW L b 1 s=K)=>HWRD.out s (U.with fv) b D K _ cv W hW hK rfl));(have HGR:=Hd (fun cv W hW=>HGRD.out (U.with fv) (b+1) D th cv W hW (by omega)));(unfold elemQ at HREL);cases hK3:isW L b 1 kOPTIONAL with
        | true =>
          rw [if_pos hK3] at HREL;have hbl:=isW_lt hK3;(have HT3:=Hd (fun cv W hW=>HW3.out kOPTIONAL true cv W hW hK3));(have HV:=Hd (fun cv W hW=>HIO.out g (by omega) (b+1) (groundQ th D) (U.with fv) cv W (by omega) (HRM.out _ HG1.out.2 hbl) hW));generalize optionalQ (runQ L g .unf (b+1) (groundQ th D))=r at HV HREL;clear hK3 hK2;(go_wp2_with fail);refine (HT1.out _ _ H0.out).mono ?_;rintro e w1 ⟨rfl,cv1,h1,hc1⟩;have H1:=Hd h1;have HC1:=Hd (HC0.out.trans hc1);have HD1:=Hd hc1;clear h1 hc1;have HF1:=Hd (HF0.out.on HD1.out);(go_wp2_with fail);refine (HT2.out _ _ H1.out).mono ?_;rintro e w2 ⟨rfl,cv2,h2,hc2⟩;have H2:=Hd h2;have HC2:=Hd (HC1.out.trans hc2);have HD2:=Hd hc2;clear h2 hc2;have HF2:=Hd (HF1.out.on HD2.out);(go_wp2_with fail);refine (HT3.out _ _ H2.out).mono ?_;rintro e w3 ⟨rfl,cv3,h3,hc3⟩;have H3:=Hd h3;have HC3:=Hd (HC2.out.trans hc3);have HD3:=Hd hc3;clear h3 hc3;have HF3:=Hd (HF2.out.on HD3.out);(go_wp2_with fail);refine (HGR.out _ _ H3.out).mono ?_;rintro e w4 ⟨rfl,cv4,h4,hc4⟩;have H4:=Hd h4;have HC4:=Hd (HC3.out.trans hc4);have HD4:=Hd hc4;clear h4 hc4;have HF4:=Hd (HF3.out.on HD4.out);(go_wp2_with fail);refine (HV.out _ _ H4.out).mono ?_;rintro e w5 ⟨rfl,cv5,h5,hc5⟩;have H5:=Hd h5;have HC5:=Hd (HC4.out.trans hc5);have HD5:=Hd hc5;clear h5 hc5;have HF5:=Hd (HF4.out.on HD5.out);have HX:=Hd (HREL.out cv5 _ H5.out HC5.out HF5.out);go_wp2;go_roundg g
          case measure=>omega
          case rel=>exact⟨fv,true,r.ok,rfl,rfl,rfl,by omega,HX⟩
        | false =>
          (rw [if_neg (by rw [hK3];decide)] at HREL);(have HT3:=Hd (fun cv W hW=>HW3.out kOPTIONAL false cv W hW hK3));cases hK4:isW L b 1 kMINUS with
          | true =>
            rw [if_pos hK4] at HREL;have hbl:=isW_lt hK4;(have HT4:=Hd (fun cv W hW=>HW3.out kMINUS true cv W hW hK4));(have HV:=Hd (fun cv W hW=>HIM.out g (by omega) (b+1) (groundQ th D) (U.with fv) cv W (by omega) (HRM.out _ HG1.out.2 hbl) hW));generalize layQ (grpQ (runQ L g .unf (b+1) (groundQ th D))) (opK 6)=r at HV HREL;clear hK2 hK3 hK4;(go_wp2_with fail);refine (HT1.out _ _ H0.out).mono ?_;rintro e w1 ⟨rfl,cv1,h1,hc1⟩;have H1:=Hd h1;have HC1:=Hd (HC0.out.trans hc1);have HD1:=Hd hc1;clear h1 hc1;have HF1:=Hd (HF0.out.on HD1.out);(go_wp2_with fail);refine (HT2.out _ _ H1.out).mono ?_;rintro e w2 ⟨rfl,cv2,h2,hc2⟩;have H2:=Hd h2;have HC2:=Hd (HC1.out.trans hc2);have HD2:=Hd hc2;clear h2 hc2;have HF2:=Hd (HF1.out.on HD2.out);(go_wp2_with fail);refine (HT3.out _ _ H2.out).mono ?_;rintro e w3 ⟨rfl,cv3,h3,hc3⟩;have H3:=Hd h3;have HC3:=Hd (HC2.out.trans hc3);have HD3:=Hd hc3;clear h3 hc3;have HF3:=Hd (HF2.out.on HD3.out);(go_wp2_with fail);refine (HT4.out _ _ H3.out).mono ?_;rintro e w4 ⟨rfl,cv4,h4,hc4⟩;have H4:=Hd h4;have HC4:=Hd (HC3.out.trans hc4);have HD4:=Hd hc4;clear h4 hc4;have HF4:=Hd (HF3.out.on HD4.out);(go_wp2_with fail);refine (HGR.out _ _ H4.out).mono ?_;rintro e w5 ⟨rfl,cv5,h5,hc5⟩;have H5:=Hd h5;have HC5:=Hd (HC4.out.trans hc5);have HD5:=Hd hc5;clear h5 hc5;have HF5:=Hd (HF4.out.on HD5.out);(go_wp2_with fail);refine (HV.out _ _ H5.out).mono ?_;rintro e w6 ⟨rfl,cv6,h6,hc6⟩;have H6:=Hd h6;have HC6:=Hd (HC5.out.trans hc6);have HD6:=Hd hc6;clear h6 hc6;have HF6:=Hd (HF5.out.on HD6.out);have HX:=Hd (HREL.out cv6 _ H6.out HC6.out HF6.out);go_wp2;go_roundg g
            case measure=>omega
            case rel=>exact⟨fv,true,r.ok,rfl,rfl,rfl,by omega,HX⟩
          | false =>
            (rw [if_neg (by rw [hK4];decide)] at HREL);(have HT4:=Hd (fun cv W hW=>HW3.out kMINUS false cv W hW hK4));cases hK5:isW L b 1 kBIND with
            | true =>
              rw [if_pos hK5] at HREL;have hbl:=isW_lt hK5;(have HT5:=Hd (fun cv W hW=>HW3.out kBIND true cv W hW hK5));(have HV:=Hd (fun cv W hW=>HBND.out (U.with fv) (b+1) (groundQ th D) cv W hW (by have:=HG1.out.2;omega)));generalize bindM L (b+1) (groundQ th D)=r at HV HREL;clear hK2 hK3 hK4 hK5;(go_wp2_with fail);refine (HT1.out _ _ H0.out).mono ?_;rintro e w1 ⟨rfl,cv1,h1,hc1⟩;have H1:=Hd h1;have HC1:=Hd (HC0.out.trans hc1);have HD1:=Hd hc1;clear h1 hc1;have HF1:=Hd (HF0.out.on HD1.out);(go_wp2_with fail);refine (HT2.out _ _ H1.out).mono ?_;rintro e w2 ⟨rfl,cv2,h2,hc2⟩;have H2:=Hd h2;have HC2:=Hd (HC1.out.trans hc2);have HD2:=Hd hc2;clear h2 hc2;have HF2:=Hd (HF1.out.on HD2.out);(go_wp2_with fail);refine (HT3.out _ _ H2.out).mono ?_;rintro e w3 ⟨rfl,cv3,h3,hc3⟩;have H3:=Hd h3;have HC3:=Hd (HC2.out.trans hc3);have HD3:=Hd hc3;clear h3 hc3;have HF3:=Hd (HF2.out.on HD3.out);(go_wp2_with fail);refine (HT4.out _ _ H3.out).mono ?_;rintro e w4 ⟨rfl,cv4,h4,hc4⟩;have H4:=Hd h4;have HC4:=Hd (HC3.out.trans hc4);have HD4:=Hd hc4;clear h4 hc4;have HF4:=Hd (HF3.out.on HD4.out);(go_wp2_with fail);refine (HT5.out _ _ H4.out).mono ?_;rintro e w5 ⟨rfl,cv5,h5,hc5⟩;have H5:=Hd h5;have HC5:=Hd (HC4.out.trans hc5);have HD5:=Hd hc5;clear h5 hc5;have HF5:=Hd (HF4.out.on HD5.out);(go_wp2_with fail);refine (HGR.out _ _ H5.out).mono ?_;rintro e w6 ⟨rfl,cv6,h6,hc6⟩;have H6:=Hd h6;have HC6:=Hd (HC5.out.trans hc6);have HD6:=Hd hc6;clear h6 hc6;have HF6:=Hd (HF5.out.on HD6.out);(go_wp2_with fail);refine (HV.out _ _ H6.out).mono ?_;rintro e w7 ⟨rfl,cv7,h7,hc7⟩;have H7:=Hd h7;have HC7:=Hd (HC6.out.trans hc7);have HD7:=Hd hc7;clear h7 hc7;have HF7:=Hd (HF6.out.on HD7.out);have HX:=Hd (HREL.out cv7 _ H7.out HC7.out HF7.out);go_wp2;go_roundg g
              case measure=>omega
              case rel=>exact⟨fv,true,r.ok,rfl,rfl,rfl,by omega,HX⟩
            | false =>
              (rw [if_neg (by rw [hK5];decide)] at HREL);(have HT5:=Hd (fun cv W hW=>HW3.out kBIND false cv W hW hK5));(have HV:=Hd (fun cv W hW=>HIP.out g (by omega) b D (U.with fv) cv W (by omega) (by unfold Room;omega) hW));(have hpm:=most_room (L:=L) (a:=b) (C:=D) (c:=0) (by unfold Room;omega) hble (piece_most ((run_most L g).1) D hble).1);generalize pieceQ (runQ L g) L b D=r at HV HREL hpm;(have HJ:=Hd (fun cv W hW=>HJN.out (U.with fv) r.a r.C th cv W hW (by omega)));dsimp only at HREL;clear hK2 hK3 hK4 hK5 hpm;(go_wp2_with fail);refine (HT1.out _ _ H0.out).mono ?_;rintro e w1 ⟨rfl,cv1,h1,hc1⟩;have H1:=Hd h1;have HC1:=Hd (HC0.out.trans hc1);have HD1:=Hd hc1;clear h1 hc1;have HF1:=Hd (HF0.out.on HD1.out);(go_wp2_with fail);refine (HT2.out _ _ H1.out).mono ?_;rintro e w2 ⟨rfl,cv2,h2,hc2⟩;have H2:=Hd h2;have HC2:=Hd (HC1.out.trans hc2);have HD2:=Hd hc2;clear h2 hc2;have HF2:=Hd (HF1.out.on HD2.out);(go_wp2_with fail);refine (HT3.out _ _ H2.out).mono ?_;rintro e w3 ⟨rfl,cv3,h3,hc3⟩;have H3:=Hd h3;have HC3:=Hd (HC2.out.trans hc3);have HD3:=Hd hc3;clear h3 hc3;have HF3:=Hd (HF2.out.on HD3.out);(go_wp2_with fail);refine (HT4.out _ _ H3.out).mono ?_;rintro e w4 ⟨rfl,cv4,h4,hc4⟩;have H4:=Hd h4;have HC4:=Hd (HC3.out.trans hc4);have HD4:=Hd hc4;clear h4 hc4;have HF4:=Hd (HF3.out.on HD4.out);(go_wp2_with fail);refine (HT5.out _ _ H4.out).mono ?_;rintro e w5 ⟨rfl,cv5,h5,hc5⟩;have H5:=Hd h5;have HC5:=Hd (HC4.out.trans hc5);have HD5:=Hd hc5;clear h5 hc5;have HF5:=Hd (HF4.out.on HD5.out);(go_wp2_with fail);refine (HV.out _ _ H5.out).mono ?_;rintro e w6 ⟨rfl,cv6,h6,hc6⟩;have H6:=Hd h6;have HC6:=Hd (HC5.out.trans hc6);have HD6:=Hd hc6;clear h6 hc6;have HF6:=Hd (HF5.out.on HD6.out);(go_wp2_with fail);refine (HJ.out _ _ H6.out).mono ?_;rintro e w7 ⟨rfl,cv7,h7,hc7⟩;have H7:=Hd h7;have HC7:=Hd (HC6.out.trans hc7);have HD7:=Hd hc7;clear h7 hc7;have HF7:=Hd (HF6.out.on HD7.out);have HX:=Hd (HREL.out cv7 _ H7.out HC7.out HF7.out);go_wp2;go_roundg g
              case measure=>omega
              case rel=>exact⟨fv,true,r.ok,rfl,rfl,rfl,by omega,HX⟩
theorem unf_all {A X:Nat} {v:Value} {L:List TokL} (E:Env L):∀n f,f<n→UnfR A X v L f
  | 0,_,h=>absurd h (Nat.not_lt_zero _)
  | n+1,f,h=>by
    have ih:=unf_all E n (A:=A) (X:=X) (v:=v)
    have hg:∀g,g<f→GrpR A X v L g:=fun g hg=>grpR_of g (ih g (by omega))
    have hs:∀g,g<f→SerR A X v L g:=fun g h2=>serR_of E g (hg g h2)
    have hu:∀g,g<f→UniR A X v L g:=fun g h2=>uniR_of E g (fun k hk=>hg k (by omega))
    exact unfR_of E f (fun g h2=>optR_of g (ih g (by omega))) (fun g h2=>minR_of g (hg g h2)) (fun g h2=>pieR_of E g (hs g h2) (hu g h2))
theorem group_calls {A X:Nat} {v cv:Value} {L:List TokL} {a:Nat} {U:QV} {C:List OpL} {w:World} (h:QRd A X v L a U C cv w) (E:Env L) (hC:Room L a C):Calls Tryz.prog 32 #[.pointer (some ⟨X,0,none⟩)] w (GrpT A X v L U cv (grpQ (runQ L (2*(L.length - a)+1) .unf a C)) w) :=
  grpR_of _ (unf_all E _ _ (Nat.lt_succ_self _)) a C U cv w (Nat.le_refl _) hC h
end
end Go.Proofs.YtekebddhaieipaaGreatDoor
