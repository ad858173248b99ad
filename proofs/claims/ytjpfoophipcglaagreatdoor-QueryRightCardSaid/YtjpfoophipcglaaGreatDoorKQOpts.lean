/- A formula, a filter: the reader of a query. -/
import Derived.Test.YtjpfoophipcglaaGreatDoorKQRds
import Derived.Test.YtjpfoophipcglaaGreatDoorKFullParses
import Derived.Laws.AppendOwnNone
namespace Go.Proofs.YtjpfoophipcglaaGreatDoor
set_option maxRecDepth 100000
set_option maxHeartbeats 8000000
section
open Go.RowKit
structure Env (L:List TokL):Prop where
  len:L.length≤100000
  ok:∀t∈L,TokOk t
  sm:∀t∈L,t.x.length≤100000
  low:LowC
theorem Env.small {L:List TokL} (E:Env L) (a:Nat):(tokAt L a).x.length≤100000:=by
  unfold tokAt
  split
  · exact Nat.zero_le _
  · rename_i t h
    exact E.sm _ (List.mem_of_getElem? h)
theorem Env.tok {L:List TokL} (E:Env L) (a:Nat):TokOk (tokAt L a):=by
  unfold tokAt
  split
  · exact⟨Nat.zero_le _,Nat.zero_le _,Nat.zero_le _,Nat.zero_le _⟩
  · rename_i t h
    exact E.ok _ (List.mem_of_getElem? h)
theorem toks_up {A B:Nat} {v:Value} {L:List TokL} {w:World} (h:TokS A v L w) (hB:A≤B):TokS B v L w:=by
  obtain⟨g,cap,h1,h2,h3⟩:=h.row
  exact⟨g,cap,h1,Nat.lt_of_lt_of_le h2 hB,h3⟩
def FT (A X:Nat) (v:Value) (L:List TokL) (U:QV) (cv:Value) (r:RF) (C:List OpL) (w:World) (e:Ending) (w':World):Prop :=
  ∃(cv':Value) (fa:Option Addr) (fc:Nat),e=.returned (.tuple #[.slice fa r.f.length fc,.bool r.ok])∧QRd A X v L r.a U C cv' w'∧Ch (rdS X cv) (rdS X cv') w w'∧(Held (hS U X cv') w' fun w2=>ArgP w2 fa r.f.length fc r.f)∧(fa=none→fc=0)
theorem row_nil0 {w:World} {B size n c:Nat} {a:Option Addr} {e:TypeId} {xs:List Value} (h:w.ownsRow B e size (.slice a n c) n xs):a=none→c=0:=by
  rintro rfl
  rcases h.2 with ⟨h0,_⟩|⟨g,cap,cur,hv,_⟩
  · cases h0;rfl
  · cases hv
theorem form_fails {L:List TokL} {a:Nat} (h:(formM L a).ok=false):formM L a=⟨false,a,[]⟩:=by
  unfold formM at *
  split at h
  · rfl
  · split at h
    · cases h
    · rename_i h1
      rw [if_neg h1]
theorem qformula_calls {A X:Nat} {v cv:Value} {L:List TokL} {a:Nat} {U:QV} {C:List OpL} {w:World} (h:QRd A X v L a U C cv w) (E:Env L):Calls Tryz.prog 157 #[.pointer (some ⟨X,0,none⟩)] w (FT A X v L U cv (formM L a) C w):=by
 obtain⟨q,hq⟩:=parse_some L a h.le;have hm:=form_most (L:=L) h.le;have H:=Hd h;(have HP:=Hd (fun W (hb:Below w.heap.size w W)=>ParseA_calls v L E.len E.ok E.low a h.le q W hq (toks_up (h.on hb).toks (h.on hb).size) ((h.on hb).good.up (h.on hb).size)));obtain⟨c0,c1,c2⟩:=h.cells;(have fr:=fun i=>blk_free h.blk i);have hX:=blk_lt h.blk;(have HNN:=Hd (fun Y (hY:w.heap.size≤Y)=>new_not h hY));(unfold formM at hm ⊢);rw [hq] at hm ⊢;dsimp only at hm ⊢;obtain⟨P,b,z⟩:=q;dsimp only at hm ⊢;obtain⟨g,cap,rfl,hg,hcap,_⟩:=h.toks.row;have hL:=E.len;have haL:=h.le;obtain⟨N,hN⟩:∃N,L.length=N:=⟨_,rfl⟩;rw [hN] at hcap hL haL c0 HP;by_cases hz:z=0
 ·subst hz;rw [if_pos rfl] at hm ⊢;have HM:=Hd hm;clear h hq hm hN;(go_enter Tryz.func157,Tryz.ntmps157);go_wp2;(go_region_with (first|(go_at_call 211;refine (HP.out _ (by repeat (with_reducible (first|exact Below.refl _ _|exact box_below _ _|refine Below.drew ?_|refine Below.setCell ?_ (by first|exact Nat.le_refl _|omega|(dsimp only;omega)|(simp;omega)) _|refine Below.alloc ?_ (by first|exact Nat.le_refl _|omega|(simp;done)|(simp;omega)) _)))).mono ?_;rintro e w2 ⟨pv,rfl,hr2,hb2⟩;obtain⟨v5,c5,rfl⟩:=row_slice hr2;have HR2:=Hd (held_row (S:=hS U X cv) hr2 (fun g hg=>HNN.out g (Nat.le_trans (by simp) (hr2.lt g hg).1)) (fun w' hw'=>argP_row hw' rfl));have HZ2:=Hd (row_nil0 hr2);have HB2:=Hd (Below.trans (a:=w) (by repeat (with_reducible (first|exact Below.refl _ _|exact box_below _ _|refine Below.drew ?_|refine Below.setCell ?_ (by first|exact Nat.le_refl _|omega|(dsimp only;omega)|(simp;omega)) _|refine Below.alloc ?_ (by first|exact Nat.le_refl _|omega|(simp;done)|(simp;omega)) _))) hb2);have d1:=kpB HB2.out hX c1;have f1:∀i,w2.frozen? ⟨X,i,none⟩=false:=(fun i=>(HB2.out.frozen (p:=⟨X,i,none⟩) hX).trans (fr i));clear hr2 hb2)|fail));(all_goals go_wp2);(all_goals refine bodyPost_ret (v:=.tuple #[.slice v5 P.length c5,.bool true]) (by simp [results,Tryz.results157,go_sem]) rfl ?_);all_goals exact⟨cv,v5,c5,rfl,(H.out.on HB2.out).went HM.out.2.1,(Ch.of_below HB2.out).trans ch_setX,HR2.out.onP ch_setX,HZ2.out⟩
 ·rw [if_neg hz] at hm ⊢;have gz:(z !=0)=true:=bne_iff_ne.2 hz;have HM:=Hd hm;clear h hq hm hN;(go_enter Tryz.func157,Tryz.ntmps157);go_wp2;(go_region_with (first|(go_at_call 211;refine (HP.out _ (by repeat (with_reducible (first|exact Below.refl _ _|exact box_below _ _|refine Below.drew ?_|refine Below.setCell ?_ (by first|exact Nat.le_refl _|omega|(dsimp only;omega)|(simp;omega)) _|refine Below.alloc ?_ (by first|exact Nat.le_refl _|omega|(simp;done)|(simp;omega)) _)))).mono ?_;rintro e w2 ⟨pv,rfl,hr2,hb2⟩;have HB2:=Hd (Below.trans (a:=w) (by repeat (with_reducible (first|exact Below.refl _ _|exact box_below _ _|refine Below.drew ?_|refine Below.setCell ?_ (by first|exact Nat.le_refl _|omega|(dsimp only;omega)|(simp;omega)) _|refine Below.alloc ?_ (by first|exact Nat.le_refl _|omega|(simp;done)|(simp;omega)) _))) hb2);clear hr2 hb2)|fail));(all_goals go_wp2);(all_goals refine bodyPost_ret (v:=.tuple #[.slice none 0 0,.bool false]) (by simp [results,Tryz.results157,go_sem]) rfl ?_);all_goals exact⟨cv,none,0,rfl,H.out.on HB2.out,Ch.of_below HB2.out,fun w' _=>arg_none w',fun _=>rfl⟩
end
section
open Go.RowKit
structure PSl where
  a:Option Addr
  c:Nat
  P:List PartL
def PSl.v (p:PSl):Value:=.slice p.a p.P.length p.c
def FilR (U:QV) (X:Nat) (cv:Value) (B:Nat) (w:World) (fv:Value) (F:List (List PartL)):Prop :=
  ∃PF:List PSl,PF.map PSl.P=F∧w.ownsRow B 55 1 fv PF.length (PF.map PSl.v)∧(∀g,fv.ownBlock=some g→¬rdS X cv g)∧(∀p∈PF,Held (hS U X cv) w fun w'=>ArgP w' p.a p.P.length p.c p.P)∧∀p∈PF,p.P.length≤256∧(p.a=none→p.c=0)
theorem fil_nil (U:QV) (X:Nat) (cv:Value) (B:Nat) (w:World):FilR U X cv B w (.slice none 0 0) []:=⟨[],rfl,World.ownsRow_nil _ _ _ _,fun g h=>by simp [Value.ownBlock] at h,fun p hp=>absurd hp List.not_mem_nil,fun p hp=>absurd hp List.not_mem_nil⟩
theorem FilR.on {U:QV} {X:Nat} {cv cv':Value} {B:Nat} {w w':World} {fv:Value} {F:List (List PartL)} (h:FilR U X cv B w fv F) (hc:Ch (rdS X cv) (rdS X cv') w w'):FilR U X cv' B w' fv F:=by
  obtain⟨PF,h1,h2,h3,h4,h5⟩:=h
  refine⟨PF,h1,?_,fun g hg=>not_on hc (h2.lt g hg).2 (h3 g hg),fun p hp=>(h4 p hp).onP hc,h5⟩
  refine⟨h2.1,?_⟩
  rcases h2.2 with h0|⟨g,cap,cur,hv,hg,hh,r⟩
  · exact .inl h0
  · exact .inr ⟨g,cap,cur,hv,hg,by rw [hc.block g (Array.getElem?_eq_some_iff.1 hh).1 (h3 g (by rw [hv];rfl))];exact hh,r⟩
def UnfT (A X:Nat) (v:Value) (L:List TokL) (U:QV) (cv:Value) (r:RG) (w:World) (e:Ending) (w':World):Prop :=
  ∃cv' fv:Value,e=.returned (.tuple #[fv,.bool r.ok])∧QRd A X v L r.a U r.C cv' w'∧Ch (rdS X cv) (rdS X cv') w w'∧FilR U X cv' w.heap.size w' fv r.F
def GrpT (A X:Nat) (v:Value) (L:List TokL) (U:QV) (cv:Value) (r:RG) (w:World) (e:Ending) (w':World):Prop:=e=.returned (.bool r.ok)∧QT A X v L U cv r.a r.C w w'
def Room (L:List TokL) (a:Nat) (C:List OpL):Prop:=C.length+6*(L.length-a)≤1000000
def UnfR (A X:Nat) (v:Value) (L:List TokL) (f:Nat):Prop :=
  ∀(a:Nat) (C:List OpL) (U:QV) (cv:Value) (w:World),2*(L.length-a)+1≤f→Room L a C→QRd A X v L a U C cv w→Calls Tryz.prog 77 #[.pointer (some ⟨X,0,none⟩)] w (UnfT A X v L U cv (runQ L f .unf a C) w)
def GrpR (A X:Nat) (v:Value) (L:List TokL) (f:Nat):Prop :=
  ∀(a:Nat) (C:List OpL) (U:QV) (cv:Value) (w:World),2*(L.length-a)+1≤f→Room L a C→QRd A X v L a U C cv w→Calls Tryz.prog 32 #[.pointer (some ⟨X,0,none⟩)] w (GrpT A X v L U cv (grpQ (runQ L f .unf a C)) w)
theorem most_room {L:List TokL} {a c:Nat} {C:List OpL} {r:RG} (h:Room L a C) (ha:a≤L.length) (hm:Most L c a C.length r):r.C.length+r.F.length≤1000000+c∧r.C.length+r.F.length+6*(L.length-r.a)≤1000000+c:=by
  obtain⟨h1,h2,h3⟩:=hm
  unfold Room at h
  omega
theorem grpR_of {A X:Nat} {v:Value} {L:List TokL} (f:Nat) (IU:UnfR A X v L f):GrpR A X v L f:=by
 intro a C U cv w hf hr h;have hm:=most_room hr h.le (((run_most L f).1).unf a C h.le);have HU:=Hd (IU a C U cv w hf hr h);generalize runQ L f .unf a C=r at hm HU ⊢;obtain⟨ok,b,D,F⟩:=r;dsimp only at hm;(show Calls _ _ _ _ (GrpT A X v L U cv ⟨ok,b,D++F.map filterOp,[]⟩ w));clear h hf hr IU;(go_enter Tryz.func32,Tryz.ntmps32);(go_wp2_with fail);refine HU.out.mono ?_;rintro e w1 ⟨cv1,fv,rfl,h1,hc1,hF1⟩;dsimp only at h1 hF1 ⊢;obtain⟨PF,hPF,hrow,hS,hheld,_⟩:=hF1;(have hlen:F.length=PF.length:=by rw [←hPF,List.length_map]);obtain⟨N,hN⟩:∃N,PF.length=N:=⟨_,rfl⟩;have HN:=Hd hN;obtain⟨v5,c5,rfl⟩:=row_slice hrow;(have hn:N≤2000000:=by omega);(have hD:D.length+N≤2000000:=by omega);have HD:=Hd hD;rw [hN] at hrow ⊢;have HROW:=Hd hrow;have HS:=Hd hS;have HH:=Hd hheld;have H1:=Hd h1;have HC1:=Hd hc1;have HPF:=Hd hPF;have HLT:=Hd (hrow.lt);clear h1 hc1 hheld hS hrow hPF hlen hN hm hD;go_wp2;go_loopg [14] N (fun g i wr=>∃(k:Nat) (cvk:Value),k≤N∧k+g=N∧i=.int .i64 k∧Hid (QRd A X v L b U (D++(F.take k).map filterOp) cvk wr)∧Hid (Ch (rdS X cv1) (rdS X cvk) w1 wr))
 case atStart=>exact⟨0,cv1,Nat.zero_le _,by omega,rfl,Hd (by simpa using H1.out),Hd (Ch.refl _ _)⟩
 case round =>
  obtain⟨W1,rfl⟩:∃W1,W1=wr:=⟨_,rfl⟩;obtain⟨k,cvk,hk,hkg,rfl,HK,HCK⟩:=hrel;by_cases hlt:k<N
  ·(obtain⟨g,rfl⟩:∃g,gk=g+1:=⟨gk-1,by omega⟩);(have hltP:k<PF.length:=by rw [HN.out];exact hlt);obtain⟨g0,rfl⟩:∃g0,v5=some ⟨g0,0,none⟩:=by
    rcases HROW.out.2 with ⟨h0,h1⟩|⟨g0,cap,cur,hv,_⟩
    ·omega
    ·cases hv;exact⟨g0,rfl⟩
   (have hcell:=HROW.out.cellAt k (by omega));rw [List.getElem?_map,List.getElem?_eq_getElem hltP] at hcell;(have hg0:=HLT.out g0 rfl);have hcw:W1.cell? ⟨g0,k,none⟩=some (PF[k]).v:=(HCK.out.cell (p:=⟨g0,k,none⟩) hg0.2 (HS.out g0 rfl)).trans hcell;(have hFk:F[k]?=some (PF[k]).P:=by rw [←HPF.out,List.getElem?_map,List.getElem?_eq_getElem hltP];rfl);have hheld:=(HH.out _ (List.getElem_mem hltP)).onP HCK.out;have HNX:=Hd (show D++(F.take (k+1)).map filterOp=(D++(F.take k).map filterOp)++[filterOp (PF[k]).P] by
    rw [List.take_add_one,hFk];simp)
   generalize PF[k]=p at hcw hheld HNX;obtain⟨pa,pc,pP⟩:=p;dsimp only [PSl.v] at hcw hheld HNX;(have HL:=Hd (lay_calls HK.out (filterOp pP) (opS0 pa pP.length pc) (held_opF hheld _ _ _) (by rw [List.length_append,List.length_map,List.length_take];have:=HD.out;omega)));(simp only [OpL.v,filterOp,opS0,bs_nil] at HL);(have hk':(k:Int)<(N:Int):=by omega);(have hk0:(0:Int)≤(k:Int):=by omega);clear hcell hg0 hFk hheld hltP;(go_wp2_with fail);refine HL.out.mono ?_;rintro e w2 ⟨rfl,cv2,h2,hc2⟩;have H2:=Hd h2;have HC2:=Hd (HCK.out.trans hc2);clear h2 hc2;go_wp2;go_roundg g
   case measure=>omega
   case rel=>exact⟨k+1,cv2,by omega,by omega,by go_num,Hd (by rw [HNX.out];exact H2.out),HC2⟩
  ·(obtain rfl:k=N:=by omega);(have HE:=Hd (show F.take k=F from List.take_of_length_le (by rw [←HPF.out,List.length_map,HN.out];exact Nat.le_refl _)));rw [HE.out] at HK;(have hk':¬(k:Int)<(k:Int):=by omega);go_wp2;go_ret;exact⟨rfl,cvk,HK.out,HC1.out.trans HCK.out⟩
end
section
open Go.RowKit
theorem info_part8:(Tryz.prog.info? 157).map (fun i=>(i.zero,i.size,i.bytes))=some (some noPart.v,7,88):=by kernel_rfl
theorem conj_snoc:∀(i:Nat) (l:List (List PartL)) (x:List PartL),conjGo i (l++[x])=conjGo i l++(x++if 0<i+l.length then [signPart 6] else [])
  | i,[],x=>by simp [conjGo]
  | i,f::r,x=>by
    rw [List.cons_append,conjGo,conj_snoc (i+1) r x,conjGo,List.length_cons]
    have e:i+1+r.length=i+(r.length+1):=by omega
    rw [e];simp only [List.append_assoc]
theorem conj_most:∀(i:Nat) (l:List (List PartL)),(∀x∈l,x.length≤256)→(conjGo i l).length≤257*l.length
  | _,[],_=>Nat.le_refl _
  | i,f::r,h=>by
    have h1:=h f (List.mem_cons_self ..)
    have h2:=conj_most (i+1) r (fun x hx=>h x (List.mem_cons_of_mem _ hx))
    rw [conjGo,List.length_append,List.length_append,List.length_cons]
    have h3:(if 0<i then [signPart 6] else []).length≤1:=by split<;>simp
    omega
def ConjR (w:World) (F:List (List PartL)) (k:Nat) (fv:Value) (wr:World):Prop :=
  wr.ownsRow w.heap.size 157 7 fv (conjGo 0 (F.take k)).length (partCells (conjGo 0 (F.take k)))∧Below w.heap.size w wr
theorem qpart_one (p:PartL):∀u∈p.cells,u.oneCell'=true:=by
  intro u hu
  simp only [PartL.cells,List.mem_cons,List.not_mem_nil,or_false] at hu
  rcases hu with rfl|rfl|rfl|rfl|rfl|rfl|rfl<;>rfl
theorem parts_one (P:List PartL):∀u∈partCells P,u.oneCell'=true:=by
  intro u hu
  unfold partCells at hu
  obtain⟨p,_,hu⟩:=List.mem_flatMap.1 hu
  exact qpart_one p u hu
theorem argP_cells {w:World} {g o n c:Nat} {P:List PartL} (h:ArgP w (some ⟨g,o,none⟩) n c P) (hn:0<n):∀j u,(partCells P)[j]?=some u→w.cell? ((⟨g,o,none⟩:Addr).add j)=some u:=by
 intro j u hu;obtain⟨g',o',he,_,hc⟩:=h.cells hn;(obtain⟨rfl,rfl⟩:g=g'∧o=o':=by simpa using he);have hj:j<P.length*7:=by
  have:=(List.getElem?_eq_some_iff.1 hu).1;rwa [partCells_length] at this
 (have hq:j / 7<P.length:=by omega);(have hr:j % 7<7:=Nat.mod_lt _ (by decide));(have hd:j / 7*7+j % 7=j:=by omega);(have hx:=flat_get (f:=PartL.cells) (fun _=>rfl) P (j / 7) (j % 7) hq hr);rw [hd] at hx;have hu2:(partCells P)[j]?=(PartL.cells P[j / 7])[j % 7]?:=hx;rw [hu2] at hu;have ha:((⟨g,o,none⟩:Addr).add j)=⟨g,o+j / 7*7+j % 7,none⟩:=by
  rw [Addr.add_lit,Nat.add_assoc,hd]
 rw [ha];obtain⟨c0,c1,c2,c3,c4,c5,c6⟩:=hc (j / 7) hq;generalize j % 7=i at *;rcases (show i=0∨i=1∨i=2∨i=3∨i=4∨i=5∨i=6 by omega) with rfl|rfl|rfl|rfl|rfl|rfl|rfl
 ·rw [←hu];exact c0
 ·rw [←hu];exact c1
 ·rw [←hu];exact c2
 ·rw [←hu];exact c3
 ·rw [←hu];exact c4
 ·rw [←hu];exact c5
 ·rw [←hu];exact c6
theorem conj_calls (PF:List PSl) (fv:Value) (w:World) (B:Nat) (hrow:w.ownsRow B 55 1 fv PF.length (PF.map PSl.v)) (hall:∀p∈PF,ArgP w p.a p.P.length p.c p.P) (hn:PF.length≤2000000) (h256:∀p∈PF,p.P.length≤256∧(p.a=none→p.c=0)):Calls Tryz.prog 158 #[fv] w fun e w'=>∃(fa:Option Addr) (fc:Nat),e=.returned (.slice fa (conjM (PF.map PSl.P)).length fc)∧w'.ownsRow w.heap.size 157 7 (.slice fa (conjM (PF.map PSl.P)).length fc) (conjM (PF.map PSl.P)).length (partCells (conjM (PF.map PSl.P)))∧Below w.heap.size w w':=by
 obtain⟨v5,c5,rfl⟩:=row_slice hrow;obtain⟨i0,hi,hz0,hz1,hz2⟩:=info_parts info_part8;obtain⟨N,hN⟩:∃N,PF.length=N:=⟨_,rfl⟩;have HN:=Hd hN;rw [hN] at hrow hn;have HROW:=Hd hrow;have HLT:=Hd (hrow.lt);have HA:=Hd hall;have H256:=Hd h256;rw [hN];clear hrow hall h256 hN;(go_enter Tryz.func158,Tryz.ntmps158);go_wp2;go_loopg [8,3] N (fun g i cvv wr=>∃(k:Nat),k≤N∧k+g=N∧i=.int .i64 k∧Hid (ConjR w (PF.map PSl.P) k cvv wr))
 case atStart=>exact⟨0,Nat.zero_le _,by omega,rfl,Hd ⟨World.ownsRow_nil _ _ _ _,Below.refl _ _⟩⟩
 case round =>
  obtain⟨W1,rfl⟩:∃W1,W1=wr:=⟨_,rfl⟩;obtain⟨k,hk,hkg,rfl,HR⟩:=hrel;obtain⟨hown,hb⟩:=HR.out;have HB:=Hd hb;have hcl:=conj_most 0 ((PF.map PSl.P).take k) (fun x hx=>by
   obtain⟨p,hp,rfl⟩:=List.mem_map.1 (List.mem_of_mem_take hx);exact (H256.out p hp).1)
  (have htl:((PF.map PSl.P).take k).length≤k:=by rw [List.length_take];omega);by_cases hlt:k<N
  ·(obtain⟨g,rfl⟩:∃g,gk=g+1:=⟨gk-1,by omega⟩);(have hltP:k<PF.length:=by rw [HN.out];exact hlt);obtain⟨g0,rfl⟩:∃g0,v5=some ⟨g0,0,none⟩:=by
    rcases HROW.out.2 with ⟨h0,h1⟩|⟨g0,cap,cur,hv,_⟩
    ·omega
    ·cases hv;exact⟨g0,rfl⟩
   (have hcell:=HROW.out.cellAt k (by omega));rw [List.getElem?_map,List.getElem?_eq_getElem hltP] at hcell;(have hg0:=HLT.out g0 rfl);have hcw:W1.cell? ⟨g0,k,none⟩=some (PF[k]).v:=kpB hb hg0.2 hcell;have hpa:=(HA.out _ (List.getElem_mem hltP)).on hb;have hp256:=H256.out _ (List.getElem_mem hltP);have HNX:=Hd (show conjGo 0 ((PF.map PSl.P).take (k+1))=conjGo 0 ((PF.map PSl.P).take k)++((PF[k]).P++if 0<k then [signPart 6] else []) by
    have e:(PF.map PSl.P).take (k+1)=(PF.map PSl.P).take k++[(PF[k]).P]:=by
     rw [List.take_add_one,List.getElem?_map,List.getElem?_eq_getElem hltP];rfl
    rw [e,conj_snoc];(have:0+((PF.map PSl.P).take k).length=k:=by rw [List.length_take,List.length_map];omega);rw [this])
   generalize PF[k]=p at hcw hpa hp256 HNX;obtain⟨pa,pc,pP⟩:=p;dsimp only [PSl.v] at hcw hpa hp256 HNX;obtain⟨Q,hQ⟩:∃Q,conjGo 0 ((PF.map PSl.P).take k)=Q:=⟨_,rfl⟩;have HQ:=Hd hQ;rw [hQ] at hown hcl HNX;obtain⟨M,hM⟩:∃M,Q.length=M:=⟨_,rfl⟩;have HM:=Hd hM;rw [hM] at hown hcl;have HO:=Hd hown;obtain⟨v2,c2,rfl⟩:=row_slice hown;(have hk':(k:Int)<(N:Int):=by omega);(have hk0:(0:Int)≤(k:Int):=by omega);have hbs:=HB.out.size;(have hm1:M≤600000000:=by omega);have hm2:=hp256.1;(have HPL:=Hd (show (partCells pP).length=pP.length*7 from partCells_length _));obtain⟨m,hm⟩:∃m,pP.length=m:=⟨_,rfl⟩;have Hm:=Hd hm;rw [hm] at hm2 HPL;have HPA:=Hd hpa;clear hcell hg0 hltP hcl htl hQ hM hown hb HR;rcases pa with _|⟨ga,go,gr⟩
   ·(have hpc:pc=0:=hp256.2 rfl);have hm0:m=0:=by
     have:=HPA.out.cells;by_cases h0:0<m
     ·(obtain⟨g',o',he,_⟩:=this (by rw [hm];exact h0));cases he
     ·omega
    subst hpc;(have hP0:pP=[]:=List.length_eq_zero_iff.1 (by omega));subst hP0;rw [hm,hm0] at hcw;rw [hm0] at hm;clear hm;rcases Nat.eq_zero_or_pos k with rfl|hk1
    ·(have HN2:=Hd (show conjGo 0 ((PF.map PSl.P).take 1)=Q by have:=HNX.out;simpa using this));clear HNX;(go_wp2_with (at_builtin;go_must (refine wpList_append_own_none rfl _ _ 55 rfl w.heap.size 157 i0 7 Tryz.underlying55 hi _ _ _ rfl HO.out rfl ?_)));go_wp2;go_roundg g
     case measure=>omega
     case rel=>exact⟨0+1,by omega,by omega,by go_num,Hd (by unfold ConjR;rw [show 0+1=1 from rfl,HN2.out];exact⟨by have:=HO.out;rw [HM.out];exact this,HB.out⟩)⟩
    ·(have HN2:=Hd (show conjGo 0 ((PF.map PSl.P).take (k+1))=Q++[signPart 6] by have:=HNX.out;rw [if_pos hk1] at this;simpa using this));clear HNX;(go_wp2_with (first|(at_builtin;(refine wpList_append_own_none rfl _ _ 55 rfl w.heap.size 157 i0 7 Tryz.underlying55 hi _ _ _ rfl HO.out rfl ?_))|(at_builtin;(refine wpList_append_own _ rfl (.tmp 18) (.tmp 20) 55 rfl w.heap.size 157 i0 noPart.v 7 88 Tryz.underlying55 hi hz0 hz1 hz2 rfl (by decide) _ _ _ rfl (HO.out.alloc _) ⟨W1.heap.size,0,none⟩ 1 1 (signPart 6).cells rfl rfl (news7 _ _ _ _ _ _ _ _ _ rfl) (qpart_one _) (by unfold maxLen;omega) (by omega) (by have:=HB.out.size;simp;omega) ?_;intro v7 w7 hown7 hgrow7 hnil7;clear hnil7;have HO7:=Hd hown7;have HB7:=Hd ((HB.out.alloc HB.out.size _).grown hgrow7 (by have:=HB.out.size;simp;omega) (fun q hq=>(HO.out.lt q hq).1));obtain⟨v8,c8,rfl⟩:=row_slice hown7;clear hown7 hgrow7))));go_wp2;go_roundg g
     case measure=>omega
     case rel=>exact⟨k+1,by omega,by omega,by go_num,Hd (by unfold ConjR;rw [HN2.out,List.length_append,List.length_singleton,partCells_append,partCells_one,HM.out];exact⟨HO7.out,HB7.out⟩)⟩
   ·have HNW:=Hd (show ∀j u,(partCells pP)[j]?=some u→W1.cell? ((⟨ga,go,gr⟩:Addr).add j)=some u by
     by_cases h0:0<m
     ·(obtain⟨g',o',he,hg',hc'⟩:=HPA.out.cells (by rw [hm];exact h0));(cases he);exact argP_cells HPA.out (by rw [hm];exact h0)
     ·(obtain rfl:pP=[]:=List.length_eq_zero_iff.1 (by omega));intro j u hu;simp [partCells] at hu)
    rw [hm] at hcw;clear hm;rcases Nat.eq_zero_or_pos k with rfl|hk1
    ·(have HN2:=Hd (show conjGo 0 ((PF.map PSl.P).take 1)=Q++pP by have:=HNX.out;simpa using this));clear HNX;(go_wp2_with (at_builtin;go_must (refine wpList_append_own _ rfl (.tmp 13) (.tmp 14) 55 rfl w.heap.size 157 i0 noPart.v 7 88 Tryz.underlying55 hi hz0 hz1 hz2 rfl (by decide) _ _ _ rfl HO.out ⟨ga,go,gr⟩ m pc (partCells pP) rfl HPL.out HNW.out (parts_one _) (by unfold maxLen;omega) (by omega) (by omega) ?_;intro v3 w3 hown3 hgrow3 hnil3;clear hnil3;have HO3:=Hd hown3;have HB3:=Hd ((HB.out).grown hgrow3 HB.out.size (fun q hq=>(HO.out.lt q hq).1));obtain⟨v6,c6,rfl⟩:=row_slice hown3;clear hown3 hgrow3)));go_wp2;go_roundg g
     case measure=>omega
     case rel=>exact⟨0+1,by omega,by omega,by go_num,Hd (by unfold ConjR;rw [show 0+1=1 from rfl,HN2.out,List.length_append,partCells_append,HM.out,Hm.out];exact⟨HO3.out,HB3.out⟩)⟩
    ·(have HN2:=Hd (show conjGo 0 ((PF.map PSl.P).take (k+1))=(Q++pP)++[signPart 6] by have:=HNX.out;rw [if_pos hk1] at this;simpa using this));clear HNX;(go_wp2_with (first|(at_builtin;(refine wpList_append_own _ rfl (.tmp 13) (.tmp 14) 55 rfl w.heap.size 157 i0 noPart.v 7 88 Tryz.underlying55 hi hz0 hz1 hz2 rfl (by decide) _ _ _ rfl HO.out ⟨ga,go,gr⟩ m pc (partCells pP) rfl HPL.out HNW.out (parts_one _) (by unfold maxLen;omega) (by omega) (by omega) ?_;intro v3 w3 hown3 hgrow3 hnil3;clear hnil3;have HO3:=Hd hown3;have HB3:=Hd ((HB.out).grown hgrow3 HB.out.size (fun q hq=>(HO.out.lt q hq).1));obtain⟨v6,c6,rfl⟩:=row_slice hown3;clear hown3 hgrow3))|(at_builtin;(refine wpList_append_own _ rfl (.tmp 18) (.tmp 20) 55 rfl w.heap.size 157 i0 noPart.v 7 88 Tryz.underlying55 hi hz0 hz1 hz2 rfl (by decide) _ _ _ rfl (HO3.out.alloc _) ⟨w3.heap.size,0,none⟩ 1 1 (signPart 6).cells rfl rfl (news7 _ _ _ _ _ _ _ _ _ rfl) (qpart_one _) (by unfold maxLen;omega) (by omega) (by have:=HB3.out.size;simp;omega) ?_;intro v7 w7 hown7 hgrow7 hnil7;clear hnil7;have HO7:=Hd hown7;have HB7:=Hd ((HB3.out.alloc HB3.out.size _).grown hgrow7 (by have:=HB3.out.size;simp;omega) (fun q hq=>(HO3.out.lt q hq).1));obtain⟨v8,c8,rfl⟩:=row_slice hown7;clear hown7 hgrow7))));go_wp2;go_roundg g
     case measure=>omega
     case rel=>exact⟨k+1,by omega,by omega,by go_num,Hd (by unfold ConjR;rw [HN2.out,List.length_append,List.length_append,List.length_singleton,partCells_append,partCells_append,partCells_one,HM.out,Hm.out];exact⟨HO7.out,HB7.out⟩)⟩
  ·(obtain rfl:k=N:=by omega);(have HE:=Hd (show (PF.map PSl.P).take k=PF.map PSl.P from List.take_of_length_le (by rw [List.length_map,HN.out];exact Nat.le_refl _)));(unfold ConjR at HR);have hown2:=HR.out.1;rw [HE.out] at hown2;have HO:=Hd hown2;obtain⟨v2,c2,rfl⟩:=row_slice hown2;(have hk':¬(k:Int)<(k:Int):=by omega);clear hown2 hown hb hcl htl;go_wp2;go_ret;exact⟨v2,c2,rfl,HO.out,HB.out⟩
end
section
open Go.RowKit
def OptR (A X:Nat) (v:Value) (L:List TokL) (f:Nat):Prop:=∀(a:Nat) (C:List OpL) (U:QV) (cv:Value) (w:World),2*(L.length-a)+1≤f→Room L a C→QRd A X v L a U C cv w→Calls Tryz.prog 117 #[.pointer (some ⟨X,0,none⟩)] w (GrpT A X v L U cv (optionalQ (runQ L f .unf a C)) w)
def MinR (A X:Nat) (v:Value) (L:List TokL) (f:Nat):Prop:=∀(a:Nat) (C:List OpL) (U:QV) (cv:Value) (w:World),2*(L.length-a)+1≤f→Room L a C→QRd A X v L a U C cv w→Calls Tryz.prog 118 #[.pointer (some ⟨X,0,none⟩)] w (GrpT A X v L U cv (layQ (grpQ (runQ L f .unf a C)) (opK 6)) w)
def SerR (A X:Nat) (v:Value) (L:List TokL) (f:Nat):Prop:=∀(a:Nat) (C:List OpL) (U:QV) (cv:Value) (w:World),2*(L.length-a)+1≤f→Room L a C→QRd A X v L a U C cv w→Calls Tryz.prog 160 #[.pointer (some ⟨X,0,none⟩)] w (GrpT A X v L U cv (serviceQ (runQ L f) L a C) w)
def UniR (A X:Nat) (v:Value) (L:List TokL) (f:Nat):Prop:=∀(a:Nat) (C:List OpL) (U:QV) (cv:Value) (w:World),2*(L.length-a)+1≤f→Room L a C→QRd A X v L a U C cv w→isW L a 5 s_begin=true→Calls Tryz.prog 161 #[.pointer (some ⟨X,0,none⟩)] w (GrpT A X v L U cv (unionQ (runQ L f) a C) w)
def PieR (A X:Nat) (v:Value) (L:List TokL) (f:Nat):Prop:=∀(a:Nat) (C:List OpL) (U:QV) (cv:Value) (w:World),2*(L.length-a)+1≤f→Room L a C→QRd A X v L a U C cv w→Calls Tryz.prog 120 #[.pointer (some ⟨X,0,none⟩)] w (GrpT A X v L U cv (pieceQ (runQ L f) L a C) w)
theorem optR_of {A X:Nat} {v:Value} {L:List TokL} (f:Nat) (IU:UnfR A X v L f):OptR A X v L f:=by
 intro a C U cv w hf hr h;have hm:=most_room hr h.le (((run_most L f).1).unf a C h.le);have HU:=Hd (IU a C U cv w hf hr h);generalize runQ L f .unf a C=r at hm HU ⊢;obtain⟨ok,b,D,F⟩:=r;dsimp only at hm;(show Calls _ _ _ _ (GrpT A X v L U cv ⟨ok,b,D++[leftOp (conjM F)],[]⟩ w));(have hD:D.length≤2000000:=by omega);(have HFl:=Hd (show F.length≤2000000 by omega));(have HL:=Hd (fun (cv':Value) W (hW:QRd A X v L b U D cv' W) (fa:Option Addr) (fc:Nat) hF=>lay_calls hW (leftOp (conjM F)) (opS0 fa (conjM F).length fc) hF hD));(simp only [OpL.v,leftOp,opS0,bs_nil] at HL);clear h hf hr IU hm;(go_enter Tryz.func117,Tryz.ntmps117);(go_wp2_with fail);refine HU.out.mono ?_;rintro e w1 ⟨cv1,fv,rfl,h1,hc1,hF1⟩;dsimp only at h1 hF1 ⊢;obtain⟨PF,hPF,hrow,hS,hheld,h256⟩:=hF1;have HPF:=Hd hPF;(have HCJ:=Hd (conj_calls PF fv w1 w.heap.size hrow (fun p hp=>(hheld p hp).now) (by have:=HFl.out;rw [←hPF,List.length_map] at this;exact this) h256));rw [hPF] at HCJ;have H1:=Hd h1;have HC1:=Hd hc1;clear h1 hc1 hheld hS hrow hPF h256;(go_wp2_with fail);refine HCJ.out.mono ?_;rintro e w2 ⟨fa,fc,rfl,hr2,hb2⟩;have H2:=Hd (H1.out.on hb2);have HC2:=Hd (HC1.out.trans (Ch.of_below hb2));(have HR2:=Hd (held_opF (held_row (S:=hS U X cv1) hr2 (fun g hg=>fun c=>new_not H1.out (hr2.lt g hg).1 c) (fun w' hw'=>argP_row hw' rfl)) 5 [] false));clear hr2 hb2;(go_wp2_with fail);refine (HL.out cv1 _ H2.out fa fc HR2.out).mono ?_;rintro e w3 ⟨rfl,cv3,h3,hc3⟩;have H3:=Hd h3;have HC3:=Hd (HC2.out.trans hc3);clear h3 hc3;go_wp2;go_ret;exact⟨rfl,cv3,H3.out,HC3.out⟩
theorem minR_of {A X:Nat} {v:Value} {L:List TokL} (f:Nat) (IG:GrpR A X v L f):MinR A X v L f:=by
 intro a C U cv w hf hr h;have hm:=most_room hr h.le (grp_most (((run_most L f).1).unf a C h.le));have HG:=Hd (IG a C U cv w hf hr h);(have hF:(grpQ (runQ L f .unf a C)).F=[]:=rfl);rw [hF] at hm;generalize grpQ (runQ L f .unf a C)=r at hm HG ⊢;obtain⟨ok,b,D,F⟩:=r;dsimp only at hm;(show Calls _ _ _ _ (GrpT A X v L U cv ⟨ok,b,D++[opK 6],[]⟩ w));(have hD:D.length≤2000000:=by rw [List.length_nil] at hm;omega);(have HL:=Hd (fun (cv':Value) W (hW:QRd A X v L b U D cv' W)=>lay_calls hW (opK 6) (opS0 none 0 0) (held_op0 _ _ _ _ _) hD));(simp only [OpL.v,opK,opS0,bs_nil] at HL);clear h hf hr IG hm hF;(go_enter Tryz.func118,Tryz.ntmps118);(go_wp2_with fail);refine HG.out.mono ?_;rintro e w1 ⟨rfl,cv1,h1,hc1⟩;have H1:=Hd h1;have HC1:=Hd hc1;clear h1 hc1;(go_wp2_with fail);refine (HL.out cv1 _ H1.out).mono ?_;rintro e w2 ⟨rfl,cv2,h2,hc2⟩;have H2:=Hd h2;have HC2:=Hd (HC1.out.trans hc2);clear h2 hc2;go_wp2;go_ret;exact⟨rfl,cv2,H2.out,HC2.out⟩
theorem serR_of {A X:Nat} {v:Value} {L:List TokL} (E:Env L) (f:Nat) (IG:GrpR A X v L f):SerR A X v L f:=by
 intro a C U cv w hf hr h;have H0:=Hd h;have HC0:=Hd (Ch.refl (rdS X cv) w);have hle:=h.le;obtain⟨K,hK⟩:∃K,isW L a 1 kSILENT=K:=⟨_,rfl⟩;have s1:=step_ge K a;have s2:=step_le (L:=L) (a:=a) (k:=1) (s:=kSILENT) h.le;(unfold serviceQ);rw [hK] at s2 ⊢;obtain⟨b,hb⟩:∃b,stepA K a=b:=⟨_,rfl⟩;rw [hb] at s1 s2 ⊢;(have HT1:=Hd (fun cv W (hW:QRd A X v L a U C cv W)=>qword_calls hW E.len kSILENT K hK b hb));(have HNX:=Hd (fun cv W (hW:QRd A X v L b U C cv W)=>qnext_calls hW E.len));by_cases hkk:(tokAt L b).k=3∧(tokAt L b).t.k=1
 ·rw [if_pos hkk];(have hbl:=tokAt_lt (L:=L) (a:=b) (by rw [hkk.1];decide));rw [nextA_at hbl] at HNX;(have hr1:Room L (b+1) C:=by unfold Room at hr ⊢;omega);(have hf1:2*(L.length-(b+1))+1≤f:=by omega);(have hm:=most_room hr1 (by omega) (grp_most (((run_most L f).1).unf (b+1) C (by omega))));(have HG:=Hd (fun cv W (hW:QRd A X v L (b+1) U C cv W)=>IG (b+1) C U cv W hf1 hr1 hW));(have hF:(grpQ (runQ L f .unf (b+1) C)).F=[]:=rfl);rw [hF] at hm;generalize grpQ (runQ L f .unf (b+1) C)=r at hm HG ⊢;obtain⟨ok,c,D,F⟩:=r;dsimp only at hm ⊢;(have hD:D.length≤2000000:=by rw [List.length_nil] at hm;omega);generalize tokAt L b=y at HNX hkk ⊢;obtain⟨yk,yx,⟨uk,ux,uy,uz⟩,ya⟩:=y;dsimp only at hkk ⊢;obtain⟨rfl,rfl⟩:=hkk;(simp only [TokL.v] at HNX);(have HL:=Hd (fun (cv':Value) W (hW:QRd A X v L c U D cv' W)=>lay_calls hW (serviceOp ux K) (opS0 none 0 0) (held_op0 _ _ _ _ _) hD));(simp only [OpL.v,serviceOp,opS0] at HL);clear h hf hr IG hm hF E hr1 hf1 hb hK;cases ok with
  | false =>
    (rw [if_neg (by decide)]);(go_enter Tryz.func160,Tryz.ntmps160);(go_wp2_with fail);refine (HT1.out _ _ H0.out).mono ?_;rintro e w1 ⟨rfl,cv1,h1,hc1⟩;have H1:=Hd h1;have HC1:=Hd (HC0.out.trans hc1);have HD1:=Hd hc1;clear h1 hc1;(go_wp2_with fail);refine (HNX.out _ _ H1.out).mono ?_;rintro e w2 ⟨rfl,cv2,h2,hc2⟩;have H2:=Hd h2;have HC2:=Hd (HC1.out.trans hc2);have HD2:=Hd hc2;clear h2 hc2;(go_wp2_with fail);refine (HG.out cv2 _ (H2.out.alloc _)).mono ?_;rintro e w3 ⟨rfl,cv3,h3,hc3⟩;have H3:=Hd h3;have HC3:=Hd ((HC2.out.trans (Ch.of_below (box_below _ _))).trans hc3);clear h3 hc3;go_wp2;go_ret;exact⟨rfl,cv3,H3.out,HC3.out⟩
  | true =>
    rw [if_pos rfl];(go_enter Tryz.func160,Tryz.ntmps160);(go_wp2_with fail);refine (HT1.out _ _ H0.out).mono ?_;rintro e w1 ⟨rfl,cv1,h1,hc1⟩;have H1:=Hd h1;have HC1:=Hd (HC0.out.trans hc1);have HD1:=Hd hc1;clear h1 hc1;(go_wp2_with fail);refine (HNX.out _ _ H1.out).mono ?_;rintro e w2 ⟨rfl,cv2,h2,hc2⟩;have H2:=Hd h2;have HC2:=Hd (HC1.out.trans hc2);have HD2:=Hd hc2;clear h2 hc2;have HN2:=Hd (new_notS H2.out (Nat.le_refl w2.heap.size));(go_wp2_with fail);refine (HG.out cv2 _ (H2.out.alloc _)).mono ?_;rintro e w3 ⟨rfl,cv3,h3,hc3⟩;have H3:=Hd h3;have HC3:=Hd ((HC2.out.trans (Ch.of_below (box_below _ _))).trans hc3);have hy3:=ch_blk hc3 (blk_new w2 69 #[.int .i64 3,.string (bs yx),.int .i64 1,.string (bs ux),.string (bs uy),.string (bs uz),.int .i64 ya]) HN2.out;have y3:=blk_cell hy3 3;(simp at y3);clear h3 hc3 hy3;(go_wp2_with fail);refine (HL.out cv3 _ H3.out).mono ?_;rintro e w4 ⟨rfl,cv4,h4,hc4⟩;have H4:=Hd h4;have HC4:=Hd (HC3.out.trans hc4);clear h4 hc4;go_wp2;go_ret;exact⟨rfl,cv4,H4.out,HC4.out⟩
 ·rw [if_neg hkk];generalize tokAt L b=y at HNX hkk;obtain⟨yk,yx,⟨uk,ux,uy,uz⟩,ya⟩:=y;dsimp only at hkk;(simp only [TokL.v] at HNX);clear h hf hr IG E hb hK;by_cases h3:yk=3
  ·subst h3;(have hu:¬uk=1:=fun c=>hkk ⟨rfl,c⟩);have gu:(uk !=1)=true:=bne_iff_ne.2 hu;clear hkk hu;(go_enter Tryz.func160,Tryz.ntmps160);(go_wp2_with fail);refine (HT1.out _ _ H0.out).mono ?_;rintro e w1 ⟨rfl,cv1,h1,hc1⟩;have H1:=Hd h1;have HC1:=Hd (HC0.out.trans hc1);have HD1:=Hd hc1;clear h1 hc1;(go_wp2_with fail);refine (HNX.out _ _ H1.out).mono ?_;rintro e w2 ⟨rfl,cv2,h2,hc2⟩;have H2:=Hd h2;have HC2:=Hd (HC1.out.trans hc2);have HD2:=Hd hc2;clear h2 hc2;go_wp2;go_ret;exact⟨rfl,cv2,H2.out.on (box_below _ _),HC2.out.trans (Ch.of_below (box_below _ _))⟩
  ·have g3:(yk !=3)=true:=bne_iff_ne.2 h3;clear hkk h3;(go_enter Tryz.func160,Tryz.ntmps160);(go_wp2_with fail);refine (HT1.out _ _ H0.out).mono ?_;rintro e w1 ⟨rfl,cv1,h1,hc1⟩;have H1:=Hd h1;have HC1:=Hd (HC0.out.trans hc1);have HD1:=Hd hc1;clear h1 hc1;(go_wp2_with fail);refine (HNX.out _ _ H1.out).mono ?_;rintro e w2 ⟨rfl,cv2,h2,hc2⟩;have H2:=Hd h2;have HC2:=Hd (HC1.out.trans hc2);have HD2:=Hd hc2;clear h2 hc2;go_wp2;go_ret;exact⟨rfl,cv2,H2.out.on (box_below _ _),HC2.out.trans (Ch.of_below (box_below _ _))⟩
end
end Go.Proofs.YtjpfoophipcglaaGreatDoor
