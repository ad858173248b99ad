/- Operations gone through one by one, with a stack of results, in plain words. -/
import Derived.Test.YtjpfoophipcglaaGreatDoorKScopeBrings
import Derived.Deep.AppendLies
namespace Go.Proofs.YtjpfoophipcglaaGreatDoor
set_option maxRecDepth 100000
set_option maxHeartbeats 8000000
def topN (o:OpL) (op:List ResL):List ResL:=op.drop (op.length-ndO o)
def nestR (o:OpL) (N:List ResL):Bool:=o.k==9&&(N.getD 0 noR).v
def scopeR (o:OpL) (N:List ResL):Bool:=o.k==8&&decide (o.m∈(N.getD 0 noR).sc)
def runP:List OpL→Nat→List ResL→Bool→List ResL→Option (List ResL×List ResL×Bool)
  | [],_,op,e,all=>some (all,op,e)
  | o::r,i,op,e,all =>
    if rightO o=true∧ndO o≤op.length∧nestR o (topN o op)=false then
      runP r (i+1) (op.take (op.length-ndO o)++[madeR o i (topN o op)]) (e||scopeR o (topN o op)) (all++[madeR o i (topN o op)])
    else none
def tot (l:List ResL):Nat:=(l.map fun r=>r.sc.length+r.ct.length).sum
theorem tot_append (a b:List ResL):tot (a++b)=tot a+tot b:=by unfold tot;rw [List.map_append,List.sum_append_nat]
theorem tot_mem {l:List ResL} {r:ResL} (h:r∈l):r.sc.length+r.ct.length≤tot l:=by
  induction l with
  | nil=>cases h
  | cons a b ih =>
    unfold tot at *
    rw [List.map_cons,List.sum_cons]
    rcases List.mem_cons.1 h with rfl|h
    · omega
    · have:=ih h;omega
theorem tot_two {N:List ResL} (h:N.length≤2):(N.getD 0 noR).sc.length+(N.getD 1 noR).sc.length+((N.getD 0 noR).ct.length+(N.getD 1 noR).ct.length)≤tot N:=by
  match N,h with
  | [],_=>decide
  | [a],_ =>
    have e1:([a].getD 0 noR)=a:=rfl
    have e2:([a].getD 1 noR)=noR:=rfl
    rw [e1,e2]
    show _+0+(_+0)≤tot [a]
    simp [tot]
  | [a,b],_ =>
    have e1:([a,b].getD 0 noR)=a:=rfl
    have e2:([a,b].getD 1 noR)=b:=rfl
    rw [e1,e2]
    simp [tot];omega
theorem madeR_tot {o:OpL} (h:rightO o=true) (i:Nat) {N:List ResL} (hN:N.length≤2):(madeR o i N).sc.length+(madeR o i N).ct.length≤tot N+256:=by
  have h1:=scB_length h false (N.getD 0 noR).sc (N.getD 1 noR).sc
  have h2:=scB_length h true (N.getD 0 noR).ct (N.getD 1 noR).ct
  have h3:=tot_two hN
  unfold madeR
  dsimp only
  omega
theorem topN_length {o:OpL} {op:List ResL} (h:ndO o≤op.length):(topN o op).length=ndO o:=by unfold topN;rw [List.length_drop];omega
structure RunR (C:List OpL) (k:Nat) (op:List ResL) (e:Bool) (all:List ResL):Prop where
  run:runP C 0 [] false []=runP (C.drop k) k op e all
  len:all.length=k
  few:op.length≤k
  tot:tot op≤256*k
theorem runR_start (C:List OpL):RunR C 0 [] false []:=⟨rfl,rfl,Nat.le_refl _,Nat.le_refl _⟩
theorem runR_next {C:List OpL} {k:Nat} {op all:List ResL} {e:Bool} (h:RunR C k op e all) (hk:k<C.length) (h1:rightO C[k]=true) (h2:ndO C[k]≤op.length) (h3:nestR C[k] (topN C[k] op)=false):RunR C (k+1) (op.take (op.length-ndO C[k])++[madeR C[k] k (topN C[k] op)]) (e||scopeR C[k] (topN C[k] op)) (all++[madeR C[k] k (topN C[k] op)]):=by
 have hl:=topN_length h2;have h4:=ndO_le C[k];refine⟨?_,by rw [List.length_append,h.len];rfl,?_,?_⟩
 ·rw [h.run,List.drop_eq_getElem_cons hk,runP,if_pos ⟨h1,h2,h3⟩]
 ·rw [List.length_append,List.length_take];have:=h.few;(show _+1≤_);omega
 ·rw [tot_append];(have h5:=madeR_tot h1 k (N:=topN C[k] op) (by omega));have h6:tot op=tot (op.take (op.length-ndO C[k]))+tot (topN C[k] op):=by
   (unfold topN);rw [←tot_append,List.take_append_drop]
  have h7:=h.tot;(have h8:tot [madeR C[k] k (topN C[k] op)]=(madeR C[k] k (topN C[k] op)).sc.length+(madeR C[k] k (topN C[k] op)).ct.length:=by simp [Go.Proofs.YtjpfoophipcglaaGreatDoor.tot]);omega
theorem runR_stop {C:List OpL} {k:Nat} {op all:List ResL} {e:Bool} (h:RunR C k op e all) (hk:k<C.length) (h1:¬(rightO C[k]=true∧ndO C[k]≤op.length∧nestR C[k] (topN C[k] op)=false)):runP C 0 [] false []=none:=by
  rw [h.run,List.drop_eq_getElem_cons hk,runP,if_neg h1]
theorem runR_end {C:List OpL} {k:Nat} {op all:List ResL} {e:Bool} (h:RunR C k op e all) (hk:C.length≤k):runP C 0 [] false []=some (all,op,e):=by
  rw [h.run,List.drop_eq_nil_of_le hk];rfl
def resE (C:List OpL):Int:=if 128<C.length then 3 else match runP C 0 [] false [] with
  | none=>2
  | some (_,op,e)=>if op.length≠1 then 2 else if e=true then 6 else 0
def resA (C:List OpL):List ResL:=match runP C 0 [] false [] with
  | none=>[]
  | some (all,_,_)=>all
theorem resE_long {C:List OpL} (h:128<C.length):resE C=3:=if_pos h
theorem resE_none {C:List OpL} (h:C.length≤128) (hr:runP C 0 [] false []=none):resE C=2:=by unfold resE;rw [if_neg (by omega),hr]
theorem resE_some {C:List OpL} (h:C.length≤128) {all op:List ResL} {e:Bool} (hr:runP C 0 [] false []=some (all,op,e)):resE C=if op.length≠1 then 2 else if e=true then 6 else 0:=by unfold resE;rw [if_neg (by omega),hr]
theorem resA_some {C:List OpL} {all op:List ResL} {e:Bool} (hr:runP C 0 [] false []=some (all,op,e)):resA C=all:=by unfold resA;rw [hr]
section
open Go.RowKit Go.Maps
theorem made_ret (tm:Array Value) (W:World) (A:Nat) (f:Int) (v:Bool) (p q:Option Nat) (Q:Ending→World→Prop) (h:tm.getD 6 undef=.pointer (some ⟨A,0,none⟩)) (hA:Blk W A 89 #[.int .i64 f,.bool v,.map p,.map q]) (hQ:Q (.returned (.agg #[.int .i64 f,.bool v,.map p,.map q])) W):bodyPost Tryz.prog Tryz.f92 Q Exit.ret { tmps:=tm,defers:=[] } W:=by
 have q0:=bq hA 0;have q1:=bq hA 1;have q2:=bq hA 2;have q3:=bq hA 3;(have e2:tm[6]?.getD undef=.pointer (some ⟨A,0,none⟩):=by rw [←Array.getD_eq_getD_getElem?];exact h);refine bodyPost_ret (v:=.agg #[.int .i64 f,.bool v,.map p,.map q]) (by simp [results,Tryz.results92,e2,q0,q1,q2,q3,go_sem]) rfl hQ
theorem OpBox.row {w wr:World} {o:OpL} {A:OpS} {Z:Nat} {cs:Array Value} (h:OpBox w o A wr) (hz:w.heap.size<Z):OpBox w o A (wr.setRow Z cs):=by
  have hg:=kSet wr Z cs
  have hb:Below (w.heap.size+1) wr (wr.setRow Z cs):=⟨hg.os,hg.tape,hg.output,hg.size,fun k hk=>hg.block k (Nat.lt_of_lt_of_le hk h.2.2) (fun e=>by have:=Option.some.inj e;omega)⟩
  exact⟨h.1.on hb (Nat.lt_succ_self _),h.2.1.trans (hb.mono (Nat.le_succ _)),Nat.lt_of_lt_of_le h.2.2 hg.size⟩
structure AtR (w:World) (X Z:Nat) (r:ResL) (p q:Option Nat) (W:World):Prop where
  x:w.heap.size≤X
  z:w.heap.size≤Z
  ne:X≠Z
  bx:Blk W X 89 #[.int .i64 0,.bool false,.map none,.map none]
  bz:Blk W Z 89 #[.int .i64 r.f,.bool r.v,.map p,.map q]
  hp:SetA W p r.sc
  hq:SetA W q r.ct
  below:Below w.heap.size w W
theorem AtR.on {w W W':World} {X Z:Nat} {r:ResL} {p q:Option Nat} (h:AtR w X Z r p q W) (hb:Below W.heap.size W W'):AtR w X Z r p q W' :=
  ⟨h.x,h.z,h.ne,blk_on h.bx hb (blk_lt h.bx),blk_on h.bz hb (blk_lt h.bz),h.hp.on (mapsOn_below hb),h.hq.on (mapsOn_below hb),h.below.trans (hb.mono h.below.size)⟩
theorem blk_else {W:World} {X Z i:Nat} {T:TypeId} {a:Array Value} {v:Value} (h:Blk W X T a) (hne:X≠Z):Blk (W.setCell ⟨Z,i,none⟩ v) X T a:=by
  unfold Blk at *
  show (W.heap.modify Z _)[X]?=_
  rw [Array.getElem?_modify,if_neg (fun e=>hne e.symm)];exact h
theorem AtR.set {w W:World} {X Z:Nat} {r:ResL} {p q:Option Nat} (h:AtR w X Z r p q W) (f:Nat) (v:Bool):AtR w X Z ⟨f,v,r.sc,r.ct⟩ p q ((W.setCell ⟨Z,0,none⟩ (.int .i64 f)).setCell ⟨Z,1,none⟩ (.bool v)):=by
  have h0:=blk_set h.bz 0 (.int .i64 f)
  have h1:=blk_set h0 1 (.bool v)
  have hm:=(set_maps h.bz 0 (.int .i64 f)).trans (set_maps h0 1 (.bool v))
  exact⟨h.x,h.z,h.ne,blk_else (blk_else h.bx h.ne) h.ne,h1,h.hp.on hm,h.hq.on hm,(h.below.setCell (p:=⟨Z,0,none⟩) h.z _).setCell (p:=⟨Z,1,none⟩) h.z _⟩
theorem atR_new {w W w2:World} {X Z:Nat} {f:Nat} {v:Bool} {L M:List (List UInt8)} {p q:Option Nat} (hx:w.heap.size≤X) (hz:w.heap.size≤Z) (hne:X≠Z) (hbx:Blk w2 X 89 #[.int .i64 0,.bool false,.map none,.map none]) (hbz:Blk w2 Z 89 #[.int .i64 0,.bool false,.map none,.map none]) (hp:SetA w2 p L) (hq:SetA w2 q M) (hb:Below w.heap.size w w2) (hW:W=w2.setRow Z #[.int .i64 f,.bool v,.map p,.map q]):AtR w X Z ⟨f,v,L,M⟩ p q W:=by
 subst hW;have hg:=kSet w2 Z #[.int .i64 f,.bool v,.map p,.map q];exact⟨hx,hz,hne,kBlk hg hbx hne,kRow hbz _,hp.on (kMaps hg hbz),hq.on (kMaps hg hbz),hb.grown hg hb.size (fun j hj=>by cases hj;exact hz)⟩
def partR (o:OpL) (i:Nat) (N:List ResL) (j:Nat):ResL:=⟨(N.take j).foldl (fun m x=>min m x.f) i,(N.take j).foldl (fun b x=>b||x.v) (o.k==9),scB o false (N.getD 0 noR).sc (N.getD 1 noR).sc,scB o true (N.getD 0 noR).ct (N.getD 1 noR).ct⟩
theorem partR_next {o:OpL} {i:Nat} {N:List ResL} {j:Nat} (h:j<N.length):partR o i N (j+1)=⟨min (partR o i N j).f N[j].f,(partR o i N j).v||N[j].v,(partR o i N j).sc,(partR o i N j).ct⟩:=by
  unfold partR
  rw [List.take_succ_eq_append_getElem h,List.foldl_append,List.foldl_append];rfl
theorem partR_end {o:OpL} {i:Nat} {N:List ResL} {j:Nat} (h:N.length≤j):partR o i N j=madeR o i N:=by unfold partR madeR;rw [List.take_of_length_le h]
theorem made_calls (o:OpL) (A:OpS) (hr:rightO o=true) (hok:OpOk o) (i:Nat) (N:List ResL) (hN:N.length=ndO o) (hb:∀r∈N,r.sc.length≤1000000∧r.ct.length≤1000000) (a:Option Addr) (n c:Nat) (w:World) (hin:OpIn w o A) (hv:ResA w a n c N):Calls Tryz.prog 92 #[o.v A,.int .i64 i,.slice a n c] w (ResT w (madeR o i N)):=by
 (have HC:=Hd (fun W h1 h2=>brought_calls o A hr hok N hN hb a n c W h1 h2));have HIN:=Hd hin;have HV:=Hd hv;have HNL:=Hd hv.len;have hcp:=hv.cap;have hms:=hv.most;(unfold maxLen at hms);(have HP:=Hd (fun j h=>partR_next (o:=o) (i:=i) (N:=N) (j:=j) h));(have HPE:=Hd (fun j h=>partR_end (o:=o) (i:=i) (N:=N) (j:=j) h));(have HP0:=Hd (show partR o i N 0=⟨i,o.k==9,scB o false (N.getD 0 noR).sc (N.getD 1 noR).sc,scB o true (N.getD 0 noR).ct (N.getD 1 noR).ct⟩ from rfl));obtain⟨L,hL⟩:∃L,scB o false (N.getD 0 noR).sc (N.getD 1 noR).sc=L:=⟨_,rfl⟩;obtain⟨M,hM⟩:∃M,scB o true (N.getD 0 noR).ct (N.getD 1 noR).ct=M:=⟨_,rfl⟩;rw [hL,hM] at HC HP0;obtain⟨r,hrr⟩:∃r,madeR o i N=r:=⟨_,rfl⟩;rw [hrr] at HPE ⊢;clear hrr;obtain⟨PR,hPR⟩:∃PR,partR o i N=PR:=⟨_,rfl⟩;rw [hPR] at HP HPE HP0;(have HNEW:=Hd (fun T=>OpBox.new w o A T));(have HX:=Hd (show ∀W,OpBox w o A W→Op7 W w.heap.size 0 o A from fun W h=>h.1));clear hin hv hL hM hPR hr hN hb hok;obtain⟨pk,pT,pV,pR,pF,pm,ps⟩:=o;obtain⟨ta,tn,tc,va,vn,vc,ra,rn,rc,fa,fn,fc⟩:=A;(simp only [OpL.v] at HC ⊢);(simp only [Op7] at HX);dsimp only at HNEW HX HP0;(go_enter Tryz.func92,Tryz.ntmps92);(go_upto_region 1 with fail);go_cut [7] from 10 (fun s7 wr=>∃(Z:Nat) (p q:Option Nat),s7=.pointer (some ⟨Z,0,none⟩)∧Hid (AtR w (w.heap.size+1) Z (PR 0) p q wr))
 case first =>
  (refine kName (fun W hW=>?_));(have hob:OpBox w ⟨pk,pT,pV,pR,pF,pm,ps⟩ ⟨ta,tn,tc,va,vn,vc,ra,rn,rc,fa,fn,fc⟩ W:=by rw [hW];exact (HNEW.out _).on (box_below _ _));have HBX:Hid (Blk W (w.heap.size+1) 89 #[.int .i64 0,.bool false,.map none,.map none]):=by
   rw [hW];have:=blk_new (w.alloc (.cells #[.int .i64 pk,.slice ta tn tc,.slice va vn vc,.slice ra rn rc,.slice fa fn fc,.string (bs pm),.bool ps] 57)) 89 #[.int .i64 0,.bool false,.map none,.map none];(rw [show (w.alloc (.cells #[.int .i64 pk,.slice ta tn tc,.slice va vn vc,.slice ra rn rc,.slice fa fn fc,.string (bs pm),.bool ps] 57)).heap.size=w.heap.size+1 by simp] at this);exact Hd this
  (have hzW:W.heap.size=w.heap.size+1+1:=by rw [hW];simp);clear hW;obtain⟨c0,c1,c2,c3,c4,c5,c6⟩:=HX.out _ hob;have HBW:=Hd hob.2.1;have hlt:=hob.2.2;have HOB:=Hd hob;clear hob;(have HD:=Hd (show OpBox w ⟨pk,pT,pV,pR,pF,pm,ps⟩ ⟨ta,tn,tc,va,vn,vc,ra,rn,rc,fa,fn,fc⟩ W.drew from HOB.out.on (Below.refl _ _).drew));(have HBD:=Hd (show Below w.heap.size w W.drew from HBW.out.drew));refine wp_region_held_drew (S:=(fun WW=>WW.cell? ⟨w.heap.size,0,none⟩=some (.int .i64 pk)∧WW.cell? ⟨w.heap.size,1,none⟩=some (.slice ta tn tc)∧WW.cell? ⟨w.heap.size,2,none⟩=some (.slice va vn vc)∧WW.cell? ⟨w.heap.size,3,none⟩=some (.slice ra rn rc)∧WW.cell? ⟨w.heap.size,4,none⟩=some (.slice fa fn fc)∧WW.cell? ⟨w.heap.size,5,none⟩=some (.string (bs pm))∧WW.cell? ⟨w.heap.size,6,none⟩=some (.bool ps))) (by kernel_rfl) ?_ (fun hHeld=>?_)
  ·(try dsimp only);exact HX.out _ (HD.out)
  refine tkA 0 10 ?_;refine tkA 1 11 ?_;refine tkA 2 12 ?_;refine tkA 3 13 ?_;refine tkA 4 14 ?_;refine tkA 5 15 ?_;(refine wpAnyH_ready (rs:=[6,8]) (by kernel_rfl) (by simp) ?_);refine AllReadyH.cons rfl (fun K hK=>?_) (AllReadyH.cons rfl (fun K hK=>?_) AllReadyH.nil)
  ·go_simp;refine (HC.out _ (HIN.out.on HBD.out) (HV.out.on HBD.out)).mono ?_;rintro e w2 ⟨p,q,rfl,hp,hq,hb2⟩;have HPS:=Hd hp;have HQS:=Hd hq;have HB2:=Hd hb2;have HO2:=Hd (HD.out.on hb2);clear hp hq hb2;(go_wp2_with fail);refine hK.out _ _ ?_ (fun hHeld=>?_)
   ·(try dsimp only);exact HX.out _ HO2.out
   clear hK K;(try simp only [Act.put,sb,sz,ss]);refine tkA 7 17 ?_;have HO3:=Hd (HO2.out.on (box_below w2 (.cells #[.int .i64 0,.bool false,.map none,.map none] 89)));(refine rdA 8 fun K hK=>?_);go_simp;refine hK.out _ _ ?_ (fun hHeld=>?_)
   ·(try dsimp only);exact HX.out _ HO3.out
   clear hK K;(try simp only [Act.put,sb,sz,ss]);have BZ:=Hd (blk_new w2 89 #[.int .i64 0,.bool false,.map none,.map none]);(have hz2:w.heap.size+1<w2.heap.size:=by have h1:=HB2.out.size;have h2:W.drew.heap.size=W.heap.size:=rfl;omega);(have BX:=Hd (blk_alloc (blk_on HBX.out (((Below.refl W.heap.size W).drew).trans HB2.out) (by omega)) (.cells #[.int .i64 0,.bool false,.map none,.map none] 89)));have hm3:=mapsOn_below (box_below w2 (.cells #[.int .i64 0,.bool false,.map none,.map none] 89));(have AR3:=atR_new (w:=w) (X:=w.heap.size+1) (Z:=w2.heap.size) (f:=i) (v:=pk==9) (by omega) (by omega) (by omega) BX.out BZ.out (HPS.out.on hm3) (HQS.out.on hm3) ((HBD.out.trans (HB2.out.mono HBD.out.size)).alloc (by omega) _) rfl);(have OB3:OpBox w ⟨pk,pT,pV,pR,pF,pm,ps⟩ ⟨ta,tn,tc,va,vn,vc,ra,rn,rc,fa,fn,fc⟩ ((w2.alloc (.cells #[.int .i64 0,.bool false,.map none,.map none] 89)).setRow w2.heap.size #[.int .i64 i,.bool (pk==9),.map p,.map q]):=HO3.out.row (by omega));(refine rdA 9 fun K hK=>?_);(refine wp_store_row 89 (.tmp 7) (.tmp 17) rfl w2.heap.size #[.int .i64 i,.bool (pk==9),.map p,.map q] rfl rfl 89 #[.int .i64 0,.bool false,.map none,.map none] BZ.out (by kernel_rfl) rfl (by kernel_rfl) ?_);refine hK.out _ _ ?_ (fun hHeld=>?_)
   ·(try dsimp only);exact HX.out _ OB3
   clear hK K;(try simp only [Act.put]);refine dnA ?_;(go_wp2_with fail);go_meet
   case rel=>exact⟨_,p,q,rfl,Hd (by rw [HP0.out];exact AR3)⟩
  ·go_simp;have HO1:=Hd (HD.out.on (box_below W.drew (.cells #[.int .i64 0,.bool false,.map none,.map none] 89)));(have HB1:=Hd (show Below w.heap.size w (W.drew.alloc (.cells #[.int .i64 0,.bool false,.map none,.map none] 89)) from HBD.out.alloc (by have h2:W.drew.heap.size=W.heap.size:=rfl;omega) _));refine hK.out _ _ ?_ (fun hHeld=>?_)
   ·(try dsimp only);exact HX.out _ HO1.out
   clear hK K;(try simp only [Act.put,sb,sz,ss]);(refine rdA 6 fun K hK=>?_);go_simp;refine (HC.out _ (HIN.out.on HB1.out) (HV.out.on HB1.out)).mono ?_;rintro e w2 ⟨p,q,rfl,hp,hq,hb2⟩;have HPS:=Hd hp;have HQS:=Hd hq;have HB2:=Hd hb2;have HO2:=Hd (HO1.out.on hb2);clear hp hq hb2;(go_wp2_with fail);refine hK.out _ _ ?_ (fun hHeld=>?_)
   ·(try dsimp only);exact HX.out _ HO2.out
   clear hK K;(try simp only [Act.put,sb,sz,ss]);refine tkA 7 17 ?_;(have BZ:=Hd (blk_on (blk_new W.drew 89 #[.int .i64 0,.bool false,.map none,.map none]) HB2.out (by simp)));(have BX:=Hd (blk_on (blk_alloc (show Blk W.drew (w.heap.size+1) 89 #[.int .i64 0,.bool false,.map none,.map none] from HBX.out) (.cells #[.int .i64 0,.bool false,.map none,.map none] 89)) HB2.out (by simp;have h2:W.drew.heap.size=W.heap.size:=rfl;omega)));have hzz:W.drew.heap.size=w.heap.size+1+1:=hzW;rw [hzz] at BZ;(have AR3:=atR_new (w:=w) (X:=w.heap.size+1) (Z:=w.heap.size+1+1) (f:=i) (v:=pk==9) (by omega) (by omega) (by omega) BX.out BZ.out HPS.out HQS.out (HB1.out.trans (HB2.out.mono HB1.out.size)) rfl);(have OB3:OpBox w ⟨pk,pT,pV,pR,pF,pm,ps⟩ ⟨ta,tn,tc,va,vn,vc,ra,rn,rc,fa,fn,fc⟩ (w2.setRow (w.heap.size+1+1) #[.int .i64 i,.bool (pk==9),.map p,.map q]):=HO2.out.row (by omega));(refine rdA 9 fun K hK=>?_);(refine wp_store_row 89 (.tmp 7) (.tmp 17) rfl (w.heap.size+1+1) #[.int .i64 i,.bool (pk==9),.map p,.map q] rfl rfl 89 #[.int .i64 0,.bool false,.map none,.map none] BZ.out (by kernel_rfl) rfl (by kernel_rfl) ?_);refine hK.out _ _ ?_ (fun hHeld=>?_)
   ·(try dsimp only);exact HX.out _ OB3
   clear hK K;(try simp only [Act.put]);refine dnA ?_;(go_wp2_with fail);go_meet
   case rel=>exact⟨_,p,q,rfl,Hd (by rw [HP0.out];exact AR3)⟩
 case rest =>
  obtain⟨Z,p,q,rfl,HA⟩:=hcut;have HW0:=Hd HA.out.below;obtain⟨X,hX⟩:∃X,w.heap.size+1=X:=⟨_,rfl⟩;rw [hX] at HA ⊢;clear hX;go_wp2;go_loopg [20] n (fun g2 j wr=>∃k:Nat,j=.int .i64 k∧k+g2=n∧Hid (AtR w X Z (PR k) p q wr))
  case atStart=>exact⟨0,rfl,by omega,HA⟩
  case round =>
   obtain⟨W1,rfl⟩:∃W1,W1=wr:=⟨_,rfl⟩;obtain⟨k,rfl,hkg,HR⟩:=hrel;by_cases hk:k<n
   ·(obtain⟨gg,rfl⟩:∃gg,gk=gg+1:=⟨gk-1,by omega⟩);(have hkL:k<N.length:=by rw [HNL.out];exact hk);(obtain⟨g,o,ha,hgw,hcells⟩:=HV.out.cells (by omega));subst ha;obtain⟨pp,qq,d0,d1,d2,d3,_,_⟩:=hcells k hkL;have hbw:=HR.out.below;have e0:=kpB hbw hgw d0;have e1:=kpB hbw hgw d1;have e2:=kpB hbw hgw d2;have e3:=kpB hbw hgw d3;have hgW:g<W1.heap.size:=Nat.lt_of_lt_of_le hgw hbw.size;have HNX:=Hd (HP.out k hkL);clear hcells d0 d1 d2 d3 hbw;generalize N[k].f=nf at e0 HNX;generalize N[k].v=nv at e1 HNX;(have HS:=Hd (fun f v (ob:Obj)=>(HR.out.set f v).on (box_below _ ob)));obtain⟨f,hf⟩:∃f,(PR k).f=f:=⟨_,rfl⟩;obtain⟨v,hvv⟩:∃v,(PR k).v=v:=⟨_,rfl⟩;have bz:=HR.out.bz;rw [hf,hvv] at bz;rw [hf,hvv] at HNX;have z0:=bq bz 0;have z1:=bq bz 1;have fz0:W1.frozen? ⟨Z,0,none⟩=false:=blk_free bz 0;have fz1:W1.frozen? ⟨Z,1,none⟩=false:=blk_free bz 1;have hZ:Z<W1.heap.size:=blk_lt bz;(have hZn:¬Z=W1.heap.size:=by omega);(have hmin:(min (f:Int) (nf:Int))=((min f nf:Nat):Int):=by omega);have HM:=Hd hmin;(have k0:(0:Int)≤(k:Int):=by omega);(have k1:(k:Int)<(n:Int):=by omega);clear hf hvv bz hmin;cases v with
    | true =>
      go_wp2;go_roundg gg
      case measure=>omega
      case rel=>exact⟨k+1,by go_num,by omega,Hd (by rw [HNX.out,HM.out];exact HS.out _ _ _)⟩
    | false =>
      go_wp2;go_roundg gg
      case measure=>omega
      case rel=>exact⟨k+1,by go_num,by omega,Hd (by rw [HNX.out,HM.out,Bool.false_or];exact HS.out _ _ _)⟩
   ·(have k1:¬(k:Int)<(n:Int):=by omega);(have HE:=Hd (HPE.out k (by rw [HNL.out];omega)));rw [HE.out] at HR;have bz:=HR.out.bz;have bx:=HR.out.bx;have z0:=bq bz 0;have z1:=bq bz 1;have z2:=bq bz 2;have z3:=bq bz 3;clear bz;(go_wp2_with (refine kWhole 89 (.tmp 6) (.tmp 38) ⟨rfl,rfl⟩ X #[.int .i64 r.f,.bool r.v,.map p,.map q] (by kernel_rfl) (by kernel_rfl) 89 #[.int .i64 0,.bool false,.map none,.map none] bx (by kernel_rfl) rfl (by kernel_rfl) ?_;intro w4 hA4 hG4));have hm:=kMaps hG4.out bx;refine made_ret _ _ X r.f r.v p q _ (by first|rfl|simp) hA4.out ⟨p,q,rfl,HR.out.hp.on hm,HR.out.hq.on hm,HR.out.below.grown hG4.out HR.out.below.size (fun j hj=>by cases hj;exact HR.out.x)⟩
end
section
open Go.RowKit Go.Maps
theorem info_result:(Tryz.prog.info? 89).map (fun i=>(i.zero,i.size,i.bytes))=some (some (.agg #[.int .i64 0,.bool false,.map none,.map none]),4,32):=by kernel_rfl
structure ResP where
  r:ResL
  p:Option Nat
  q:Option Nat
def ResP.cells (x:ResP):List Value:=[.int .i64 x.r.f,.bool x.r.v,.map x.p,.map x.q]
def resCells (L:List ResP):List Value:=L.flatMap ResP.cells
theorem resCells_append (a b:List ResP):resCells (a++b)=resCells a++resCells b:=by unfold resCells;rw [List.flatMap_append]
theorem resCells_one (x:ResP):resCells [x]=x.cells:=by simp [resCells]
theorem resCells_length:∀L:List ResP,(resCells L).length=L.length*4
  | []=>rfl
  | x::r=>by
    have:=resCells_length r
    unfold resCells at *
    rw [List.flatMap_cons,List.length_append,this,List.length_cons]
    show 4+_=_
    omega
theorem resCells_take (L:List ResP):∀n,n≤L.length→resCells (L.take n)=(resCells L).take (n*4):=by
  intro n hn
  have h:resCells L=resCells (L.take n)++resCells (L.drop n):=by rw [←resCells_append,List.take_append_drop]
  have h2:(resCells (L.take n)).length=n*4:=by rw [resCells_length,List.length_take];omega
  rw [h,←h2,List.take_left]
theorem resCells_at {L:List ResP} {j:Nat} (h:j<L.length) (i:Nat) (hi:i<4):(resCells L)[j*4+i]?=L[j].cells[i]?:=by
  have h1:resCells L=resCells (L.take j)++(L[j].cells++resCells (L.drop (j+1))):=by
    rw [←resCells_one,←resCells_append,←resCells_append]
    congr 1
    rw [List.singleton_append,←List.drop_eq_getElem_cons h,List.take_append_drop]
  have h2:(resCells (L.take j)).length=j*4:=by rw [resCells_length,List.length_take];omega
  rw [h1,List.getElem?_append_right (by omega),h2,Nat.add_sub_cancel_left,List.getElem?_append_left (by show i<4;exact hi)]
def OwnR (W:World) (B:Nat) (v:Value) (L:List ResP):Prop:=W.ownsRow B 89 4 v L.length (resCells L)
def SetsR (W:World) (L:List ResP):Prop:=∀x∈L,SetA W x.p x.r.sc∧SetA W x.q x.r.ct
theorem SetsR.on {W W':World} {L:List ResP} (h:SetsR W L) (hm:MapsOn W W'):SetsR W' L:=fun x hx=>⟨(h x hx).1.on hm,(h x hx).2.on hm⟩
theorem SetsR.take {W:World} {L:List ResP} (h:SetsR W L) (n:Nat):SetsR W (L.take n):=fun x hx=>h x (List.mem_of_mem_take hx)
theorem SetsR.push {W:World} {L:List ResP} {x:ResP} (h:SetsR W L) (hp:SetA W x.p x.r.sc) (hq:SetA W x.q x.r.ct):SetsR W (L++[x]):=fun y hy=>by
  rcases List.mem_append.1 hy with hy|hy
  · exact h y hy
  · rw [List.mem_singleton] at hy;subst hy;exact⟨hp,hq⟩
theorem OwnR.cut {W:World} {B g len cap:Nat} {L:List ResP} (h:OwnR W B (.slice (some ⟨g,0,none⟩) len cap) L) {n:Nat} (hn:n≤L.length):OwnR W B (.slice (some ⟨g,0,none⟩) n cap) (L.take n):=by
  unfold OwnR at *
  rcases h.2 with ⟨h0,_⟩|⟨g',cap',cur,hv,hB,hh,h1,h2,h3,h4⟩
  · cases h0
  · cases hv
    have hl:(L.take n).length=n:=by rw [List.length_take];omega
    refine⟨by rw [resCells_length],.inr ⟨g,cap,cur,by rw [hl],hB,hh,by rw [hl];omega,h2,h3,?_⟩⟩
    rw [hl,resCells_take L n hn,←h4,List.take_take]
    congr 1
    omega
theorem OwnR.len {W:World} {B g len cap:Nat} {L:List ResP} (h:OwnR W B (.slice (some ⟨g,0,none⟩) len cap) L):len=L.length∧L.length≤cap∧cap≤maxLen∧B≤g∧g<W.heap.size:=by
  unfold OwnR at h
  rcases h.2 with ⟨h0,_⟩|⟨g',cap',cur,hv,hB,hh,h1,h2,h3,h4⟩
  · cases h0
  · cases hv
    exact⟨rfl,h1,h2,hB,(Array.getElem?_eq_some_iff.1 hh).1⟩
theorem OwnR.at_ {W:World} {B g len cap:Nat} {L:List ResP} (h:OwnR W B (.slice (some ⟨g,0,none⟩) len cap) L) (hs:SetsR W L) {j:Nat} (hj:j<L.length):ResAt W g (j*4) L[j].r:=by
 (have hc:=fun i (hi:i<4) u (hu:L[j].cells[i]?=some u)=>h.cells (g:=g) rfl (j*4+i) u (by rw [resCells_at hj i hi];exact hu));have ha:∀i,(⟨g,0,none⟩:Addr).add i=⟨g,i,none⟩:=fun i=>by
  cases i with
  | zero=>rfl
  | succ i=>simp [Addr.add]
 refine⟨L[j].p,L[j].q,?_,?_,?_,?_,(hs _ (List.getElem_mem hj)).1,(hs _ (List.getElem_mem hj)).2⟩
 ·have:=hc 0 (by decide) _ rfl;rwa [ha] at this
 ·have:=hc 1 (by decide) _ rfl;rwa [ha] at this
 ·have:=hc 2 (by decide) _ rfl;rwa [ha] at this
 ·have:=hc 3 (by decide) _ rfl;rwa [ha] at this
theorem OwnR.drop {W:World} {B g len cap:Nat} {L:List ResP} (h:OwnR W B (.slice (some ⟨g,0,none⟩) len cap) L) (hs:SetsR W L) {n m c:Nat} (hm:n+m=L.length) (hc:n+c=cap):ResA W (some ⟨g,n*4,none⟩) m c ((L.drop n).map (·.r)):=by
  obtain⟨h1,h2,h3,h4,h5⟩:=h.len
  refine⟨by rw [List.length_map,List.length_drop];omega,by omega,by omega,fun _=>⟨g,n*4,rfl,h5,fun j hj=>?_⟩⟩
  rw [List.length_map,List.length_drop] at hj
  have:=h.at_ hs (j:=n+j) (by omega)
  rw [List.getElem_map,List.getElem_drop,←Nat.add_mul]
  exact this
theorem OwnR.whole {W:World} {B g len cap:Nat} {L:List ResP} (h:OwnR W B (.slice (some ⟨g,0,none⟩) len cap) L) (hs:SetsR W L):ResA W (some ⟨g,0,none⟩) len cap (L.map (·.r)):=by
  have:=h.drop hs (n:=0) (m:=L.length) (c:=cap) (by omega) (by omega)
  rw [Nat.zero_mul,List.drop_zero] at this
  rw [h.len.1];exact this
theorem OwnR.cases {W:World} {B:Nat} {v:Value} {L:List ResP} (h:OwnR W B v L):(v=.slice none 0 0∧L=[])∨∃g cap,v=.slice (some ⟨g,0,none⟩) L.length cap:=by
  rcases h.2 with ⟨h0,h1⟩|⟨g,cap,cur,hv,_⟩
  · exact .inl ⟨h0,List.eq_nil_of_length_eq_zero h1⟩
  · exact .inr ⟨g,cap,hv⟩
theorem OwnR.kept {W W':World} {B:Nat} {v:Value} {L:List ResP} {row:Option Nat} (h:OwnR W B v L) (hg:W.grownBy W' row) (hne:v.ownBlock=none∨v.ownBlock≠row):OwnR W' B v L:=World.ownsRow.kept h hg hne
theorem own_maps {W W':World} {B:Nat} {v:Value} {L:List ResP} (h:OwnR W B v L) (hg:W.grownBy W' v.ownBlock):MapsOn W W':=grown_maps hg (fun b es c e k=>by
  rcases h.2 with ⟨rfl,_⟩|⟨g,cap,cur,rfl,_,hh,_⟩
  · cases e
  · cases e
    rw [hh] at k
    cases k)
end
end Go.Proofs.YtjpfoophipcglaaGreatDoor
