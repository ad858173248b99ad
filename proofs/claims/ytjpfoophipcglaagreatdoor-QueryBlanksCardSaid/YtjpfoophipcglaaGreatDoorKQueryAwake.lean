/- The program answers at all: the statements' own look. -/
import Derived.Test.YtjpfoophipcglaaGreatDoorKQParses
namespace Go.Proofs.YtjpfoophipcglaaGreatDoor
set_option maxRecDepth 100000
set_option maxHeartbeats 8000000
section
open Go.RowKit
def awT:List UInt8:=[83,69,76,69,67,84,32,42,32,87,72,69,82,69,32,123,32,63,120,32,60,97,62,32,63,121,32,46,32,79,80,84,73,79,78,65,76,32,123,32,63,121,32,60,98,62,32,63,122,32,46,32,70,73,76,84,69,82,32,40,32,63,122,32,62,32,49,32,41,32,125,32,125]
theorem aw_err:(parseQ awT).2=0:=by kernel_rfl
theorem aw_vars:(parseQ awT).1.V=[[120],[121],[122]]:=by kernel_rfl
theorem aw_code:(parseQ awT).1.C.map (fun o=>(o.k,o.F.length))=[(1,0),(1,0),(5,3)]:=by kernel_rfl
def qcs (q:QueryL) (S:QS):Array Value:=#[.bool q.ask,.bool q.dist,.slice S.va q.V.length S.vc,.slice S.ga q.G.length S.gc,.bool q.gr,.slice S.ba q.B.length S.bc,.slice S.oa q.O.length S.oc,.int .i64 q.lim,.int .i64 q.off,.slice S.ca q.C.length S.cc]
def qlay (w:World) (q:QueryL) (S:QS):World:=w.alloc (.cells (qcs q S) 27)
theorem qlay_blk (w:World) (q:QueryL) (S:QS):Blk (qlay w q S) w.heap.size 27 (qcs q S):=blk_new _ _ _
theorem qlay_below (w:World) (q:QueryL) (S:QS):Below w.heap.size w (qlay w q S):=box_below _ _
theorem Good.nxt {w w':World} (h:Good w.heap.size w) (hb:Below w.heap.size w w'):Good w'.heap.size w':=(h.on hb).up hb.size
theorem ErrG.next {w w':World} (h:ErrG w.heap.size w) (hb:Below w.heap.size w w'):ErrG w'.heap.size w':=(h.on hb).up hb.size
theorem three_ops {C:List OpL} (h:C.map (fun o=>(o.k,o.F.length))=[(1,0),(1,0),(5,3)]):∃c0 c1 c2,C=[c0,c1,c2]∧c2.k=5∧c2.F.length=3:=by
  rcases C with _|⟨c0,_|⟨c1,_|⟨c2,_|⟨c3,C⟩⟩⟩⟩<;>simp at h
  exact⟨c0,c1,c2,rfl,h.2.2.1,h.2.2.2⟩
theorem txt_new8 (w:World) (L:List (List UInt8)) (hl:L.length≤100):TxtA (w.alloc (.cells (L.map fun x=>Value.string (bs x)).toArray 9)) (some ⟨w.heap.size,0,none⟩) L.length L.length L :=
  ⟨rfl,Nat.le_refl _,by unfold maxLen;omega,fun _=>⟨_,0,rfl,by simp,fun j hj=>by
    rw [blk_cell (blk_new w 9 (L.map fun x=>Value.string (bs x)).toArray)]
    simp [hj]⟩⟩
theorem awake8_calls (w:World) (hg:Good w.heap.size w) (he:ErrG w.heap.size w):Calls Tryz.prog 7 #[] w fun e w'=>e=.returned (.bool true)∧Below w.heap.size w w':=by
 have HP:=Hd (parse_calls (bs awT) w hg he);(simp only [bs_data] at HP);have h1:=aw_err;have h2:=aw_vars;have h3:=aw_code;generalize parseQ awT=R at HP h1 h2 h3;obtain⟨q,E⟩:=R;dsimp only at h1 h2 h3;subst h1;obtain⟨c0,c1,c2,h4,h5,h6⟩:=three_ops h3;obtain⟨qa,qd,qV,qG,qg,qB,qO,ql,qo,qC⟩:=q;dsimp only at h2 h4;subst h2 h4;clear h3 hg he;(go_enter Tryz.func7,Tryz.ntmps7);(go_wp2_with fail);refine HP.out.mono ?_;rintro e w1 ⟨S,rfl,hqa,hb1⟩;have HB1:=Hd hb1;obtain⟨q1,_,_,_,q5⟩:=hqa;dsimp only at q1 q5;have HL:=Hd (qlay_blk w1 ⟨qa,qd,[[120],[121],[122]],qG,qg,qB,qO,ql,qo,[c0,c1,c2]⟩ S);have HLB:=Hd (qlay_below w1 ⟨qa,qd,[[120],[121],[122]],qG,qg,qB,qO,ql,qo,[c0,c1,c2]⟩ S);obtain⟨W9,hW9⟩:∃W9,W9=qlay w1 ⟨qa,qd,[[120],[121],[122]],qG,qg,qB,qO,ql,qo,[c0,c1,c2]⟩ S:=⟨_,rfl⟩;rw [←hW9] at HL HLB;obtain⟨va,vc,ga,gc,ba,bc,oa,oc,ca,cc⟩:=S;dsimp only at q1 q5;(simp only [qcs,List.length_cons,List.length_nil] at HL);have HV9:=Hd (q1.on HLB.out);have HC9:=Hd (q5.on HLB.out);have HB9:=Hd (HB1.out.trans (HLB.out.mono HB1.out.size));have m1:=q1.cap;have m2:=q1.most;have m3:=q5.cap;have m4:=q5.most;(unfold maxLen at m2 m4);(simp only [List.length_cons,List.length_nil,Nat.zero_add,Nat.reduceAdd] at m1 m3 HV9 HC9);have hl9:w1.heap.size<W9.heap.size:=blk_lt HL.out;(simp only [qlay,qcs,List.length_cons,List.length_nil,Nat.zero_add,Nat.reduceAdd] at hW9);clear hb1 q1 q5;(simp only [qv,List.length_cons,List.length_nil,Nat.zero_add,Nat.reduceAdd]);(go_upto_region 2 with fail);rw [←hW9];clear hW9;have d2:=bq HL.out 2;(have HS:=Hd (sameA_calls [[120],[121],[122]] [[120],[121],[122]] va (some ⟨W9.heap.size,0,none⟩) 3 3 vc 3 (W9.alloc (.cells #[.string (bs [120]),.string (bs [121]),.string (bs [122])] 9)) (HV9.out.on (box_below _ _)) (txt_new8 W9 [[120],[121],[122]] (by decide))));(rw [show decide ([[120],[121],[122]]=([[120],[121],[122]]:List (List UInt8)))=true from by decide] at HS);(go_wp2_with fail);refine HS.out.mono ?_;rintro e w4 ⟨rfl,hb4⟩;have HX4:=Hd (one_box hb4);have HB4:=Hd (HB9.out.trans (HX4.out.mono HB9.out.size));clear hb4 d2;have hbk:=blk_on HL.out HX4.out hl9;have d9:=bq hbk 9;(obtain⟨g,o,ha,hgw,hcells⟩:=(HC9.out.on HX4.out).cells (by decide));subst ha;(obtain⟨A,h7,hin⟩:=hcells 2 (show 2<3 by decide));obtain⟨k0,_,_,_,k4,_,_⟩:=h7;have hfn:=hin.f.len;have f1:=hin.f.cap;have f2:=hin.f.most;(simp only [List.getElem_cons_succ,List.getElem_cons_zero,Nat.reduceMul] at k0 k4 hfn);rw [h5] at k0;rw [h6] at hfn;rw [←hfn] at k4 f1;(simp only [Nat.add_assoc,Nat.reduceAdd] at k4);clear hcells hin hbk h5 h6 hfn;go_wp2;go_ret;exact⟨rfl,HB4.out⟩
end
end Go.Proofs.YtjpfoophipcglaaGreatDoor
