/- The world that every function on formulas finds: the two tables read as they are laid; which kind's mark a text is. -/
import Derived.Test.YtjpfoophipcglaaGreatDoorKFormPlains
import Derived.Test.YtjpfoophipcglaaGreatDoorKLexWordss
import Derived.BigQuiet
import Derived.Deep.QuietTactic
import Derived.RegionTactic
import Derived.Deep.RegionWith
import Derived.Deep.RegionLaw
import Derived.Deep.AppendLies
namespace Go.Proofs.YtjpfoophipcglaaGreatDoor
set_option maxRecDepth 100000
set_option maxHeartbeats 8000000
section
open Go.RowKit
structure Good (A:Nat) (w:World):Prop where
  mark:∀k,k<27→w.cell? ⟨7,k,none⟩=some (.string (bs (markN k)))
  lv0:∀k,k<5→w.cell? ⟨5,k*3,none⟩=some (.int .i64 (lev k).1)
  lv1:∀k,k<5→w.cell? ⟨5,k*3+1,none⟩=some (.int .i64 (lev k).2.1)
  lv2:∀k,k<5→w.cell? ⟨5,k*3+2,none⟩=some (.bool (lev k).2.2)
  mA:7<A
  lA:5<A
theorem Good.on {A:Nat} {w w':World} (h:Good A w) (hb:Below A w w'):Good A w' :=
  ⟨fun k hk=>by rw [hb.cell (p:=⟨7,k,none⟩) h.mA];exact h.mark k hk,
   fun k hk=>by rw [hb.cell (p:=⟨5,k*3,none⟩) h.lA];exact h.lv0 k hk,
   fun k hk=>by rw [hb.cell (p:=⟨5,k*3+1,none⟩) h.lA];exact h.lv1 k hk,
   fun k hk=>by rw [hb.cell (p:=⟨5,k*3+2,none⟩) h.lA];exact h.lv2 k hk,h.mA,h.lA⟩
theorem Good.up {A B:Nat} {w:World} (h:Good A w) (hAB:A≤B):Good B w:=⟨h.mark,h.lv0,h.lv1,h.lv2,Nat.lt_of_lt_of_le h.mA hAB,Nat.lt_of_lt_of_le h.lA hAB⟩
theorem bs_same {a b:List UInt8} (h:a=b):((bs a).toList==(bs b).toList)=true:=by rw [bs_toList,bs_toList];exact beq_iff_eq.2 h
theorem bs_other {a b:List UInt8} (h:¬a=b):((bs a).toList==(bs b).toList)=false:=by rw [bs_toList,bs_toList];exact beq_eq_false_iff_ne.2 h
theorem kindOf_calls (A:Nat) (x:List UInt8) (f t:Nat) (w:World) (hg:Good A w) (ht:t<27) (hf:f≤t+1):Calls Tryz.prog 290 #[.string (bs x),.int .i64 f,.int .i64 t] w fun e w'=>e=.returned (.int .i64 (kindM x f (t+1-f)))∧w'=w:=by
 have HG:=Hd hg;clear hg;(go_enter Tryz.func290,Tryz.ntmps290);go_wp2;go_loopg [7] (t+1-f) (fun g i wr=>∃k:Nat,i=.int .i64 k∧wr=w∧k+g=t+1∧Hid (kindM x f (t+1-f)=kindM x k g))
 case atStart=>exact⟨f,rfl,rfl,by omega,Hd rfl⟩
 case round =>
  obtain⟨k,rfl,rfl,hkg,HL⟩:=hrel;by_cases hk:k≤t
  ·(obtain⟨g,rfl⟩:∃g,gk=g+1:=⟨gk-1,by omega⟩);(have hc:=HG.out.mark k (by omega));(have hk':(k:Int)≤(t:Int):=by omega);(have hk27:k<27:=by omega);by_cases he:markN k=x
   ·(have HY:=Hd (show kindM x k (g+1)=k by unfold kindM;rw [if_pos he]));have hq:=bs_same he;have HQ:=Hd he;clear he;go_wp2;go_ret;exact⟨by rw [HL.out,HY.out];rfl,rfl⟩
   ·(have HN:=Hd (show kindM x k (g+1)=kindM x (k+1) g by rw [kindM,if_neg he]));have hq:=bs_other he;clear he;go_wp2;go_roundg g
    case measure=>omega
    case rel=>exact⟨k+1,by go_num,rfl,by omega,Hd (by rw [HL.out,HN.out])⟩
  ·(have hz:gk=0:=by omega);subst hz;(have hk':¬(k:Int)≤(t:Int):=by omega);go_wp2;go_ret;exact⟨by rw [HL.out];rfl,rfl⟩
end
section
open Go.RowKit
theorem info_part:(Tryz.prog.info? 157).map (fun i=>(i.zero,i.size,i.bytes))=some (some noPart.v,7,88):=by kernel_rfl
structure TokS (A:Nat) (v:Value) (L:List TokL) (w:World):Prop where
  row:∃g cap,v=.slice (some ⟨g,0,none⟩) L.length cap∧g<A∧L.length≤cap∧∀k (h:k<L.length),Cells7 w g k L[k]
theorem TokS.on {A:Nat} {v:Value} {L:List TokL} {w w':World} (h:TokS A v L w) (hb:Below A w w'):TokS A v L w':=by
  obtain⟨g,cap,hv,hg,hc,hk⟩:=h.row
  refine⟨g,cap,hv,hg,hc,fun k hkl=>?_⟩
  obtain⟨c0,c1,c2,c3,c4,c5,c6⟩:=hk k hkl
  exact⟨kpB hb hg c0,kpB hb hg c1,kpB hb hg c2,kpB hb hg c3,kpB hb hg c4,kpB hb hg c5,kpB hb hg c6⟩
structure Rd (A X:Nat) (v:Value) (L:List TokL) (a:Nat) (P:List PartL) (pv:Value) (w:World):Prop where
  blk:Blk w X 256 #[v,.int .i64 a,pv]
  row:w.ownsRow A 157 7 pv P.length (partCells P)
  low:A≤X
  toks:TokS A v L w
  good:Good A w
  most:P.length≤a∧a≤L.length
theorem Rd.on {A X:Nat} {v pv:Value} {L:List TokL} {a:Nat} {P:List PartL} {w w':World} (h:Rd A X v L a P pv w) (hb:Below w.heap.size w w'):Rd A X v L a P pv w':=by
  have hX:=blk_lt h.blk
  have hA:A≤w.heap.size:=Nat.le_of_lt (Nat.lt_of_le_of_lt h.low hX)
  exact⟨blk_on h.blk hb hX,rowOn h.row hb,h.low,h.toks.on (hb.mono hA),h.good.on (hb.mono hA),h.most⟩
theorem Rd.alloc {A X:Nat} {v pv:Value} {L:List TokL} {a:Nat} {P:List PartL} {w:World} (h:Rd A X v L a P pv w) (o:Obj):Rd A X v L a P pv (w.alloc o):=h.on (box_below w o)
theorem Rd.size {A X:Nat} {v pv:Value} {L:List TokL} {a:Nat} {P:List PartL} {w:World} (h:Rd A X v L a P pv w):A≤w.heap.size:=Nat.le_of_lt (Nat.lt_of_le_of_lt h.low (blk_lt h.blk))
theorem Rd.apart {A X:Nat} {v pv:Value} {L:List TokL} {a:Nat} {P:List PartL} {w:World} (h:Rd A X v L a P pv w):∀g,pv.ownBlock=some g→g≠X:=by
  rintro g hg rfl
  rcases h.row.2 with ⟨rfl,_⟩|⟨g',cap,cur,rfl,_,hh,_⟩
  · simp [Value.ownBlock] at hg
  · simp only [Value.ownBlock,Option.some.injEq] at hg
    subst hg
    have hb:=h.blk
    unfold Blk at hb
    rw [hh] at hb
    simp only [Option.some.injEq,Obj.cells.injEq] at hb
    exact absurd hb.2.1 (by decide)
theorem Rd.went {A X:Nat} {v pv:Value} {L:List TokL} {a:Nat} {P:List PartL} {w:World} (h:Rd A X v L a P pv w) (ha:a<L.length):Rd A X v L (a+1) P pv (w.setCell ⟨X,1,none⟩ (.int .i64 ((a:Int)+1))):=by
 have hbl:=blk_set h.blk 1 (.int .i64 ((a:Int)+1));have hX:=blk_lt h.blk;have hb:Below A w (w.setCell ⟨X,1,none⟩ (.int .i64 ((a:Int)+1))):=(Below.refl _ _).setCell h.low _;(refine⟨by simpa using hbl,?_,h.low,h.toks.on hb,h.good.on hb,⟨Nat.le_succ_of_le h.most.1,ha⟩⟩);refine⟨h.row.1,?_⟩;rcases h.row.2 with h0|⟨g,cap,cur,hv,hg,hh,r⟩
 ·exact .inl h0
 ·refine .inr ⟨g,cap,cur,hv,hg,?_,r⟩;(rw [heap_setCell_other w ⟨X,1,none⟩ g _ (fun e=>h.apart g (by rw [hv];rfl) (by simpa using e))]);exact hh
theorem Rd.cells {A X:Nat} {v pv:Value} {L:List TokL} {a:Nat} {P:List PartL} {w:World} (h:Rd A X v L a P pv w):w.cell? ⟨X,0,none⟩=some v∧w.cell? ⟨X,1,none⟩=some (.int .i64 a)∧w.cell? ⟨X,2,none⟩=some pv :=
  ⟨by rw [blk_cell h.blk];rfl,by rw [blk_cell h.blk];rfl,by rw [blk_cell h.blk];rfl⟩
structure Step (X:Nat) (pv pv':Value) (w w':World):Prop where
  block:∀k,k<w.heap.size→k≠X→pv.ownBlock≠some k→w'.heap[k]?=w.heap[k]?
  own:pv'.ownBlock=pv.ownBlock∨∀g,pv'.ownBlock=some g→w.heap.size≤g
  size:w.heap.size≤w'.heap.size
theorem Step.trans {X:Nat} {p p1 p2:Value} {w w1 w2:World} (h:Step X p p1 w w1) (h2:Step X p1 p2 w1 w2):Step X p p2 w w2:=by
  refine⟨fun k hk hX hp=>?_,?_,Nat.le_trans h.size h2.size⟩
  · rw [h2.block k (Nat.lt_of_lt_of_le hk h.size) hX ?_]
    · exact h.block k hk hX hp
    · rcases h.own with e|e
      · rw [e];exact hp
      · intro c
        have:=e k c
        omega
  · rcases h2.own with e2|e2
    · rcases h.own with e|e
      · exact .inl (e2.trans e)
      · exact .inr fun g hg=>e g (e2 ▸ hg)
    · exact .inr fun g hg=>Nat.le_trans h.size (e2 g hg)
theorem step_on {X:Nat} {pv:Value} {w w':World} (hb:Below w.heap.size w w'):Step X pv pv w w':=⟨fun k hk _ _=>hb.block k hk,.inl rfl,hb.size⟩
theorem step_set {X i:Nat} {pv u:Value} {w w':World} (hb:Below w.heap.size (w.setCell ⟨X,i,none⟩ u) w'):Step X pv pv w w':=by
  refine⟨fun k hk hX _=>?_,.inl rfl,by have:=hb.size;simpa using this⟩
  rw [hb.block k hk,heap_setCell_other w ⟨X,i,none⟩ k u (fun e=>hX (by simpa using e))]
def RdT (A X:Nat) (v:Value) (L:List TokL) (pv:Value) (q:StL) (w w':World):Prop:=∃pv',Rd A X v L q.1 q.2 pv' w'∧Below A w w'∧Step X pv pv' w w'
theorem rdt_trans {A X:Nat} {v p p1:Value} {L:List TokL} {q:StL} {w w1 w2:World} (hb:Below A w w1) (hs:Step X p p1 w w1) (h2:RdT A X v L p1 q w1 w2):RdT A X v L p q w w2:=by
  obtain⟨p2,hp,hb2,hs2⟩:=h2
  exact⟨p2,hp,hb.trans hb2,hs.trans hs2⟩
theorem step_blk {X Y:Nat} {p p1:Value} {w w1:World} {T:TypeId} {cs:Array Value} (hs:Step X p p1 w w1) (hY:Blk w Y T cs) (hX:Y≠X) (hp:p.ownBlock≠some Y):Blk w1 Y T cs:=by
  unfold Blk
  rw [hs.block Y (blk_lt hY) hX hp]
  exact hY
theorem below_draws (w:World) (n:Nat):Below w.heap.size w (w.drewN n):=⟨rfl,rfl,rfl,Nat.le_refl _,fun _ _=>rfl⟩
theorem below_drawn {B:Nat} {a w:World} (h:Below B a w) (n:Nat):Below B a (w.drewN n):=⟨h.os,h.tape,h.output,h.size,h.block⟩
theorem quiet_add_same {P:Program} {f:FuncId} {args:Array Value} {w:World} {a n:Nat} {v:Value} (h:Calls P f args (w.drewN (a+n)) fun e w'=>e=.returned v∧w'=w.drewN (a+n)):Calls P f args (w.drewN (a+n)) fun e w''=>e=.returned v∧∃m,w''=w.drewN (a+m) :=
  h.mono fun _ _ ⟨he,hm⟩=>⟨he,n,hm⟩
theorem rdt_on {A X:Nat} {v pv:Value} {L:List TokL} {a:Nat} {P:List PartL} {w w':World} (h:Rd A X v L a P pv w) (hb:Below w.heap.size w w'):RdT A X v L pv (a,P) w w':=⟨pv,h.on hb,hb.mono h.size,step_on hb⟩
theorem rdt_went {A X:Nat} {v pv:Value} {L:List TokL} {a:Nat} {P:List PartL} {w w':World} (h:Rd A X v L a P pv w) (ha:a<L.length) (hb:Below w.heap.size w w'):RdT A X v L pv (a+1,P) w (w'.setCell ⟨X,1,none⟩ (.int .i64 ((a:Int)+1))):=by
  refine⟨pv,(h.on hb).went ha,(hb.mono h.size).setCell h.low _,⟨fun k hk hX _=>?_,.inl rfl,by have:=hb.size;simpa using this⟩⟩
  rw [heap_setCell_other w' ⟨X,1,none⟩ k _ (fun e=>hX (by simpa using e))]
  exact hb.block k hk
theorem takeSign_calls (A X:Nat) (v pv:Value) (L:List TokL) (a:Nat) (P:List PartL) (f t:Nat) (w:World) (h:Rd A X v L a P pv w) (hL:L.length≤100000) (ht:t<27) (hf:f≤t+1) (K b:Nat) (hK:signK L a f t=K) (hb:(if K=0 then a else a+1)=b):Calls Tryz.prog 283 #[.pointer (some ⟨X,0,none⟩),.int .i64 f,.int .i64 t] w fun e w'=>e=.returned (.int .i64 K)∧RdT A X v L pv (b,P) w w':=by
 have H:=Hd h;obtain⟨c0,c1,c2⟩:=h.cells;obtain⟨g,cap,rfl,hg,hcap,hcell⟩:=h.toks.row;have hX:=blk_lt h.blk;(have fr:=fun i=>blk_free h.blk i);obtain⟨hPa,haL⟩:=h.most;have hsz:=h.size;obtain⟨N,hN⟩:∃N,L.length=N:=⟨_,rfl⟩;have HN:=Hd hN;rw [hN] at c0 hcap haL hL;by_cases ha:a=N
 ·subst ha;(obtain rfl:K=0:=by rw [←hK];unfold signK;rw [List.getElem?_eq_none (by have:=HN.out;omega)]);obtain rfl:a=b:=hb;(clear h hcell c2 fr hPa haL hf ht hN hK;try clear hb);(go_enter Tryz.func283,Tryz.ntmps283);go_wp2;(go_quiet (fail));go_wp2;go_ret;exact⟨rfl,rdt_on H.out (below_draws _ _)⟩
 ·(have hal:a<L.length:=by omega);(have ha':(a:Int)<(N:Int):=by omega);(have ha0:(0:Int)≤(a:Int):=by omega);(have g1:((a:Int)==(N:Int))=false:=beq_eq_false_iff_ne.2 (by omega));have HAL:=Hd hal;obtain⟨d0,d1,dr⟩:=hcell a hal;clear dr;have hs:K=if (L[a]).k=5 then kindM (L[a]).x f (t+1-f) else 0:=hK.symm.trans (signK_at hal);clear hK;generalize L[a]=y at d0 d1 hs;obtain⟨yk,yx,yt,ya⟩:=y;dsimp only at d0 d1 hs;have HG:=Hd h.good;by_cases h5:yk=5
  ·rw [if_pos h5] at hs;subst h5;have HK:Hid (∀W,Good A W→Calls Tryz.prog 290 #[.string (bs yx),.int .i64 f,.int .i64 t] W fun e w'=>e=.returned (.int .i64 K)∧w'=W):=Hd fun W hW=>by
    have:=kindOf_calls A yx f t W hW ht hf;rw [←hs] at this;exact this
   (have HGD:Hid (∀n,Good A (w.drewN n)):=Hd fun n=>HG.out.on ((below_draws w n).mono hsz));by_cases hz:K=0
   ·subst hz;obtain rfl:a=b:=hb;(clear h hcell fr hPa haL hf ht hN hs hal c2 ha;try clear hb);(go_enter Tryz.func283,Tryz.ntmps283);go_wp2;(go_quiet (fail));go_wp2;(go_quiet ((go_at_call 290;exact quiet_add_same (HK.out _ (HGD.out _)))));go_wp2;go_ret;exact⟨rfl,rdt_on H.out (by first|exact below_draws _ _|exact below_drawn (below_draws _ _) _)⟩
   ·(have gz:((K:Int)==0)=false:=beq_eq_false_iff_ne.2 (by omega));(obtain rfl:a+1=b:=by rw [←hb,if_neg hz]);(clear h hcell hPa haL hf ht hN hs hal hz ha;try clear hb);(go_enter Tryz.func283,Tryz.ntmps283);go_wp2;(go_quiet (fail));go_wp2;(go_quiet ((go_at_call 290;exact quiet_add_same (HK.out _ (HGD.out _)))));go_wp2;go_ret;refine⟨rfl,?_⟩;first
     | exact rdt_went H.out HAL.out (below_draws _ _)
     | exact rdt_went H.out HAL.out (below_drawn (below_draws _ _) _)
  ·rw [if_neg h5] at hs;subst hs;obtain rfl:a=b:=hb;have g5:(yk==5)=false:=beq_eq_false_iff_ne.2 h5;(clear h hcell c2 fr hPa haL hf ht hN hal h5 ha;try clear hb);(go_enter Tryz.func283,Tryz.ntmps283);go_wp2;(go_quiet (fail));go_wp2;go_ret;exact⟨rfl,rdt_on H.out (below_draws _ _)⟩
end
section
open Go.RowKit
theorem rd_added {A X:Nat} {v pv pv':Value} {L:List TokL} {a:Nat} {P:List PartL} {p:PartL} {w w3:World} (h:Rd A X v L a P pv w) (ha:P.length<a) (hr:w3.ownsRow A 157 7 pv' (P.length+1) (partCells P++p.cells)) (hg:w.grownBy w3 pv.ownBlock) (hne:∀g,pv'.ownBlock=some g→g≠X):Rd A X v L a (P++[p]) pv' (w3.setCell ⟨X,2,none⟩ pv')∧Below A w (w3.setCell ⟨X,2,none⟩ pv'):=by
 have hX:=blk_lt h.blk;have hlow:∀q,pv.ownBlock=some q→A≤q:=fun q hq=>by
  rcases h.row.2 with ⟨rfl,_⟩|⟨g',cap,cur,rfl,hA,hh,_⟩
  ·simp [Value.ownBlock] at hq
  ·simp only [Value.ownBlock,Option.some.injEq] at hq;omega
 have hb:Below A w w3:=(Below.refl A w).grown hg h.size hlow;have hblk:Blk w3 X 256 #[v,.int .i64 a,pv]:=by
  (unfold Blk);(rw [hg.block X hX (fun e=>h.apart X e.symm rfl)]);exact h.blk
 have hb2:Below A w (w3.setCell ⟨X,2,none⟩ pv'):=hb.setCell h.low _;(refine⟨⟨by simpa using blk_set hblk 2 pv',?_,h.low,h.toks.on hb2,h.good.on hb2,⟨by rw [List.length_append];exact ha,h.most.2⟩⟩,hb2⟩);rw [partCells_append,partCells_one,List.length_append];refine⟨hr.1,?_⟩;rcases hr.2 with h0|⟨g,cap,cur,hv,hg',hh,r⟩
 ·exact .inl h0
 ·refine .inr ⟨g,cap,cur,hv,hg',?_,r⟩;(rw [heap_setCell_other w3 ⟨X,2,none⟩ g _ (fun e=>hne g (by rw [hv];rfl) (by simpa using e))]);exact hh
theorem alloc_old (w:World) (o:Obj) {k:Nat} (hk:k<w.heap.size):(w.alloc o).heap[k]?=w.heap[k]?:=by
  have:=(box_below w o).block k hk
  exact this
theorem grown_two {w w3:World} {o1 o2:Obj} {row:Option Nat} (h:(((w.alloc o1).alloc o2).drew).grownBy w3 row):w.grownBy w3 row:=by
  refine⟨h.os,h.tape,h.output,?_,fun k hk hr=>?_⟩
  · have:=h.size
    have e:(((w.alloc o1).alloc o2).drew).heap.size=w.heap.size+1+1:=by simp
    omega
  · rw [h.block k (by simp;omega) hr]
    exact (alloc_old _ _ (by simp;omega)).trans (alloc_old _ _ hk)
theorem step_added {X N cap i g:Nat} {pv u:Value} {w w3:World} (hg:w.grownBy w3 pv.ownBlock) (hat:pv.ownBlock=some g∨w.heap.size≤g):Step X pv (.slice (some ⟨g,0,none⟩) N cap) w (w3.setCell ⟨X,i,none⟩ u):=by
  refine⟨fun k hk hX hp=>?_,?_,by have:=hg.size;simpa using this⟩
  · rw [heap_setCell_other w3 ⟨X,i,none⟩ k u (fun e=>hX (by simpa using e))]
    exact hg.block k hk (fun e=>hp e.symm)
  · rcases hat with e|e
    · exact .inl e.symm
    · exact .inr fun q hq=>by simp only [Value.ownBlock,Option.some.injEq] at hq;omega
theorem rd_blk3 {A X:Nat} {v pv:Value} {L:List TokL} {a:Nat} {P:List PartL} {w w3:World} (h:Rd A X v L a P pv w) (hg:w.grownBy w3 pv.ownBlock):Blk w3 X 256 #[v,.int .i64 a,pv]:=by
  unfold Blk
  rw [hg.block X (blk_lt h.blk) (fun e=>h.apart X e.symm rfl)]
  exact h.blk
theorem row_apart {A X n:Nat} {pv:Value} {xs:List Value} {cs:Array Value} {w:World} (hr:w.ownsRow A 157 7 pv n xs) (hb:Blk w X 256 cs):∀g,pv.ownBlock=some g→g≠X:=by
  rintro g hg rfl
  rcases hr.2 with ⟨rfl,_⟩|⟨g',cap,cur,rfl,_,hh,_⟩
  · simp [Value.ownBlock] at hg
  · simp only [Value.ownBlock,Option.some.injEq] at hg
    subst hg
    unfold Blk at hb
    rw [hh] at hb
    simp only [Option.some.injEq,Obj.cells.injEq] at hb
    exact absurd hb.2.1 (by decide)
theorem add_calls (A X:Nat) (v pv:Value) (L:List TokL) (a:Nat) (P:List PartL) (p:PartL) (w:World) (h:Rd A X v L a P pv w) (hL:L.length≤100000) (ha:P.length<a):Calls Tryz.prog 285 #[.pointer (some ⟨X,0,none⟩),p.v] w fun e w'=>e=.returned (.tuple #[])∧RdT A X v L pv (a,P++[p]) w w':=by
 have H:=Hd h;obtain⟨c0,c1,c2⟩:=h.cells;have hX:=blk_lt h.blk;(have fr:=fun i=>blk_free h.blk i);obtain⟨hPa,haL⟩:=h.most;have hsz:=h.size;obtain⟨i0,hi,hz0,hz1,hz2⟩:=info_parts info_part;have hrow:=h.row;obtain⟨v5,c5,rfl⟩:=row_slice hrow;have HA:=Hd ha;clear h;obtain⟨N,hN⟩:∃N,P.length=N:=⟨_,rfl⟩;have HN:=Hd hN;rw [hN] at hrow c2 ha hPa;clear hN;(have hN1:N≤100000:=by omega);(simp only [PartL.v]);(go_enter Tryz.func285,Tryz.ntmps285);go_wp2;(go_region_law (refine step_append_lies _ (by rfl) (.tmp 8) (.tmp 10) 55 (by rfl) A 157 i0 noPart.v 7 88 Tryz.underlying55 hi hz0 hz1 hz2 rfl (by decide) _ _ _ rfl ((hrow.alloc _).alloc _) ⟨w.heap.size+1,0,none⟩ 1 1 p.cells rfl rfl (news7 _ _ _ _ _ _ _ _ _ (by simp)) (by intro u hu;simp [PartL.cells] at hu;rcases hu with rfl|rfl|rfl|rfl|rfl|rfl|rfl<;>rfl) (by decide) (by unfold maxLen;omega) (by omega) (by simp;omega) (w.heap.size+1+1) (by simp) ?_;intro g cap w3 hown3 hgrow3 hat3 hlt3;rw [←HN.out] at hown3 hgrow3 hat3;have hg0:=grown_two hgrow3;have hb3:=rd_blk3 H.out hg0;have HF:=Hd (rd_added H.out HA.out hown3 hg0 (row_apart hown3 hb3));have HS:=Hd (step_added (X:=X) (N:=P.length+1) (cap:=cap) (i:=2) (u:=.slice (some ⟨g,0,none⟩) (P.length+1) cap) hg0 (hat3.imp id (fun e=>(by omega:w.heap.size≤g))));have q2:w3.cell? ⟨X,2,none⟩=some (.slice v5 P.length c5):=(by exact blk_cell hb3 2);have q3:=blk_free hb3 2;clear hgrow3 hat3 hlt3 hown3 hg0 hb3;rw [HN.out] at q2));(all_goals go_wp2);(all_goals refine bodyPost_end (v:=.tuple #[]) (by simp [results,Tryz.results285,go_sem]) rfl ?_);all_goals exact⟨rfl,_,by rw [←HN.out];exact HF.out.1,by rw [←HN.out];exact HF.out.2,by rw [←HN.out];exact HS.out⟩
end
section
open Go.RowKit
theorem below_both {B:Nat} {w w1:World} (h:Below B w w1) (a:Addr) (v:Value):Below B (w.setCell a v) (w1.setCell a v):=by
  refine⟨h.os,h.tape,h.output,?_,fun k hk=>?_⟩
  · have:=h.size
    simpa using this
  · unfold World.setCell
    simp only [Array.getElem?_modify]
    rw [h.block k hk]
theorem rdt_set {A X:Nat} {v pv:Value} {L:List TokL} {a:Nat} {P:List PartL} {w w':World} (h:Rd A X v L a P pv w) (ha:a<L.length) (hb:Below w.heap.size (w.setCell ⟨X,1,none⟩ (.int .i64 ((a:Int)+1))) w'):RdT A X v L pv (a+1,P) w w' :=
  ⟨pv,(h.went ha).on (by simpa using hb),((Below.refl A w).setCell h.low _).trans (hb.mono h.size),step_set hb⟩
theorem next_calls (A X:Nat) (v pv:Value) (L:List TokL) (a:Nat) (P:List PartL) (w:World) (h:Rd A X v L a P pv w) (hL:L.length≤100000) (ha:a<L.length):Calls Tryz.prog 291 #[.pointer (some ⟨X,0,none⟩)] w fun e w'=>e=.returned (L[a]).v∧RdT A X v L pv (a+1,P) w w':=by
 have H:=Hd h;obtain⟨c0,c1,c2⟩:=h.cells;obtain⟨g,cap,rfl,hg,hcap,hcell⟩:=h.toks.row;have hX:=blk_lt h.blk;(have fr:=fun i=>blk_free h.blk i);have hsz:=h.size;have hgw:g<w.heap.size:=Nat.lt_of_lt_of_le hg hsz;have HAL:=Hd ha;obtain⟨N,hN⟩:∃N,L.length=N:=⟨_,rfl⟩;have HN:=Hd hN;rw [hN] at c0 hcap hL;(have ha':(a:Int)<(N:Int):=by omega);(have ha0:(0:Int)≤(a:Int):=by omega);(have g1:((a:Int)==(N:Int))=false:=beq_eq_false_iff_ne.2 (by omega));obtain⟨d0,d1,d2,d3,d4,d5,d6⟩:=hcell a ha;clear hcell h;(have ha2:a<N:=by omega);generalize L[a]=y at d0 d1 d2 d3 d4 d5 d6;obtain⟨yk,yx,⟨uk,ux,uy,uz⟩,ya⟩:=y;(simp only [TokL.v]);dsimp only at d0 d1 d2 d3 d4 d5 d6;(have hgX:¬g=X:=fun e=>by have:=H.out.low;omega);(have hXg:¬X=g:=fun e=>hgX e.symm);clear ha c2 hN hg;(go_enter Tryz.func291,Tryz.ntmps291);go_wp2;(go_quiet (fail));go_wp2;(go_region);go_wp2;(refine bodyPost_ret (v:=.agg #[.int .i64 yk,.string (bs yx),.int .i64 uk,.string (bs ux),.string (bs uy),.string (bs uz),.int .i64 ya]) (by simp [results,Tryz.results291,go_sem]) rfl ⟨rfl,rdt_set H.out HAL.out ?_⟩);repeat (with_reducible (first|exact below_both (below_drawn (box_below _ _) _) _ _|refine Below.drew ?_|refine Below.setCell ?_ (by first|exact Nat.le_refl _|omega|(simp;omega)) _))
end
section
open Go.RowKit
theorem rd_new {A X:Nat} {v pv:Value} {L:List TokL} {a:Nat} {P:List PartL} {w:World} (h:Rd A X v L a P pv w) {k:Nat} (hk:w.heap.size≤k):k≠X∧pv.ownBlock≠some k :=
  ⟨fun e=>by have:=blk_lt h.blk;omega,fun e=>by have:=(h.row.lt k e).2;omega⟩
end
end Go.Proofs.YtjpfoophipcglaaGreatDoor
