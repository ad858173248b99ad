/- Which tables are right, by the document's own answer. -/
import Derived.Test.YtjpfoophipcglaaGreatDoorKRefScopeSmall
import Derived.Deep.DeepCutAuto
namespace Go.Proofs.YtjpfoophipcglaaGreatDoor
set_option maxRecDepth 100000
set_option maxHeartbeats 8000000
section
open Go.RowKit
theorem drew_below {B:Nat} {a w:World} (h:Below B a w) (n:Nat):Below B a (w.drewN n):=⟨h.os,h.tape,h.output,h.size,h.block⟩
def TabIn (w:World) (vs rs:Value) (wr:World):Prop:=wr.cell? ⟨w.heap.size,0,none⟩=some vs∧wr.cell? ⟨w.heap.size,1,none⟩=some rs∧Below w.heap.size w wr∧w.heap.size<wr.heap.size
theorem TabIn.on {w wr wr':World} {vs rs:Value} (h:TabIn w vs rs wr) (hb:Below wr.heap.size wr wr'):TabIn w vs rs wr':=by
  obtain⟨h0,h1,h2,h3⟩:=h
  exact⟨kpB hb h3 h0,kpB hb h3 h1,h2.trans (hb.mono (Nat.le_of_lt h3)),Nat.lt_of_lt_of_le h3 hb.size⟩
theorem TabIn.drew {w wr:World} {vs rs:Value} (h:TabIn w vs rs wr) (n:Nat):TabIn w vs rs (wr.drewN n):=h.on (drew_below (Below.refl _ _) n)
theorem TabIn.new (w:World) (vs rs:Value) (T:TypeId):TabIn w vs rs (w.alloc (.cells #[vs,rs] T)):=by
  have hb:=blk_new w T #[vs,rs]
  exact⟨by rw [blk_cell hb];rfl,by rw [blk_cell hb];rfl,box_below _ _,by simp⟩
theorem tableB_long {V:List (List UInt8)} {R:List (List TermL)} (h:32<V.length∨64<R.length):tableB V R=false:=by
  unfold tableB
  rcases h with h|h
  · rw [decide_eq_false (show ¬V.length≤32 by omega)];simp
  · rw [decide_eq_false (show ¬R.length≤64 by omega)];simp
theorem tableB_names {V:List (List UInt8)} {R:List (List TermL)} (h:namesB [] V=false):tableB V R=false:=by unfold tableB;rw [h];simp
def rowZ (n:Nat) (r:List TermL):Bool:=decide (r.length=n)&&r.all valueZ
theorem rowsB_eq (n:Nat) (R:List (List TermL)):rowsB n R=R.all (rowZ n):=rfl
end
section
open Go.RowKit
structure OpS where
  ta:Option Addr
  tn:Nat
  tc:Nat
  va:Option Addr
  vn:Nat
  vc:Nat
  ra:Option Addr
  rn:Nat
  rc:Nat
  fa:Option Addr
  fn:Nat
  fc:Nat
def OpL.v (o:OpL) (A:OpS):Value:=.agg #[.int .i64 o.k,.slice A.ta A.tn A.tc,.slice A.va A.vn A.vc,.slice A.ra A.rn A.rc,.slice A.fa A.fn A.fc,.string (bs o.m),.bool o.s]
def OpS.cells (o:OpL) (A:OpS):List Value:=[.int .i64 o.k,.slice A.ta A.tn A.tc,.slice A.va A.vn A.vc,.slice A.ra A.rn A.rc,.slice A.fa A.fn A.fc,.string (bs o.m),.bool o.s]
theorem op_kinds (k:Int):(k<1∨9<k)∨k=1∨k=2∨k=3∨k=4∨k=5∨k=6∨k=7∨k=8∨k=9:=by omega
theorem needO_other {k:Int} (h:k<1∨9<k):needO k = -1:=by
  unfold needO
  rw [if_neg (by omega),if_neg (by omega),if_neg (by omega)]
theorem not_op {k:Int} (h:k<1∨9<k) (j:Int) (h1:1≤j) (h2:j≤9):(k==j)=false:=beq_eq_false_iff_ne.2 (by omega)
end
section
open Go.RowKit
structure OpIn (w:World) (o:OpL) (A:OpS):Prop where
  t:TrpA w A.ta A.tn A.tc o.T
  v:TxtA w A.va A.vn A.vc o.V
  r:RowA w A.ra A.rn A.rc o.R
  f:ArgP w A.fa A.fn A.fc o.F
theorem OpIn.on {w w':World} {o:OpL} {A:OpS} (h:OpIn w o A) (hb:Below w.heap.size w w'):OpIn w' o A:=⟨h.t.on hb,h.v.on hb,h.r.on hb,h.f.on hb⟩
structure OpOk (o:OpL):Prop where
  t:∀t∈o.T,t.ok
  v:∀x∈o.V,(bs x).size≤maxLen
  r:∀r∈o.R,∀t∈r,t.ok
  f:∀p∈o.F,p.ok
  m:(bs o.m).size≤maxLen
def Op7 (w:World) (g j:Nat) (o:OpL) (A:OpS):Prop :=
  w.cell? ⟨g,j,none⟩=some (.int .i64 o.k)∧w.cell? ⟨g,j+1,none⟩=some (.slice A.ta A.tn A.tc)∧w.cell? ⟨g,j+2,none⟩=some (.slice A.va A.vn A.vc)∧w.cell? ⟨g,j+3,none⟩=some (.slice A.ra A.rn A.rc) ∧
  w.cell? ⟨g,j+4,none⟩=some (.slice A.fa A.fn A.fc)∧w.cell? ⟨g,j+5,none⟩=some (.string (bs o.m))∧w.cell? ⟨g,j+6,none⟩=some (.bool o.s)
theorem Op7.on {w w':World} {g j B:Nat} {o:OpL} {A:OpS} (h:Op7 w g j o A) (hb:Below B w w') (hg:g<B):Op7 w' g j o A:=by
  obtain⟨c0,c1,c2,c3,c4,c5,c6⟩:=h
  exact⟨kpB hb hg c0,kpB hb hg c1,kpB hb hg c2,kpB hb hg c3,kpB hb hg c4,kpB hb hg c5,kpB hb hg c6⟩
def OpBox (w:World) (o:OpL) (A:OpS) (wr:World):Prop:=Op7 wr w.heap.size 0 o A∧Below w.heap.size w wr∧w.heap.size<wr.heap.size
theorem OpBox.on {w wr wr':World} {o:OpL} {A:OpS} (h:OpBox w o A wr) (hb:Below wr.heap.size wr wr'):OpBox w o A wr':=⟨h.1.on hb h.2.2,h.2.1.trans (hb.mono (Nat.le_of_lt h.2.2)),Nat.lt_of_lt_of_le h.2.2 hb.size⟩
theorem OpBox.new (w:World) (o:OpL) (A:OpS) (T:TypeId):OpBox w o A (w.alloc (.cells #[.int .i64 o.k,.slice A.ta A.tn A.tc,.slice A.va A.vn A.vc,.slice A.ra A.rn A.rc,.slice A.fa A.fn A.fc,.string (bs o.m),.bool o.s] T)):=by
  have hb:=blk_new w T #[.int .i64 o.k,.slice A.ta A.tn A.tc,.slice A.va A.vn A.vc,.slice A.ra A.rn A.rc,.slice A.fa A.fn A.fc,.string (bs o.m),.bool o.s]
  refine⟨⟨?_,?_,?_,?_,?_,?_,?_⟩,box_below _ _,by simp⟩
  all_goals rw [blk_cell hb];rfl
theorem empty_len {α:Type} {l:List α} {n:Nat} (h:l.length=n):((n:Int)==0)=l.isEmpty:=by
  cases l with
  | nil=>subst h;rfl
  | cons a b=>rw [List.isEmpty_cons];refine beq_eq_false_iff_ne.2 ?_;rw [←h,List.length_cons];omega
end
section
open Go.RowKit
structure OpsA (w:World) (a:Option Addr) (n c:Nat) (C:List OpL):Prop where
  len:C.length=n
  cap:n≤c
  most:c≤maxLen
  cells:0<n→∃g o,a=some ⟨g,o,none⟩∧g<w.heap.size∧∀j (h:j<C.length),∃A,Op7 w g (o+j*7) C[j] A∧OpIn w C[j] A
theorem OpsA.on {w w':World} {a:Option Addr} {n c:Nat} {C:List OpL} (h:OpsA w a n c C) (hb:Below w.heap.size w w'):OpsA w' a n c C:=by
  refine⟨h.len,h.cap,h.most,fun h0=>?_⟩
  obtain⟨g,o,ha,hg,hc⟩:=h.cells h0
  refine⟨g,o,ha,Nat.lt_of_lt_of_le hg hb.size,fun j hj=>?_⟩
  obtain⟨A,h1,h2⟩:=hc j hj
  exact⟨A,h1.on hb hg,h2.on hb⟩
end
end Go.Proofs.YtjpfoophipcglaaGreatDoor
