/- The reader of a query's words: its block, the code so far; what changes; operations that stay as they are. -/
import Derived.Test.YtjpfoophipcglaaGreatDoorKQPlains
import Derived.Test.YtjpfoophipcglaaGreatDoorKRefScopes
import Derived.Test.YtjpfoophipcglaaGreatDoorKFullWords
namespace Go.Proofs.YtjpfoophipcglaaGreatDoor
set_option maxRecDepth 100000
set_option maxHeartbeats 8000000
section
open Go.RowKit
structure Ch (S S':Nat→Prop) (w w':World):Prop where
  os:w'.os=w.os
  tape:w'.tape=w.tape
  output:w'.output=w.output
  size:w.heap.size≤w'.heap.size
  block:∀k,k<w.heap.size→¬S k→w'.heap[k]?=w.heap[k]?
  own:∀k,S' k→S k∨w.heap.size≤k
theorem Ch.trans {S S1 S2:Nat→Prop} {w w1 w2:World} (h:Ch S S1 w w1) (h2:Ch S1 S2 w1 w2):Ch S S2 w w2:=by
  refine⟨h2.os.trans h.os,h2.tape.trans h.tape,h2.output.trans h.output,Nat.le_trans h.size h2.size,fun k hk hS=>?_,fun k hk=>?_⟩
  · rw [h2.block k (Nat.lt_of_lt_of_le hk h.size) (fun c=>(h.own k c).elim hS (fun d=>by omega))]
    exact h.block k hk hS
  · rcases h2.own k hk with e|e
    · exact h.own k e
    · exact .inr (Nat.le_trans h.size e)
theorem Ch.of_below {S:Nat→Prop} {w w':World} (hb:Below w.heap.size w w'):Ch S S w w':=⟨hb.os,hb.tape,hb.output,hb.size,fun k hk _=>hb.block k hk,fun _ h=>.inl h⟩
theorem Ch.refl (S:Nat→Prop) (w:World):Ch S S w w:=Ch.of_below (Below.refl _ _)
theorem Ch.below {S S':Nat→Prop} {A:Nat} {w w':World} (h:Ch S S' w w') (hA:A≤w.heap.size) (hS:∀k,S k→A≤k):Below A w w':=⟨h.os,h.tape,h.output,h.size,fun k hk=>h.block k (Nat.lt_of_lt_of_le hk hA) (fun c=>by have:=hS k c;omega)⟩
theorem Ch.cell {S S':Nat→Prop} {w w':World} (h:Ch S S' w w') {p:Addr} (hp:p.block<w.heap.size) (hS:¬S p.block):w'.cell? p=w.cell? p:=World.cell?_of_block (w:=w) (h.block p.block hp hS)
def Ag (S:Nat→Prop) (w w':World):Prop:=w.heap.size≤w'.heap.size∧∀k,k<w.heap.size→¬S k→w'.heap[k]?=w.heap[k]?
theorem Ag.refl (S:Nat→Prop) (w:World):Ag S w w:=⟨Nat.le_refl _,fun _ _ _=>rfl⟩
theorem Ch.ag {S S':Nat→Prop} {w w' w2:World} (h:Ch S S' w w') (h2:Ag S' w' w2):Ag S w w2:=⟨Nat.le_trans h.size h2.1,fun k hk hS=>by
  rw [h2.2 k (Nat.lt_of_lt_of_le hk h.size) (fun c=>(h.own k c).elim hS (fun d=>by omega))]
  exact h.block k hk hS⟩
def Held (S:Nat→Prop) (w:World) (Q:World→Prop):Prop:=∀w',Ag S w w'→Q w'
theorem Held.now {S:Nat→Prop} {w:World} {Q:World→Prop} (h:Held S w Q):Q w:=h w (Ag.refl S w)
theorem Held.on {S S':Nat→Prop} {w w':World} {Q:World→Prop} (h:Held S w Q) (hc:Ch S S' w w'):Held S' w' Q:=fun w2 h2=>h w2 (hc.ag h2)
theorem ag_row {S:Nat→Prop} {w w':World} {B size n:Nat} {e:TypeId} {v:Value} {xs:List Value} (h:w.ownsRow B e size v n xs) (ha:Ag S w w') (hS:∀g,v.ownBlock=some g→¬S g):w'.ownsRow B e size v n xs:=by
  refine⟨h.1,?_⟩
  rcases h.2 with h0|⟨g,cap,cur,hv,hg,hh,r⟩
  · exact .inl h0
  · exact .inr ⟨g,cap,cur,hv,hg,by rw [ha.2 g (Array.getElem?_eq_some_iff.1 hh).1 (hS g (by rw [hv];rfl))];exact hh,r⟩
theorem held_row {S:Nat→Prop} {w:World} {B size n:Nat} {e:TypeId} {v:Value} {xs:List Value} {Q:World→Prop} (h:w.ownsRow B e size v n xs) (hS:∀g,v.ownBlock=some g→¬S g) (hQ:∀w',w'.ownsRow B e size v n xs→Q w'):Held S w Q:=fun w' ha=>hQ w' (ag_row h ha hS)
theorem row_cell {w:World} {B size n g c:Nat} {e:TypeId} {xs:List Value} (h:w.ownsRow B e size (.slice (some ⟨g,0,none⟩) n c) n xs) {j:Nat} (hj:j<n*size):w.cell? ⟨g,0+j,none⟩=xs[j]?:=by
  rw [Nat.zero_add];exact h.cellAt j hj
theorem row_lens {w:World} {B size n c:Nat} {a:Option Addr} {e:TypeId} {xs:List Value} (h:w.ownsRow B e size (.slice a n c) n xs):n≤c∧c≤maxLen∧(0<n→∃g,a=some ⟨g,0,none⟩∧g<w.heap.size):=by
  rcases h.2 with ⟨h0,h1⟩|⟨g,cap,cur,hv,hg,hh,h1,h2,_⟩
  · cases h0
    exact⟨Nat.le_refl _,Nat.zero_le _,fun hc=>absurd hc (Nat.lt_irrefl _)⟩
  · cases hv
    exact⟨h1,h2,fun _=>⟨g,rfl,(Array.getElem?_eq_some_iff.1 hh).1⟩⟩
theorem flat_get {α:Type} {f:α→List Value} {k:Nat} (hf:∀x,(f x).length=k):∀(l:List α) (j i:Nat) (hj:j<l.length),i<k→(l.flatMap f)[j*k+i]?=(f l[j])[i]?
  | x::l,0,i,_,hi=>by
    rw [List.flatMap_cons,Nat.zero_mul,Nat.zero_add,List.getElem?_append_left (by rw [hf];exact hi)];rfl
  | x::l,j+1,i,hj,hi=>by
    have e:(j+1)*k+i=k+(j*k+i):=by rw [Nat.add_mul];omega
    rw [List.flatMap_cons,e,List.getElem?_append_right (by rw [hf];omega),hf,Nat.add_sub_cancel_left]
    exact flat_get hf l j i (by simpa using hj) hi
theorem flat_cell {α:Type} {f:α→List Value} {k:Nat} (hf:∀x,(f x).length=k) {w:World} {B n g c:Nat} {e:TypeId} {l:List α} (h:w.ownsRow B e k (.slice (some ⟨g,0,none⟩) n c) n (l.flatMap f)) (hl:l.length=n) {j i:Nat} (hj:j<l.length) (hi:i<k):w.cell? ⟨g,0+j*k+i,none⟩=(f l[j])[i]?:=by
  rw [Nat.zero_add,h.cellAt (j*k+i) (by have:(j+1)*k≤n*k:=Nat.mul_le_mul_right k (by omega);rw [Nat.add_mul] at this;omega)]
  exact flat_get hf l j i hj hi
theorem argP_row {w:World} {B n c:Nat} {a:Option Addr} {e:TypeId} {P:List PartL} (h:w.ownsRow B e 7 (.slice a n c) n (partCells P)) (hl:P.length=n):ArgP w a n c P:=by
  obtain⟨h1,h2,h3⟩:=row_lens h
  refine⟨hl,h1,h2,fun h0=>?_⟩
  obtain⟨g,rfl,hg⟩:=h3 h0
  refine⟨g,0,rfl,hg,fun j hj=>?_⟩
  have F:=fun i (hi:i<7)=>flat_cell (f:=PartL.cells) (fun _=>rfl) h hl hj hi
  exact⟨(F 0 (by decide)).trans rfl,(F 1 (by decide)).trans rfl,(F 2 (by decide)).trans rfl,(F 3 (by decide)).trans rfl,(F 4 (by decide)).trans rfl,(F 5 (by decide)).trans rfl,(F 6 (by decide)).trans rfl⟩
theorem txtA_row {w:World} {B n c:Nat} {a:Option Addr} {e:TypeId} {V:List (List UInt8)} (h:w.ownsRow B e 1 (.slice a n c) n (textCells V)) (hl:V.length=n):TxtA w a n c V:=by
  obtain⟨h1,h2,h3⟩:=row_lens h
  refine⟨hl,h1,h2,fun h0=>?_⟩
  obtain⟨g,rfl,hg⟩:=h3 h0
  refine⟨g,0,rfl,hg,fun j hj=>?_⟩
  rw [row_cell h (by omega)]
  unfold textCells
  rw [List.getElem?_map,List.getElem?_eq_getElem hj];rfl
def termCells (t:TermL):List Value:=[.int .i64 t.k,.string (bs t.x),.string (bs t.y),.string (bs t.z)]
def tripCells12 (t:TripL):List Value:=termCells t.s++(termCells t.p++termCells t.o)
theorem trmA_row {w:World} {B n c:Nat} {a:Option Addr} {e:TypeId} {R:List TermL} (h:w.ownsRow B e 4 (.slice a n c) n (R.flatMap termCells)) (hl:R.length=n):TrmA w a n c R:=by
  obtain⟨h1,h2,h3⟩:=row_lens h
  refine⟨hl,h1,h2,fun h0=>?_⟩
  obtain⟨g,rfl,hg⟩:=h3 h0
  refine⟨g,0,rfl,hg,fun j hj=>?_⟩
  have F:=fun i (hi:i<4)=>flat_cell (f:=termCells) (fun _=>rfl) h hl hj hi
  exact⟨(F 0 (by decide)).trans rfl,(F 1 (by decide)).trans rfl,(F 2 (by decide)).trans rfl,(F 3 (by decide)).trans rfl⟩
theorem trpA_row {w:World} {B n c:Nat} {a:Option Addr} {e:TypeId} {T:List TripL} (h:w.ownsRow B e 12 (.slice a n c) n (T.flatMap tripCells12)) (hl:T.length=n):TrpA w a n c T:=by
 obtain⟨h1,h2,h3⟩:=row_lens h;(refine⟨hl,h1,h2,fun h0=>?_⟩);obtain⟨g,rfl,hg⟩:=h3 h0;(refine⟨g,0,rfl,hg,fun j hj=>?_⟩);(have F:=fun i (hi:i<12)=>flat_cell (f:=tripCells12) (fun _=>rfl) h hl hj hi);exact⟨⟨(F 0 (by decide)).trans rfl,(F 1 (by decide)).trans rfl,(F 2 (by decide)).trans rfl,(F 3 (by decide)).trans rfl⟩,⟨(F 4 (by decide)).trans rfl,(F 5 (by decide)).trans rfl,(F 6 (by decide)).trans rfl,(F 7 (by decide)).trans rfl⟩,⟨(F 8 (by decide)).trans rfl,(F 9 (by decide)).trans rfl,(F 10 (by decide)).trans rfl,(F 11 (by decide)).trans rfl⟩⟩
structure QV where
  ask:Value
  dist:Value
  vv:Value
  av:Value
  gr:Value
  gv:Value
  ov:Value
  lim:Value
  off:Value
  P:Nat→Prop
def rdCells (v:Value) (a:Nat) (U:QV) (cv:Value):Array Value:=#[v,.int .i64 a,U.ask,U.dist,U.vv,U.av,U.gr,U.gv,U.ov,U.lim,U.off,cv]
def rdS (X:Nat) (cv:Value) (k:Nat):Prop:=k=X∨cv.ownBlock=some k
def hS (U:QV) (X:Nat) (cv:Value) (k:Nat):Prop:=rdS X cv k∨U.P k
theorem Held.onP {U:QV} {X:Nat} {cv cv':Value} {w w':World} {Q:World→Prop} (h:Held (hS U X cv) w Q) (hc:Ch (rdS X cv) (rdS X cv') w w'):Held (hS U X cv') w' Q:=fun w2 h2 =>
  h w2 ⟨Nat.le_trans hc.size h2.1,fun k hk hn=>by
    rw [h2.2 k (Nat.lt_of_lt_of_le hk hc.size) (fun c=>c.elim (fun c1=>(hc.own k c1).elim (fun d=>hn (.inl d)) (fun d=>by omega)) (fun c2=>hn (.inr c2)))]
    exact hc.block k hk (fun c=>hn (.inl c))⟩
def opCells (p:OpL×OpS):List Value:=OpS.cells p.1 p.2
def CodeR (A X:Nat) (U:QV) (cv:Value) (C:List OpL) (w:World):Prop :=
  ∃PC:List (OpL×OpS),PC.map Prod.fst=C∧w.ownsRow A 57 7 cv C.length (PC.flatMap opCells)∧∀p∈PC,Held (hS U X cv) w fun w'=>OpIn w' p.1 p.2
structure QRd (A X:Nat) (v:Value) (L:List TokL) (a:Nat) (U:QV) (C:List OpL) (cv:Value) (w:World):Prop where
  blk:Blk w X 44 (rdCells v a U cv)
  code:CodeR A X U cv C w
  low:A≤X
  toks:TokS A v L w
  good:Good A w
  le:a≤L.length
  pl:∀k,U.P k→k<w.heap.size
theorem code_low {A X:Nat} {U:QV} {cv:Value} {C:List OpL} {w:World} (h:CodeR A X U cv C w):∀g,cv.ownBlock=some g→A≤g∧g<w.heap.size:=by
  obtain⟨PC,_,hr,_⟩:=h
  exact hr.lt
theorem code_apart {A X:Nat} {U:QV} {cv:Value} {C:List OpL} {w:World} {cs:Array Value} (h:CodeR A X U cv C w) (hb:Blk w X 44 cs):∀g,cv.ownBlock=some g→g≠X:=by
  obtain⟨PC,_,hr,_⟩:=h
  rintro g hg rfl
  rcases hr.2 with ⟨rfl,_⟩|⟨g',cap,cur,rfl,_,hh,_⟩
  · simp [Value.ownBlock] at hg
  · simp only [Value.ownBlock,Option.some.injEq] at hg
    subst hg
    unfold Blk at hb
    rw [hh] at hb
    simp only [Option.some.injEq,Obj.cells.injEq] at hb
    exact absurd hb.2.1 (by decide)
theorem QRd.size {A X:Nat} {v:Value} {L:List TokL} {a:Nat} {U:QV} {C:List OpL} {cv:Value} {w:World} (h:QRd A X v L a U C cv w):A≤w.heap.size:=Nat.le_of_lt (Nat.lt_of_le_of_lt h.low (blk_lt h.blk))
theorem QRd.lows {A X:Nat} {v:Value} {L:List TokL} {a:Nat} {U:QV} {C:List OpL} {cv:Value} {w:World} (h:QRd A X v L a U C cv w):∀k,rdS X cv k→A≤k:=by
  rintro k (rfl|hk)
  · exact h.low
  · exact (code_low h.code k hk).1
theorem QRd.below {A X:Nat} {v:Value} {L:List TokL} {a:Nat} {U:QV} {C:List OpL} {cv:Value} {w w':World} {S:Nat→Prop} (h:QRd A X v L a U C cv w) (hc:Ch (rdS X cv) S w w'):Below A w w':=hc.below h.size h.lows
theorem QRd.on {A X:Nat} {v:Value} {L:List TokL} {a:Nat} {U:QV} {C:List OpL} {cv:Value} {w w':World} (h:QRd A X v L a U C cv w) (hb:Below w.heap.size w w'):QRd A X v L a U C cv w':=by
  have hX:=blk_lt h.blk
  refine⟨blk_on h.blk hb hX,?_,h.low,h.toks.on (hb.mono h.size),h.good.on (hb.mono h.size),h.le,fun k hk=>Nat.lt_of_lt_of_le (h.pl k hk) hb.size⟩
  obtain⟨PC,h1,h2,h3⟩:=h.code
  exact⟨PC,h1,rowOn h2 hb,fun p hp=>(h3 p hp).onP (Ch.of_below hb)⟩
theorem QRd.alloc {A X:Nat} {v:Value} {L:List TokL} {a:Nat} {U:QV} {C:List OpL} {cv:Value} {w:World} (h:QRd A X v L a U C cv w) (o:Obj):QRd A X v L a U C cv (w.alloc o):=h.on (box_below w o)
theorem QRd.cells {A X:Nat} {v:Value} {L:List TokL} {a:Nat} {U:QV} {C:List OpL} {cv:Value} {w:World} (h:QRd A X v L a U C cv w):w.cell? ⟨X,0,none⟩=some v∧w.cell? ⟨X,1,none⟩=some (.int .i64 a)∧w.cell? ⟨X,11,none⟩=some cv :=
  ⟨by rw [blk_cell h.blk];rfl,by rw [blk_cell h.blk];rfl,by rw [blk_cell h.blk];rfl⟩
theorem ch_setX {X i:Nat} {cv u:Value} {w:World}:Ch (rdS X cv) (rdS X cv) w (w.setCell ⟨X,i,none⟩ u) :=
  ⟨rfl,rfl,rfl,by simp,fun k _ hS=>heap_setCell_other w ⟨X,i,none⟩ k u (fun e=>hS (.inl (by simpa using e))),fun _ h=>.inl h⟩
theorem code_setX {A X i:Nat} {U:QV} {cv u:Value} {C:List OpL} {w:World} {cs:Array Value} (h:CodeR A X U cv C w) (hb:Blk w X 44 cs):CodeR A X U cv C (w.setCell ⟨X,i,none⟩ u):=by
  have hap:=code_apart h hb
  obtain⟨PC,h1,h2,h3⟩:=h
  refine⟨PC,h1,⟨h2.1,?_⟩,fun p hp=>(h3 p hp).onP ch_setX⟩
  rcases h2.2 with h0|⟨g,cap,cur,hv,hg,hh,r⟩
  · exact .inl h0
  · refine .inr ⟨g,cap,cur,hv,hg,?_,r⟩
    rw [heap_setCell_other w ⟨X,i,none⟩ g _ (fun e=>hap g (by rw [hv];rfl) (by simpa using e))]
    exact hh
theorem QRd.went {A X:Nat} {v:Value} {L:List TokL} {a:Nat} {U:QV} {C:List OpL} {cv:Value} {w:World} (h:QRd A X v L a U C cv w) {b:Nat} (hb:b≤L.length):QRd A X v L b U C cv (w.setCell ⟨X,1,none⟩ (.int .i64 (b:Int))):=by
  have hbl:=blk_set h.blk 1 (.int .i64 (b:Int))
  have hbe:Below A w (w.setCell ⟨X,1,none⟩ (.int .i64 (b:Int))):=(Below.refl _ _).setCell h.low _
  exact⟨by simpa [rdCells] using hbl,code_setX h.code h.blk,h.low,h.toks.on hbe,h.good.on hbe,hb,fun k hk=>by have:=h.pl k hk;simpa using this⟩
def QT (A X:Nat) (v:Value) (L:List TokL) (U:QV) (cv:Value) (a:Nat) (C:List OpL) (w w':World):Prop:=∃cv',QRd A X v L a U C cv' w'∧Ch (rdS X cv) (rdS X cv') w w'
theorem qt_trans {A X:Nat} {v:Value} {L:List TokL} {U:QV} {cv cv1:Value} {a:Nat} {C:List OpL} {w w1 w2:World} (hc:Ch (rdS X cv) (rdS X cv1) w w1) (h:QT A X v L U cv1 a C w1 w2):QT A X v L U cv a C w w2:=by
  obtain⟨cv2,h2,hc2⟩:=h
  exact⟨cv2,h2,hc.trans hc2⟩
theorem qt_on {A X:Nat} {v:Value} {L:List TokL} {a:Nat} {U:QV} {C:List OpL} {cv:Value} {w w':World} (h:QRd A X v L a U C cv w) (hb:Below w.heap.size w w'):QT A X v L U cv a C w w':=⟨cv,h.on hb,Ch.of_below hb⟩
structure WT (X:Nat) (v:Value) (L:List TokL) (U:QV) (cv:Value) (b:Nat) (w w':World):Prop where
  blk:Blk w' X 44 (rdCells v b U cv)
  ch:Ch (fun k=>k=X) (fun k=>k=X) w w'
  le:b≤L.length
theorem WT.chs {X:Nat} {v:Value} {L:List TokL} {U:QV} {cv:Value} {b:Nat} {w w':World} (h:WT X v L U cv b w w'):Ch (rdS X cv) (rdS X cv) w w' :=
  ⟨h.ch.os,h.ch.tape,h.ch.output,h.ch.size,fun k hk hS=>h.ch.block k hk (fun e=>hS (.inl e)),fun _ h=>.inl h⟩
theorem WT.qrd {A X:Nat} {v:Value} {L:List TokL} {a:Nat} {U:QV} {C:List OpL} {cv:Value} {b:Nat} {w w':World} (ht:WT X v L U cv b w w') (h:QRd A X v L a U C cv w):QRd A X v L b U C cv w':=by
 have hbe:=h.below ht.chs;(refine⟨ht.blk,?_,h.low,h.toks.on hbe,h.good.on hbe,ht.le,fun k hk=>Nat.lt_of_lt_of_le (h.pl k hk) ht.ch.size⟩);have hap:=code_apart h.code h.blk;obtain⟨PC,h1,h2,h3⟩:=h.code;(refine⟨PC,h1,⟨h2.1,?_⟩,fun p hp=>(h3 p hp).onP ht.chs⟩);rcases h2.2 with h0|⟨g,cap,cur,hv,hg,hh,r⟩
 ·exact .inl h0
 ·refine .inr ⟨g,cap,cur,hv,hg,?_,r⟩;(rw [ht.ch.block g (Array.getElem?_eq_some_iff.1 hh).1 (hap g (by rw [hv];rfl))]);exact hh
theorem WT.qt {A X:Nat} {v:Value} {L:List TokL} {a:Nat} {U:QV} {C:List OpL} {cv:Value} {b:Nat} {w w':World} (ht:WT X v L U cv b w w') (h:QRd A X v L a U C cv w):QT A X v L U cv b C w w':=⟨cv,ht.qrd h,ht.chs⟩
theorem wt_on {A X:Nat} {v:Value} {L:List TokL} {a:Nat} {U:QV} {C:List OpL} {cv:Value} {w w':World} (h:QRd A X v L a U C cv w) (hb:Below w.heap.size w w'):WT X v L U cv a w w':=⟨blk_on h.blk hb (blk_lt h.blk),Ch.of_below hb,h.le⟩
theorem ch_setY {X i:Nat} {u:Value} {w:World}:Ch (fun k=>k=X) (fun k=>k=X) w (w.setCell ⟨X,i,none⟩ u) :=
  ⟨rfl,rfl,rfl,by simp,fun k _ hS=>heap_setCell_other w ⟨X,i,none⟩ k u (fun e=>hS (by simpa using e)),fun _ h=>.inl h⟩
theorem wt_went {A X:Nat} {v:Value} {L:List TokL} {a:Nat} {U:QV} {C:List OpL} {cv:Value} {w w':World} (h:QRd A X v L a U C cv w) {b:Nat} (hl:b≤L.length) (hb:Below w.heap.size w w'):WT X v L U cv b w (w'.setCell ⟨X,1,none⟩ (.int .i64 (b:Int))) :=
  ⟨((h.on hb).went hl).blk,(Ch.of_below hb).trans ch_setY,hl⟩
theorem wt_set {A X:Nat} {v:Value} {L:List TokL} {a:Nat} {U:QV} {C:List OpL} {cv:Value} {w w':World} (h:QRd A X v L a U C cv w) {b:Nat} (hl:b≤L.length) (hb:Below w.heap.size (w.setCell ⟨X,1,none⟩ (.int .i64 (b:Int))) w'):WT X v L U cv b w w' :=
  ⟨((h.went hl).on (by simpa using hb)).blk,ch_setY.trans (Ch.of_below (by simpa using hb)),hl⟩
theorem WT.trans {X:Nat} {v:Value} {L:List TokL} {U:QV} {cv:Value} {b c:Nat} {w w1 w2:World} (h:WT X v L U cv b w w1) (h2:WT X v L U cv c w1 w2):WT X v L U cv c w w2:=⟨h2.blk,h.ch.trans h2.ch,h2.le⟩
theorem WT.upto {X B:Nat} {v:Value} {L:List TokL} {U:QV} {cv:Value} {b:Nat} {w w1 w2:World} (h:WT X v L U cv b w w1) (hX:X<w.heap.size) (hB:w.heap.size≤B) (hb:Below B w1 w2):WT X v L U cv b w w2 :=
  ⟨blk_on h.blk hb (Nat.lt_of_lt_of_le hX hB),⟨hb.os.trans h.ch.os,hb.tape.trans h.ch.tape,hb.output.trans h.ch.output,Nat.le_trans h.ch.size hb.size,fun k hk hS=>(hb.block k (Nat.lt_of_lt_of_le hk hB)).trans (h.ch.block k hk hS),h.ch.own⟩,h.le⟩
theorem WT.sameAt {X Y:Nat} {v:Value} {L:List TokL} {U:QV} {cv:Value} {b:Nat} {w w1:World} {T:TypeId} {cs:Array Value} (h:WT X v L U cv b w w1) (hY:Blk w Y T cs) (hX:Y≠X):Blk w1 Y T cs:=by
  unfold Blk
  rw [h.ch.block Y (blk_lt hY) hX]
  exact hY
theorem ch_blk {S S':Nat→Prop} {Y:Nat} {w w':World} {T:TypeId} {cs:Array Value} (h:Ch S S' w w') (hY:Blk w Y T cs) (hS:¬S Y):Blk w' Y T cs:=by
  unfold Blk
  rw [h.block Y (blk_lt hY) hS]
  exact hY
theorem new_notS {A X:Nat} {v:Value} {L:List TokL} {a:Nat} {U:QV} {C:List OpL} {cv:Value} {w:World} (h:QRd A X v L a U C cv w) {Y:Nat} (hY:w.heap.size≤Y):¬rdS X cv Y:=by
  rintro (rfl|hk)
  · have:=blk_lt h.blk;omega
  · have:=(code_low h.code Y hk).2;omega
theorem new_not {A X:Nat} {v:Value} {L:List TokL} {a:Nat} {U:QV} {C:List OpL} {cv:Value} {w:World} (h:QRd A X v L a U C cv w) {Y:Nat} (hY:w.heap.size≤Y):¬hS U X cv Y:=by
  rintro (hk|hk)
  · exact new_notS h hY hk
  · have:=h.pl Y hk;omega
theorem not_on {S S':Nat→Prop} {w w':World} (h:Ch S S' w w') {Y:Nat} (hY:Y<w.heap.size) (hS:¬S Y):¬S' Y:=fun c=>(h.own Y c).elim hS (fun d=>by omega)
end
section
open Go.RowKit
theorem isW_at {L:List TokL} {a:Nat} {k:Int} {s:List UInt8} (h:a<L.length):isW L a k s=(decide ((L[a]).k=k)&&decide ((L[a]).x=s)):=by
  unfold isW tokAt
  rw [decide_eq_true h,List.getElem?_eq_getElem h];rfl
theorem isW_end {L:List TokL} {a:Nat} {k:Int} {s:List UInt8} (h:L.length≤a):isW L a k s=false:=by
  unfold isW
  rw [decide_eq_false (by omega)];rfl
theorem tokAt_at {L:List TokL} {a:Nat} (h:a<L.length):tokAt L a=L[a]:=by unfold tokAt;rw [List.getElem?_eq_getElem h]
theorem tokAt_end {L:List TokL} {a:Nat} (h:L.length≤a):tokAt L a=noTok:=by unfold tokAt;rw [List.getElem?_eq_none h]
theorem qis_calls {A X:Nat} {v cv:Value} {L:List TokL} {a:Nat} {U:QV} {C:List OpL} {w:World} (h:QRd A X v L a U C cv w) (hL:L.length≤100000) (k:Int) (s:List UInt8) (K:Bool) (hK:isW L a k s=K):Calls Tryz.prog 114 #[.pointer (some ⟨X,0,none⟩),.int .i64 k,.string (bs s)] w fun e w'=>e=.returned (.bool K)∧∃n,w'=w.drewN n:=by
 obtain⟨c0,c1,c2⟩:=h.cells;obtain⟨g,cap,rfl,hg,hcap,hcell⟩:=h.toks.row;have haL:=h.le;obtain⟨N,hN⟩:∃N,L.length=N:=⟨_,rfl⟩;rw [hN] at c0 hcap haL hL;by_cases ha:a=N
 ·subst ha;(obtain rfl:false=K:=by rw [←hK];exact (isW_end (by omega)).symm);clear h hcell c2 haL hN hK;(go_enter Tryz.func114,Tryz.ntmps114);go_wp2;(go_quiet (fail));go_wp2;go_ret;exact⟨rfl,_,rfl⟩
 ·(have hal:a<L.length:=by omega);(have ha':(a:Int)<(N:Int):=by omega);(have ha0:(0:Int)≤(a:Int):=by omega);(have g1:decide ((a:Int)<(N:Int))=true:=decide_eq_true (by omega));obtain⟨d0,d1,dr⟩:=hcell a hal;clear dr;have hs:=hK.symm.trans (isW_at hal);clear hK;generalize L[a]=y at d0 d1 hs;obtain⟨yk,yx,yt,ya⟩:=y;dsimp only at d0 d1 hs;by_cases h5:yk=k
  ·subst h5;rw [decide_eq_true rfl,Bool.true_and] at hs;by_cases hz:yx=s
   ·rw [decide_eq_true hz] at hs;subst hs;have ge:=bs_same hz;clear h hcell haL hN hal ha hz c2;(go_enter Tryz.func114,Tryz.ntmps114);go_wp2;(go_quiet (fail));go_wp2;go_ret;exact⟨rfl,_,rfl⟩
   ·rw [decide_eq_false hz] at hs;subst hs;have ge:=bs_other hz;clear h hcell haL hN hal c2 ha hz;(go_enter Tryz.func114,Tryz.ntmps114);go_wp2;(go_quiet (fail));go_wp2;go_ret;exact⟨rfl,_,rfl⟩
  ·rw [decide_eq_false h5,Bool.false_and] at hs;subst hs;have g5:(yk==k)=false:=beq_eq_false_iff_ne.2 h5;clear h hcell c2 haL hN hal h5 ha;(go_enter Tryz.func114,Tryz.ntmps114);go_wp2;(go_quiet (fail));go_wp2;go_ret;exact⟨rfl,_,rfl⟩
theorem wtake_calls {A X:Nat} {v cv:Value} {L:List TokL} {a:Nat} {U:QV} {C:List OpL} {w:World} (h:QRd A X v L a U C cv w) (hL:L.length≤100000) (k:Int) (s:List UInt8) (K:Bool) (hK:isW L a k s=K) (b:Nat) (hb:stepA K a=b):Calls Tryz.prog 76 #[.pointer (some ⟨X,0,none⟩),.int .i64 k,.string (bs s)] w fun e w'=>e=.returned (.bool K)∧WT X v L U cv b w w':=by
 have H:=Hd h;have HI:=Hd (qis_calls h hL k s K hK);obtain⟨c0,c1,c2⟩:=h.cells;(have fr:=fun i=>blk_free h.blk i);have haL:=h.le;cases K with
 | false =>
   obtain rfl:a=b:=hb;clear h fr c0 c2 hK;(go_enter Tryz.func76,Tryz.ntmps76);(go_wp2_with fail);refine HI.out.mono ?_;rintro e w1 ⟨rfl,n,rfl⟩;go_wp2;go_ret;exact⟨rfl,wt_on H.out (below_draws _ _)⟩
 | true =>
   obtain rfl:a+1=b:=hb;have hal:=isW_lt hK;have HAL:=Hd hal;(have a5:a≤100000:=by omega);have X1:=Hd h.low;clear h c0 c2 hK hal haL;(go_enter Tryz.func76,Tryz.ntmps76);(go_wp2_with fail);refine HI.out.mono ?_;rintro e w1 ⟨rfl,n,rfl⟩;go_wp2;go_ret;exact⟨rfl,wt_went H.out HAL.out (below_draws _ _)⟩
theorem wword_calls {A X:Nat} {v cv:Value} {L:List TokL} {a:Nat} {U:QV} {C:List OpL} {w:World} (h:QRd A X v L a U C cv w) (hL:L.length≤100000) (s:List UInt8) (K:Bool) (hK:isW L a 1 s=K) (b:Nat) (hb:stepA K a=b):Calls Tryz.prog 31 #[.pointer (some ⟨X,0,none⟩),.string (bs s)] w fun e w'=>e=.returned (.bool K)∧WT X v L U cv b w w':=by
 have HT:=Hd (wtake_calls h hL 1 s K hK b hb);clear h hK;(go_enter Tryz.func31,Tryz.ntmps31);(go_wp2_with fail);refine HT.out.mono ?_;rintro e w1 ⟨rfl,h1⟩;have H1:=Hd h1;clear h1;go_wp2;go_ret;exact⟨rfl,H1.out⟩
theorem wsign_calls {A X:Nat} {v cv:Value} {L:List TokL} {a:Nat} {U:QV} {C:List OpL} {w:World} (h:QRd A X v L a U C cv w) (hL:L.length≤100000) (s:List UInt8) (K:Bool) (hK:isW L a 5 s=K) (b:Nat) (hb:stepA K a=b):Calls Tryz.prog 79 #[.pointer (some ⟨X,0,none⟩),.string (bs s)] w fun e w'=>e=.returned (.bool K)∧WT X v L U cv b w w':=by
 have HT:=Hd (wtake_calls h hL 5 s K hK b hb);clear h hK;(go_enter Tryz.func79,Tryz.ntmps79);(go_wp2_with fail);refine HT.out.mono ?_;rintro e w1 ⟨rfl,h1⟩;have H1:=Hd h1;clear h1;go_wp2;go_ret;exact⟨rfl,H1.out⟩
end
section
open Go.RowKit
theorem qahead_calls {A X:Nat} {v cv:Value} {L:List TokL} {a:Nat} {U:QV} {C:List OpL} {w:World} (h:QRd A X v L a U C cv w) (hL:L.length≤100000):Calls Tryz.prog 81 #[.pointer (some ⟨X,0,none⟩)] w fun e w'=>e=.returned (tokAt L a).v∧Below w.heap.size w w':=by
 have H:=Hd h;obtain⟨c0,c1,c2⟩:=h.cells;obtain⟨g,cap,rfl,hg,hcap,hcell⟩:=h.toks.row;have hX:=blk_lt h.blk;have haL:=h.le;have hsz:=h.size;have hgw:g<w.heap.size:=Nat.lt_of_lt_of_le hg hsz;obtain⟨N,hN⟩:∃N,L.length=N:=⟨_,rfl⟩;rw [hN] at c0 hcap haL hL;by_cases ha:a=N
 ·subst ha;(have g1:((a:Int)==(a:Int))=true:=by simp);(rw [tokAt_end (by omega)]);clear h hcell c2 haL hN;(go_enter Tryz.func81,Tryz.ntmps81);go_wp2;(go_quiet (fail));go_wp2;(refine bodyPost_ret (v:=.agg #[.int .i64 0,.string ⟨#[]⟩,.int .i64 0,.string ⟨#[]⟩,.string ⟨#[]⟩,.string ⟨#[]⟩,.int .i64 0]) (by simp [results,Tryz.results81,go_sem]) rfl ⟨rfl,?_⟩);repeat (with_reducible (first|exact below_drawn (box_below _ _) _|exact box_below _ _|refine Below.drew ?_|refine Below.setCell ?_ (by first|exact Nat.le_refl _|omega|(simp;omega)) _))
 ·(have hal:a<L.length:=by omega);rw [tokAt_at hal];(have ha':(a:Int)<(N:Int):=by omega);(have ha0:(0:Int)≤(a:Int):=by omega);(have g1:((a:Int)==(N:Int))=false:=beq_eq_false_iff_ne.2 (by omega));obtain⟨d0,d1,d2,d3,d4,d5,d6⟩:=hcell a hal;generalize L[a]=y at d0 d1 d2 d3 d4 d5 d6;obtain⟨yk,yx,⟨uk,ux,uy,uz⟩,ya⟩:=y;(simp only [TokL.v]);dsimp only at d0 d1 d2 d3 d4 d5 d6;clear h hcell c2 haL hN ha hal;(go_enter Tryz.func81,Tryz.ntmps81);go_wp2;(go_quiet (fail));go_wp2;(go_region);go_wp2;(refine bodyPost_ret (v:=.agg #[.int .i64 yk,.string (bs yx),.int .i64 uk,.string (bs ux),.string (bs uy),.string (bs uz),.int .i64 ya]) (by simp [results,Tryz.results81,go_sem]) rfl ⟨rfl,?_⟩);repeat (with_reducible (first|exact below_drawn (box_below _ _) _|exact box_below _ _|refine Below.drew ?_|refine Below.setCell ?_ (by first|exact Nat.le_refl _|omega|(simp;omega)) _))
theorem wnext_calls {A X:Nat} {v cv:Value} {L:List TokL} {a:Nat} {U:QV} {C:List OpL} {w:World} (h:QRd A X v L a U C cv w) (hL:L.length≤100000):Calls Tryz.prog 123 #[.pointer (some ⟨X,0,none⟩)] w fun e w'=>e=.returned (tokAt L a).v∧WT X v L U cv (nextA L a) w w':=by
 have H:=Hd h;(have HA:=Hd (fun W (hW:QRd A X v L a U C cv W)=>qahead_calls hW hL));have hX:=blk_lt h.blk;have hle:=h.le;have HB:=Hd h.blk;obtain⟨c0,c1,c2⟩:=h.cells;obtain⟨g,cap,rfl,hg,hcap,hcell⟩:=h.toks.row;obtain⟨N,hN⟩:∃N,L.length=N:=⟨_,rfl⟩;have HN:=Hd hN;obtain⟨M,hM⟩:∃M,nextA L a=M:=⟨_,rfl⟩;have HM:=Hd hM;(have gm:min ((a:Int)+1) (N:Int)=(M:Int):=by rw [←hM,←hN];unfold nextA;omega);(have hM5:M≤100000:=by rw [←hM];have:=nextA_le L a;omega);rw [hM];rw [hN] at c0 hcap hL hle;generalize tokAt L a=y at HA ⊢;obtain⟨yk,yx,⟨uk,ux,uy,uz⟩,ya⟩:=y;(simp only [TokL.v] at HA ⊢);clear h hcell hM hg hN c0 c1 c2;(go_enter Tryz.func123,Tryz.ntmps123);(go_wp2_with fail);refine (HA.out _ (H.out.alloc _)).mono ?_;rintro e w1 ⟨rfl,hb1⟩;(have HB1:=Hd ((box_below w _).trans (hb1.mono (by simp))));have hbl:=blk_on HB.out HB1.out hX;have HX1:=Hd hbl;(have c0:w1.cell? ⟨X,0,none⟩=some (.slice (some ⟨g,0,none⟩) N cap):=by rw [blk_cell hbl,←HN.out];rfl);have c1:=bq hbl 1 (v:=.int .i64 a);(have fr:=fun i=>blk_free hbl i);have hs1:=hb1.size;(have hz1:w.heap.size<w1.heap.size:=by simp at hs1;omega);(have hX1:X<w1.heap.size:=by omega);(have hXz:¬X=w.heap.size:=by omega);(have hXz':¬w.heap.size=X:=by omega);(have hXz3:¬w1.heap.size=X:=by omega);(have hz3:¬w1.heap.size=w.heap.size:=by omega);(have hXz2:¬X=w1.heap.size:=by omega);(have hz2:¬w.heap.size=w1.heap.size:=by omega);have frz:∀i,w1.frozen? ⟨w.heap.size,i,none⟩=false:=fun i=>by
  (rw [show w1.frozen? ⟨w.heap.size,i,none⟩=_ from hb1.frozen (p:=⟨w.heap.size,i,none⟩) (by simp)]);simp [go_sem]
 (have hcz:∀i,w1.cell? ⟨w.heap.size,i,none⟩=_:=fun i=>hb1.cell (p:=⟨w.heap.size,i,none⟩) (by simp));have hcy0:=hcz 0;have hcy1:=hcz 1;have hcy2:=hcz 2;have hcy3:=hcz 3;have hcy4:=hcz 4;have hcy5:=hcz 5;have hcy6:=hcz 6;(simp [go_sem] at hcy0 hcy1 hcy2 hcy3 hcy4 hcy5 hcy6);clear hb1 hbl hs1 hcz;go_wp2;(go_region);go_wp2;(refine bodyPost_ret (v:=.agg #[.int .i64 yk,.string (bs yx),.int .i64 uk,.string (bs ux),.string (bs uy),.string (bs uz),.int .i64 ya]) (by simp [results,Tryz.results123,go_sem,hcy0,hcy1,hcy2,hcy3,hcy4,hcy5,hcy6,hz1]) rfl ⟨rfl,wt_set (b:=M) H.out (by rw [←HM.out];exact nextA_le _ _) ?_⟩);repeat (with_reducible (first|exact HB1.out|refine Below.drew ?_|refine Below.setCell ?_ (by first|exact Nat.le_refl _|omega|(simp;omega)) _|refine Below.alloc ?_ (by first|omega|(simp;omega)) _|refine below_both ?_ _ _))
theorem wvar_calls {A X:Nat} {v cv:Value} {L:List TokL} {a:Nat} {U:QV} {C:List OpL} {w:World} (h:QRd A X v L a U C cv w) (hL:L.length≤100000) (hx:TokOk (tokAt L a)):Calls Tryz.prog 82 #[.pointer (some ⟨X,0,none⟩)] w fun e w'=>e=.returned (.tuple #[.string (bs (tokAt L a).x),.bool (isVar (tokAt L a))])∧WT X v L U cv (nextA L a) w w':=by
 have HN:=Hd (wnext_calls h hL);(have HI:=Hd (fun W=>IsName_calls (bs (tokAt L a).x) W hx.1));generalize tokAt L a=y at HN HI ⊢;obtain⟨yk,yx,⟨uk,ux,uy,uz⟩,ya⟩:=y;(simp only [TokL.v] at HN);dsimp only at HI;(unfold isVar);dsimp only;obtain⟨K,hK⟩:∃K,nameL yx=K:=⟨_,rfl⟩;(rw [show (bs yx).data.toList=yx from by simp [bs]] at HI);rw [hK] at HI ⊢;have hX:=blk_lt h.blk;clear h hx hK;by_cases h2:yk=2
 ·subst h2;rw [decide_eq_true rfl,Bool.true_and];(go_enter Tryz.func82,Tryz.ntmps82);(go_wp2_with fail);refine HN.out.mono ?_;rintro e w1 ⟨rfl,h1⟩;have H1:=Hd h1;clear h1;go_wp2;refine wp_region_held_drew (S:=(fun WW=>WW.cell? ⟨w1.heap.size,0,none⟩=some (.int .i64 2)∧WW.cell? ⟨w1.heap.size,1,none⟩=some (.string (bs yx)))) (by kernel_rfl) ?_ (fun hHeld=>?_)
  ·(try dsimp only);exact⟨by simp [go_sem],by simp [go_sem]⟩
  refine tkA 0 7 ?_;refine tkA 1 8 ?_;refine tkA 2 9 ?_;refine tkA 3 10 ?_;refine tkA 4 11 ?_;refine tkA 5 12 ?_;refine tkA 6 13 ?_;refine tkA 7 14 ?_;(refine rdA 8 fun K hK=>?_);go_simp;refine (HI.out _).mono ?_;rintro e1 w2 ⟨rfl,hb2⟩;(have hc0:=(hb2.cell (p:=⟨w1.heap.size,0,none⟩) (by simp)).trans (by simp [go_sem]:_=some (.int .i64 2)));(have hc1:=(hb2.cell (p:=⟨w1.heap.size,1,none⟩) (by simp)).trans (by simp [go_sem]:_=some (.string (bs yx))));(have HB2:=Hd (show Below w1.heap.size w1 w2 from Below.trans (by repeat (with_reducible (first|exact Below.refl _ _|exact box_below _ _|refine Below.drew ?_|refine Below.setCell ?_ (by first|exact Nat.le_refl _|omega|(simp;omega)) _|refine Below.alloc ?_ (by first|exact Nat.le_refl _|omega|(simp;omega)) _))) (hb2.mono (by simp))));clear hb2;(go_wp2_with fail);refine hK.out _ _ ?_ (fun hHeld=>?_)
  ·(try dsimp only);exact⟨hc0,hc1⟩
  clear hK K;(try simp only [Act.put,sb,sz,ss]);refine tkA 9 16 ?_;refine tkA 10 2 ?_;refine tkA 11 3 ?_;refine dnA ?_;go_wp2;(refine bodyPost_ret (v:=.tuple #[.string (bs yx),.bool K]) (by simp [results,Tryz.results82,go_sem]) rfl ?_);exact⟨rfl,H1.out.upto hX H1.out.ch.size HB2.out⟩
 ·rw [decide_eq_false h2,Bool.false_and];have g2:(yk==2)=false:=beq_eq_false_iff_ne.2 h2;(go_enter Tryz.func82,Tryz.ntmps82);(go_wp2_with fail);refine HN.out.mono ?_;rintro e w1 ⟨rfl,h1⟩;have H1:=Hd h1;clear h1;go_wp2;(go_quiet (fail));go_wp2;(refine bodyPost_ret (v:=.tuple #[.string (bs yx),.bool false]) (by simp [results,Tryz.results82,go_sem]) rfl ?_);refine⟨rfl,H1.out.upto hX H1.out.ch.size ?_⟩;exact below_drawn (box_below _ _) _
theorem wdig_calls {A X:Nat} {v cv:Value} {L:List TokL} {a:Nat} {U:QV} {C:List OpL} {w:World} (h:QRd A X v L a U C cv w) (hL:L.length≤100000) (hx:TokOk (tokAt L a)):Calls Tryz.prog 85 #[.pointer (some ⟨X,0,none⟩)] w fun e w'=>e=.returned (.tuple #[.string (bs (tokAt L a).x),.bool (isDig (tokAt L a))])∧WT X v L U cv (nextA L a) w w':=by
 have HN:=Hd (wnext_calls h hL);have hs:=hx.1;generalize tokAt L a=y at HN hs ⊢;obtain⟨yk,yx,⟨uk,ux,uy,uz⟩,ya⟩:=y;(simp only [TokL.v] at HN);dsimp only at hs;(unfold isDig);dsimp only;have hsz:(bs yx).size=yx.length:=bs_size _;(obtain⟨K,hK⟩:∃K,(decide (yk=4)&&(decide (1≤yx.length)&&decide (yx.length≤9)))=K:=⟨_,rfl⟩);rw [hK];(unfold maxLen at hs);obtain⟨n,hn⟩:∃n,yx.length=n:=⟨_,rfl⟩;rw [hn] at hK hsz hs;have hX:=blk_lt h.blk;clear h hx hn;rcases (show (yk=4∧1≤n∧n≤9)∨(yk=4∧n<1)∨(yk=4∧9<n)∨¬yk=4 by omega) with ⟨h4,h1,h9⟩|⟨h4,h1⟩|⟨h4,h9⟩|h4
 ·(obtain rfl:true=K:=by rw [←hK];simp;omega);clear hK;have g0:(yk==4)=true:=beq_iff_eq.2 h4;(have g1:decide ((1:Int)≤(n:Int))=true:=decide_eq_true (by omega));(have g2:decide ((n:Int)≤9)=true:=decide_eq_true (by omega));clear h4;(go_enter Tryz.func85,Tryz.ntmps85);(go_wp2_with fail);refine HN.out.mono ?_;rintro e w1 ⟨rfl,h1'⟩;have H1:=Hd h1';clear h1';go_wp2;(go_quiet (fail));go_wp2;(refine bodyPost_ret (v:=.tuple #[.string (bs yx),.bool true]) (by simp [results,Tryz.results85,go_sem]) rfl ?_);refine⟨rfl,H1.out.upto hX H1.out.ch.size ?_⟩;exact below_drawn (box_below _ _) _
 ·(obtain rfl:false=K:=by rw [←hK];simp;omega);clear hK;have g0:(yk==4)=true:=beq_iff_eq.2 h4;(have g1:decide ((1:Int)≤(n:Int))=false:=decide_eq_false (by omega));clear h4;(go_enter Tryz.func85,Tryz.ntmps85);(go_wp2_with fail);refine HN.out.mono ?_;rintro e w1 ⟨rfl,h1'⟩;have H1:=Hd h1';clear h1';go_wp2;(go_quiet (fail));go_wp2;(refine bodyPost_ret (v:=.tuple #[.string (bs yx),.bool false]) (by simp [results,Tryz.results85,go_sem]) rfl ?_);refine⟨rfl,H1.out.upto hX H1.out.ch.size ?_⟩;exact below_drawn (box_below _ _) _
 ·(obtain rfl:false=K:=by rw [←hK];simp;omega);clear hK;have g0:(yk==4)=true:=beq_iff_eq.2 h4;(have g1:decide ((1:Int)≤(n:Int))=true:=decide_eq_true (by omega));(have g2:decide ((n:Int)≤9)=false:=decide_eq_false (by omega));clear h4;(go_enter Tryz.func85,Tryz.ntmps85);(go_wp2_with fail);refine HN.out.mono ?_;rintro e w1 ⟨rfl,h1'⟩;have H1:=Hd h1';clear h1';go_wp2;(go_quiet (fail));go_wp2;(refine bodyPost_ret (v:=.tuple #[.string (bs yx),.bool false]) (by simp [results,Tryz.results85,go_sem]) rfl ?_);refine⟨rfl,H1.out.upto hX H1.out.ch.size ?_⟩;exact below_drawn (box_below _ _) _
 ·(obtain rfl:false=K:=by rw [←hK];simp;omega);clear hK;have g0:(yk==4)=false:=beq_eq_false_iff_ne.2 h4;clear h4;(go_enter Tryz.func85,Tryz.ntmps85);(go_wp2_with fail);refine HN.out.mono ?_;rintro e w1 ⟨rfl,h1'⟩;have H1:=Hd h1';clear h1';go_wp2;(go_quiet (fail));go_wp2;(refine bodyPost_ret (v:=.tuple #[.string (bs yx),.bool false]) (by simp [results,Tryz.results85,go_sem]) rfl ?_);refine⟨rfl,H1.out.upto hX H1.out.ch.size ?_⟩;exact below_drawn (box_below _ _) _
theorem qword_calls {A X:Nat} {v cv:Value} {L:List TokL} {a:Nat} {U:QV} {C:List OpL} {w:World} (h:QRd A X v L a U C cv w) (hL:L.length≤100000) (s:List UInt8) (K:Bool) (hK:isW L a 1 s=K) (b:Nat) (hb:stepA K a=b) :
    Calls Tryz.prog 31 #[.pointer (some ⟨X,0,none⟩),.string (bs s)] w fun e w'=>e=.returned (.bool K)∧QT A X v L U cv b C w w':=(wword_calls h hL s K hK b hb).mono fun _ _ ⟨he,ht⟩=>⟨he,ht.qt h⟩
theorem qsign_calls {A X:Nat} {v cv:Value} {L:List TokL} {a:Nat} {U:QV} {C:List OpL} {w:World} (h:QRd A X v L a U C cv w) (hL:L.length≤100000) (s:List UInt8) (K:Bool) (hK:isW L a 5 s=K) (b:Nat) (hb:stepA K a=b) :
    Calls Tryz.prog 79 #[.pointer (some ⟨X,0,none⟩),.string (bs s)] w fun e w'=>e=.returned (.bool K)∧QT A X v L U cv b C w w':=(wsign_calls h hL s K hK b hb).mono fun _ _ ⟨he,ht⟩=>⟨he,ht.qt h⟩
theorem qnext_calls {A X:Nat} {v cv:Value} {L:List TokL} {a:Nat} {U:QV} {C:List OpL} {w:World} (h:QRd A X v L a U C cv w) (hL:L.length≤100000) :
    Calls Tryz.prog 123 #[.pointer (some ⟨X,0,none⟩)] w fun e w'=>e=.returned (tokAt L a).v∧QT A X v L U cv (nextA L a) C w w':=(wnext_calls h hL).mono fun _ _ ⟨he,ht⟩=>⟨he,ht.qt h⟩
theorem qvar_calls {A X:Nat} {v cv:Value} {L:List TokL} {a:Nat} {U:QV} {C:List OpL} {w:World} (h:QRd A X v L a U C cv w) (hL:L.length≤100000) (hx:TokOk (tokAt L a)) :
    Calls Tryz.prog 82 #[.pointer (some ⟨X,0,none⟩)] w fun e w'=>e=.returned (.tuple #[.string (bs (tokAt L a).x),.bool (isVar (tokAt L a))])∧QT A X v L U cv (nextA L a) C w w':=(wvar_calls h hL hx).mono fun _ _ ⟨he,ht⟩=>⟨he,ht.qt h⟩
end
section
open Go.RowKit
def zeroOpV:Value:=.agg #[.int .i64 0,.slice none 0 0,.slice none 0 0,.slice none 0 0,.slice none 0 0,.string ⟨#[]⟩,.bool false]
theorem info_op:(Tryz.prog.info? 57).map (fun i=>(i.zero,i.size,i.bytes))=some (some zeroOpV,7,128):=by kernel_rfl
def opS0 (a:Option Addr) (n c:Nat):OpS:=⟨none,0,0,none,0,0,none,0,0,a,n,c⟩
theorem txt_none (w:World):TxtA w none 0 0 []:=⟨rfl,Nat.le_refl _,Nat.zero_le _,fun h=>absurd h (Nat.lt_irrefl _)⟩
theorem trp_none (w:World):TrpA w none 0 0 []:=⟨rfl,Nat.le_refl _,Nat.zero_le _,fun h=>absurd h (Nat.lt_irrefl _)⟩
theorem row_none (w:World):RowA w none 0 0 []:=⟨rfl,Nat.le_refl _,Nat.zero_le _,fun h=>absurd h (Nat.lt_irrefl _)⟩
theorem arg_none (w:World):ArgP w none 0 0 []:=⟨rfl,Nat.le_refl _,Nat.zero_le _,fun h=>absurd h (Nat.lt_irrefl _)⟩
theorem held_op0 (S:Nat→Prop) (w:World) (k:Int) (x:List UInt8) (b:Bool):Held S w fun w'=>OpIn w' ⟨k,[],[],[],[],x,b⟩ (opS0 none 0 0):=fun _ _=>⟨trp_none _,txt_none _,row_none _,arg_none _⟩
theorem held_opF {S:Nat→Prop} {w:World} {F:List PartL} {a:Option Addr} {n c:Nat} (h:Held S w fun w'=>ArgP w' a n c F) (k:Int) (x:List UInt8) (b:Bool):Held S w fun w'=>OpIn w' ⟨k,[],[],[],F,x,b⟩ (opS0 a n c):=fun w' h'=>⟨trp_none _,txt_none _,row_none _,h w' h'⟩
theorem qrd_added {A X N cap g:Nat} {v cv:Value} {L:List TokL} {a:Nat} {U:QV} {C:List OpL} {w w3:World} {o:OpL} {S:OpS} {PC:List (OpL×OpS)} (h:QRd A X v L a U C cv w) (hPC:PC.map Prod.fst=C) (hH:∀p∈PC,Held (hS U X cv) w fun w'=>OpIn w' p.1 p.2) (hO:Held (hS U X cv) w fun w'=>OpIn w' o S) (hr:w3.ownsRow A 57 7 (.slice (some ⟨g,0,none⟩) N cap) N (PC.flatMap opCells++OpS.cells o S)) (hN:N=C.length+1) (hg:w.grownBy w3 cv.ownBlock) (hat:cv.ownBlock=some g∨w.heap.size≤g) (hgX:g≠X):QT A X v L U cv a (C++[o]) w (w3.setCell ⟨X,11,none⟩ (.slice (some ⟨g,0,none⟩) N cap)):=by
 subst hN;have hX:=blk_lt h.blk;have hblk:Blk w3 X 44 (rdCells v a U cv):=by
  (unfold Blk);(rw [hg.block X hX (fun e=>code_apart h.code h.blk X e.symm rfl)]);exact h.blk
 have hch:Ch (rdS X cv) (rdS X (.slice (some ⟨g,0,none⟩) (C.length+1) cap)) w (w3.setCell ⟨X,11,none⟩ (.slice (some ⟨g,0,none⟩) (C.length+1) cap)):=by
  refine⟨hg.os,hg.tape,hg.output,by have:=hg.size;simpa using this,fun k hk hS=>?_,fun k hk=>?_⟩
  ·(rw [heap_setCell_other w3 ⟨X,11,none⟩ k _ (fun e=>hS (.inl (by simpa using e)))]);exact hg.block k hk (fun e=>hS (.inr e.symm))
  ·rcases hk with rfl|hk
   ·exact .inl (.inl rfl)
   ·(simp only [Value.ownBlock,Option.some.injEq] at hk);subst hk;rcases hat with e|e
    ·exact .inl (.inr e)
    ·exact .inr e
 have hb:=h.below hch;(refine⟨_,⟨by simpa [rdCells] using blk_set hblk 11 (.slice (some ⟨g,0,none⟩) (C.length+1) cap),?_,h.low,h.toks.on hb,h.good.on hb,h.le,fun k hk=>Nat.lt_of_lt_of_le (h.pl k hk) hch.size⟩,hch⟩);refine⟨PC++[(o,S)],by rw [List.map_append,hPC];rfl,?_,fun p hp=>?_⟩
 ·rw [List.length_append,List.length_singleton,List.flatMap_append];(refine⟨by simpa [opCells] using hr.1,?_⟩);rcases hr.2 with ⟨h0,_⟩|⟨g',cap',cur,hv,hg',hh,r⟩
  ·cases h0
  ·(refine .inr ⟨g',cap',cur,hv,hg',?_,by simpa [opCells] using r⟩);(cases hv);rw [heap_setCell_other w3 ⟨X,11,none⟩ g _ hgX];exact hh
 ·rcases List.mem_append.1 hp with hp|hp
  ·exact (hH p hp).onP hch
  ·rw [List.mem_singleton] at hp;subst hp;exact hO.onP hch
theorem op_apart {A X n:Nat} {cv:Value} {xs:List Value} {cs:Array Value} {w:World} (hr:w.ownsRow A 57 7 cv n xs) (hb:Blk w X 44 cs):∀g,cv.ownBlock=some g→g≠X:=by
  rintro g hg rfl
  rcases hr.2 with ⟨rfl,_⟩|⟨g',cap,cur,rfl,_,hh,_⟩
  · simp [Value.ownBlock] at hg
  · simp only [Value.ownBlock,Option.some.injEq] at hg
    subst hg
    unfold Blk at hb
    rw [hh] at hb
    simp only [Option.some.injEq,Obj.cells.injEq] at hb
    exact absurd hb.2.1 (by decide)
theorem lay_calls {A X:Nat} {v cv:Value} {L:List TokL} {a:Nat} {U:QV} {C:List OpL} {w:World} (h:QRd A X v L a U C cv w) (o:OpL) (S:OpS) (hO:Held (hS U X cv) w fun w'=>OpIn w' o S) (hC:C.length≤2000000):Calls Tryz.prog 78 #[.pointer (some ⟨X,0,none⟩),o.v S] w fun e w'=>e=.returned (.tuple #[])∧QT A X v L U cv a (C++[o]) w w':=by
 have H:=Hd h;have HO:=Hd hO;obtain⟨c0,c1,c2⟩:=h.cells;have hX:=blk_lt h.blk;(have fr:=fun i=>blk_free h.blk i);have hsz:=h.size;have HBK:=Hd h.blk;obtain⟨i0,hi,hz0,hz1,hz2⟩:=info_parts info_op;obtain⟨PC,h1,hrow,h3⟩:=h.code;have HP1:=Hd h1;have HP3:=Hd h3;have HAP:=Hd (code_apart h.code h.blk);obtain⟨v5,c5,rfl⟩:=row_slice hrow;clear h hO h1 h3 c0 c1;obtain⟨N,hN⟩:∃N,C.length=N:=⟨_,rfl⟩;have HN:=Hd hN;rw [hN] at hrow c2 hC HO HP3 HAP HBK;rw [hN] at H;rw [hN];clear hN;obtain⟨k,T,V,R,F,m,s⟩:=o;obtain⟨ta,tn,tc,va,vn,vc,ra,rn,rc,fa,fn,fc⟩:=S;(have HCE:=Hd (show OpS.cells ⟨k,T,V,R,F,m,s⟩ ⟨ta,tn,tc,va,vn,vc,ra,rn,rc,fa,fn,fc⟩=[.int .i64 k,.slice ta tn tc,.slice va vn vc,.slice ra rn rc,.slice fa fn fc,.string (bs m),.bool s] from rfl));(simp only [OpL.v]);(go_enter Tryz.func78,Tryz.ntmps78);go_wp2;(go_region_law (refine step_append_lies _ (by rfl) (.tmp 9) (.tmp 11) 25 (by rfl) A 57 i0 zeroOpV 7 128 Tryz.underlying25 hi hz0 hz1 hz2 rfl (by decide) _ _ _ rfl ((hrow.alloc _).alloc _) ⟨w.heap.size+1,0,none⟩ 1 1 [.int .i64 k,.slice ta tn tc,.slice va vn vc,.slice ra rn rc,.slice fa fn fc,.string (bs m),.bool s] rfl rfl (news7 _ _ _ _ _ _ _ _ _ (by simp)) (by intro u hu;simp at hu;rcases hu with rfl|rfl|rfl|rfl|rfl|rfl|rfl<;>rfl) (by decide) (by unfold maxLen;omega) (by omega) (by simp;omega) (w.heap.size+1+1) (by simp) ?_;intro g cap w3 hown3 hgrow3 hat3 hlt3;have hg0:=grown_two hgrow3;have hbk3:Blk w3 X 44 _:=(by unfold Blk;rw [hg0.block X hX (fun e=>HAP.out X e.symm rfl)];exact HBK.out);have HF:=Hd (qrd_added H.out HP1.out HP3.out HO.out (by rw [HCE.out];exact hown3) (by rw [HN.out]) hg0 (hat3.imp id (fun e=>(by omega:w.heap.size≤g))) (op_apart hown3 hbk3 g rfl));have q2:w3.cell? ⟨X,11,none⟩=some (.slice v5 N c5):=(by rw [blk_cell hbk3];rfl);have q3:=blk_free hbk3 11;clear hgrow3 hat3 hlt3 hown3 hg0 hbk3));(all_goals go_wp2);(all_goals refine bodyPost_end (v:=.tuple #[]) (by simp [results,Tryz.results78,go_sem]) rfl ?_);all_goals exact⟨rfl,HF.out⟩
theorem ground_calls {A X:Nat} {v cv:Value} {L:List TokL} {a:Nat} {U:QV} {C:List OpL} {w:World} (h:QRd A X v L a U C cv w) (b:Bool) (hC:C.length≤2000000):Calls Tryz.prog 116 #[.pointer (some ⟨X,0,none⟩),.bool b] w fun e w'=>e=.returned (.tuple #[])∧QT A X v L U cv a (groundQ b C) w w':=by
 cases b with
 | true =>
   have H:=Hd h;clear h;(go_enter Tryz.func116,Tryz.ntmps116);go_wp2;(refine bodyPost_end (v:=.tuple #[]) (by simp [results,Tryz.results116,go_sem]) rfl ?_);exact⟨rfl,qt_on H.out (Below.refl _ _)⟩
 | false =>
   have HL:=Hd (lay_calls h (opK 1) (opS0 none 0 0) (held_op0 _ _ _ _ _) hC);(simp only [OpL.v,opK,opS0,bs_nil] at HL);clear h;(go_enter Tryz.func116,Tryz.ntmps116);(go_wp2_with fail);refine HL.out.mono ?_;rintro e w1 ⟨rfl,h1⟩;have H1:=Hd h1;clear h1;go_wp2;(refine bodyPost_end (v:=.tuple #[]) (by simp [results,Tryz.results116,go_sem]) rfl ?_);exact⟨rfl,H1.out⟩
theorem join_calls {A X:Nat} {v cv:Value} {L:List TokL} {a:Nat} {U:QV} {C:List OpL} {w:World} (h:QRd A X v L a U C cv w) (b:Bool) (hC:C.length≤2000000):Calls Tryz.prog 121 #[.pointer (some ⟨X,0,none⟩),.bool b] w fun e w'=>e=.returned (.tuple #[])∧QT A X v L U cv a (joinQ b C) w w':=by
 cases b with
 | false =>
   have H:=Hd h;clear h;(go_enter Tryz.func121,Tryz.ntmps121);go_wp2;(refine bodyPost_end (v:=.tuple #[]) (by simp [results,Tryz.results121,go_sem]) rfl ?_);exact⟨rfl,qt_on H.out (Below.refl _ _)⟩
 | true =>
   have HL:=Hd (lay_calls h (opK 3) (opS0 none 0 0) (held_op0 _ _ _ _ _) hC);(simp only [OpL.v,opK,opS0,bs_nil] at HL);clear h;(go_enter Tryz.func121,Tryz.ntmps121);(go_wp2_with fail);refine HL.out.mono ?_;rintro e w1 ⟨rfl,h1⟩;have H1:=Hd h1;clear h1;go_wp2;(refine bodyPost_end (v:=.tuple #[]) (by simp [results,Tryz.results121,go_sem]) rfl ?_);exact⟨rfl,H1.out⟩
end
end Go.Proofs.YtjpfoophipcglaaGreatDoor
