/- What is read is short enough: the parts of a formula, the operations of a group. -/
import Derived.Test.YtjpfoophipcglaaGreatDoorKQTails
namespace Go.Proofs.YtjpfoophipcglaaGreatDoor
set_option maxRecDepth 100000
set_option maxHeartbeats 8000000
def AllP (q:StL):Prop:=∀p∈q.2,p.ok
theorem allp_put {q:StL} {p:PartL} (h:AllP q) (hp:p.ok):AllP (putR q p):=by
  intro x hx
  unfold putR at hx
  rcases List.mem_append.1 hx with h1|h1
  · exact h x h1
  · rw [List.mem_singleton.1 h1];exact hp
theorem short_max {l:List UInt8} (h:l.length≤100):l.length≤maxLen:=Nat.le_trans h (by unfold maxLen;decide)
theorem nil_ok:([]:List UInt8).length≤maxLen:=Nat.zero_le _
theorem intT_ok:intT.length≤maxLen:=short_max (by decide)
theorem noTerm_ok:TermOk noTerm:=⟨nil_ok,nil_ok,nil_ok⟩
theorem val_ok {t:TermL} (h:TermOk t):(valPart t).ok:=⟨h,nil_ok⟩
theorem int_ok {x:List UInt8} (h:x.length≤maxLen):TermOk ⟨2,x,intT,[]⟩:=⟨h,intT_ok,nil_ok⟩
theorem word_allp {rec:Goal→StL→FResL} {L:List TokL} (E:∀t∈L,TokOk t) (hr:∀g q r,rec g q=some (some r)→AllP q→AllP r) {s:List UInt8} {q r:StL} (h:wordM rec L s q=some (some r)) (hq:AllP q):AllP r:=by
 (unfold wordM at h);split at h
 ·(simp only [okR,Option.some.injEq] at h;subst h);exact allp_put hq (val_ok ⟨short_max (by decide),short_max (by decide),short_max (by decide)⟩)
 ·split at h
  ·(simp only [okR,Option.some.injEq] at h;subst h);exact allp_put hq (val_ok ⟨short_max (by decide),short_max (by decide),short_max (by decide)⟩)
  ·split at h
   ·split at h
    ·split at h
     ·simp [failR] at h
     ·rename_i w hw;split at h
      ·(simp only [okR,Option.some.injEq] at h;subst h);exact allp_put (q:=(q.1+3,q.2)) hq ⟨noTerm_ok,(E w (List.mem_of_getElem? hw)).1⟩
      ·simp [failR] at h
    ·simp [failR] at h
   ·split at h
    ·simp [failR] at h
    ·split at h
     ·exact hr _ _ _ h hq
     ·simp [failR] at h
theorem simple_allp {rec:Goal→StL→FResL} {L:List TokL} (E:∀t∈L,TokOk t) (hr:∀g q r,rec g q=some (some r)→AllP q→AllP r) {q r:StL} (h:simpleM rec L q=some (some r)) (hq:AllP q):AllP r:=by
 (unfold simpleM at h);split at h
 ·simp [failR] at h
 ·rename_i w hw;have hok:=E w (List.mem_of_getElem? hw);split at h
  ·split at h
   ·rcases bindR_some h with ⟨_,h1⟩|⟨s,h1,h2⟩
    ·cases h1
    ·split at h2
     ·(simp only [okR,Option.some.injEq] at h2;subst h2);have h3:AllP s:=hr _ _ _ h1 hq;exact h3
     ·simp [failR] at h2
   ·simp [failR] at h
  ·split at h
   ·split at h
    ·(simp only [okR,Option.some.injEq] at h;subst h);exact allp_put (q:=(q.1+1,q.2)) hq ⟨noTerm_ok,hok.1⟩
    ·simp [failR] at h
   ·split at h
    ·split at h
     ·(simp only [okR,Option.some.injEq] at h;subst h);exact allp_put (q:=(q.1+1,q.2)) hq (val_ok hok.2)
     ·simp [failR] at h
    ·split at h
     ·(simp only [okR,Option.some.injEq] at h;subst h);exact allp_put (q:=(q.1+1,q.2)) hq (val_ok (int_ok hok.1))
     ·split at h
      ·exact word_allp E hr h hq
      ·simp [failR] at h
theorem levsR_allp {gath:Nat→StL→FResL} (hg:∀i q r,gath i q=some (some r)→AllP q→AllP r) (n:Nat):∀k q r,levsR gath n k q=some (some r)→AllP q→AllP r
  | 0,q,r,h,hq=>by simp only [levsR,okR,Option.some.injEq] at h;subst h;exact hq
  | k+1,q,r,h,hq=>by
    rw [levsR] at h
    rcases bindR_some h with ⟨_,h1⟩|⟨s,h1,h2⟩
    · cases h1
    · exact levsR_allp hg n k _ _ h2 (hg _ _ _ h1 hq)
theorem sign_ok (k:Nat):(signPart k).ok:=⟨noTerm_ok,nil_ok⟩
theorem run_allp {L:List TokL} (E:∀t∈L,TokOk t):∀f g q r,runM L f g q=some (some r)→AllP q→AllP r
  | 0,_,_,_,h,_=>by cases h
  | f+1,.chain n,q,r,h,hq=>by
    rw [runM] at h
    rcases bindR_some h with ⟨_,h1⟩|⟨s,h1,h2⟩
    · cases h1
    · exact levsR_allp (fun i=>run_allp E f _) n _ _ _ h2 (run_allp E f _ _ _ h1 hq)
  | f+1,.gather i,q,r,h,hq=>by
    rw [runM] at h
    split at h
    · simp only [okR,Option.some.injEq] at h;subst h;exact hq
    · rcases bindR_some h with ⟨_,h1⟩|⟨s,h1,h2⟩
      · cases h1
      · have h3:=run_allp E f _ _ _ h1 hq
        split at h2
        · simp only [okR,Option.some.injEq] at h2;subst h2
          exact allp_put h3 (sign_ok _)
        · exact run_allp E f _ _ _ h2 (allp_put h3 (sign_ok _))
  | f+1,.signed,q,r,h,hq=>by
    rw [runM] at h
    split at h
    · exact simple_allp E (fun g q r=>run_allp E f g q r) h hq
    · rcases bindR_some h with ⟨_,h1⟩|⟨s,h1,h2⟩
      · cases h1
      · simp only [okR,Option.some.injEq] at h2;subst h2
        exact allp_put (run_allp E f _ _ _ h1 hq) (sign_ok _)
  | f+1,.args kind n,q,r,h,hq=>by
    rw [runM] at h
    rcases bindR_some h with ⟨_,h1⟩|⟨s,h1,h2⟩
    · cases h1
    · have h3:=run_allp E f _ _ _ h1 hq
      split at h2
      · exact run_allp E f _ _ _ h2 h3
      · unfold argsEnd at h2
        split at h2
        · simp only [okR,Option.some.injEq] at h2;subst h2
          exact allp_put (q:=(s.1+1,s.2)) h3 ⟨noTerm_ok,nil_ok⟩
        · simp [failR] at h2
theorem form_ok {L:List TokL} (E:∀t∈L,TokOk t) (a:Nat):∀p∈(formM L a).f,p.ok:=by
  unfold formM
  split
  · intro p hp;cases hp
  · rename_i q hq
    split
    · rename_i h0
      unfold parseM at hq
      split at hq
      · cases hq
      · simp only [Option.some.injEq] at hq;rw [←hq] at h0;cases h0
      · rename_i r hr
        split at hq
        · simp only [Option.some.injEq] at hq;rw [←hq] at h0;cases h0
        · simp only [Option.some.injEq] at hq;rw [←hq]
          exact run_allp E _ _ _ _ hr (fun p hp=>by cases hp)
    · intro p hp;cases hp
theorem filter_ok {L:List TokL} (E:∀t∈L,TokOk t) (a:Nat):∀p∈(filterM L a).f,p.ok:=by
  unfold filterM
  split
  · split
    · exact form_ok E _
    · intro p hp;cases hp
  · intro p hp;cases hp
def OpsOk (C:List OpL):Prop:=∀o∈C,OpOk o
def FsOk (F:List (List PartL)):Prop:=∀f∈F,∀p∈f,p.ok
theorem ops_nil:OpsOk []:=fun _ h=>by cases h
theorem ops_snoc {C:List OpL} {o:OpL} (h:OpsOk C) (ho:OpOk o):OpsOk (C++[o]):=fun x hx=>by
  rcases List.mem_append.1 hx with h1|h1
  · exact h x h1
  · rw [List.mem_singleton.1 h1];exact ho
theorem fs_snoc {C:List (List PartL)} {o:List PartL} (h:FsOk C) (ho:∀p∈o,p.ok):FsOk (C++[o]):=fun x hx=>by
  rcases List.mem_append.1 hx with h1|h1
  · exact h x h1
  · rw [List.mem_singleton.1 h1];exact ho
theorem bs_ok {x:List UInt8} (h:x.length≤maxLen):(bs x).size≤maxLen:=by rw [bs_size];exact h
theorem opk_ok (k:Int):OpOk (opK k):=⟨fun _ h=>(by cases h),fun _ h=>(by cases h),fun _ h=>(by cases h),fun _ h=>(by cases h),bs_ok (nil_ok)⟩
theorem opf_ok (k:Int) {F:List PartL} {x:List UInt8} (b:Bool) (hF:∀p∈F,p.ok) (hx:x.length≤maxLen):OpOk ⟨k,[],[],[],F,x,b⟩:=⟨fun _ h=>(by cases h),fun _ h=>(by cases h),fun _ h=>(by cases h),hF,bs_ok hx⟩
theorem ground_ok {C:List OpL} (b:Bool) (h:OpsOk C):OpsOk (groundQ b C):=by
  cases b with
  | true=>exact h
  | false=>exact ops_snoc h (opk_ok 1)
theorem join_ok {C:List OpL} (b:Bool) (h:OpsOk C):OpsOk (joinQ b C):=by
  cases b with
  | false=>exact h
  | true=>exact ops_snoc h (opk_ok 3)
theorem conj_ok:∀(F:List (List PartL)) (i:Nat),FsOk F→∀p∈conjGo i F,p.ok
  | [],_,_,p,hp=>by cases hp
  | f::r,i,h,p,hp=>by
    rw [conjGo] at hp
    rcases List.mem_append.1 hp with h1|h1
    · rcases List.mem_append.1 h1 with h2|h2
      · exact h f (List.mem_cons_self ..) p h2
      · split at h2
        · rw [List.mem_singleton.1 h2];exact sign_ok 6
        · cases h2
    · exact conj_ok r (i+1) (fun f hf=>h f (List.mem_cons_of_mem _ hf)) p h1
structure TOk (L:List TokL):Prop where
  ok:∀t∈L,TokOk t
theorem TOk.at {L:List TokL} (E:TOk L) (a:Nat):TokOk (tokAt L a):=by
  unfold tokAt
  split
  · exact⟨nil_ok,noTerm_ok⟩
  · rename_i w hw
    exact E.ok w (List.mem_of_getElem? hw)
theorem termOf_ok {t:TokL} (h:TokOk t):(termOfM t).ok:=by
  unfold termOfM
  cases decide (t.k=2) with
  | true=>exact⟨bs_ok h.1,bs_ok (nil_ok),bs_ok (nil_ok)⟩
  | false=>exact⟨bs_ok h.2.1,bs_ok h.2.2.1,bs_ok h.2.2.2⟩
theorem trips_ok {L:List TokL} (E:TOk L):∀(f a:Nat) (T:List TripL),(∀t∈T,t.ok)→∀t∈(tripsM L f a T).l,t.ok
  | 0,a,T,h=>h
  | f+1,a,T,h=>by
    have h2:∀t∈T++[tripAt L a],t.ok:=fun x hx=>by
      rcases List.mem_append.1 hx with h1|h1
      · exact h x h1
      · rw [List.mem_singleton.1 h1];exact⟨termOf_ok (E.at _),termOf_ok (E.at _),termOf_ok (E.at _)⟩
    rw [tripsM]
    split
    · split
      · exact trips_ok E f _ _ h2
      · exact h2
    · exact h
theorem basic_ok {L:List TokL} (E:TOk L) (a:Nat) {C:List OpL} (h:OpsOk C):OpsOk (basicM L a C).C:=by
  unfold basicM
  split
  · exact ops_snoc h ⟨trips_ok E _ _ _ (fun _ h=>by cases h),fun _ h=>(by cases h),fun _ h=>(by cases h),fun _ h=>(by cases h),bs_ok (nil_ok)⟩
  · exact h
theorem names_ok {L:List TokL} (E:TOk L):∀(f a:Nat) (V:List (List UInt8)),(∀t∈V,(bs t).size≤maxLen)→∀t∈(namesM L f a V).l,(bs t).size≤maxLen
  | 0,a,V,h=>h
  | f+1,a,V,h=>by
    rw [namesM]
    split
    · exact h
    · split
      · refine names_ok E f _ _ (fun x hx=>?_)
        rcases List.mem_append.1 hx with h1|h1
        · exact h x h1
        · rw [List.mem_singleton.1 h1];exact bs_ok (E.at _).1
      · exact h
theorem valAt_ok {L:List TokL} (E:TOk L) (a:Nat):(valAt L a).ok:=by
  unfold valAt
  split
  · exact⟨bs_ok (nil_ok),bs_ok (nil_ok),bs_ok (nil_ok)⟩
  · split
    · exact termOf_ok (E.at _)
    · exact⟨bs_ok (E.at _).1,bs_ok intT_ok,bs_ok nil_ok⟩
theorem cells_ok {L:List TokL} (E:TOk L):∀(f a:Nat) (R:List TermL),(∀t∈R,t.ok)→∀t∈(cellsM L f a R).l,t.ok
  | 0,a,R,h=>h
  | f+1,a,R,h=>by
    rw [cellsM]
    split
    · exact h
    · split
      · refine cells_ok E f _ _ (fun x hx=>?_)
        rcases List.mem_append.1 hx with h1|h1
        · exact h x h1
        · rw [List.mem_singleton.1 h1];exact valAt_ok E a
      · exact h
theorem rowM_ok {L:List TokL} (E:TOk L) (a:Nat):∀t∈(rowM L a).l,t.ok:=by
  unfold rowM
  split
  · exact cells_ok E _ _ _ (fun _ h=>by cases h)
  · exact fun _ h=>by cases h
theorem rows_ok {L:List TokL} (E:TOk L):∀(f a:Nat) (R:List (List TermL)),(∀r∈R,∀t∈r,t.ok)→∀r∈(rowsM L f a R).l,∀t∈r,t.ok
  | 0,a,R,h=>h
  | f+1,a,R,h=>by
    rw [rowsM]
    split
    · exact h
    · split
      · refine rows_ok E f _ _ (fun x hx=>?_)
        rcases List.mem_append.1 hx with h1|h1
        · exact h x h1
        · rw [List.mem_singleton.1 h1];exact rowM_ok E a
      · exact h
theorem values_ok {L:List TokL} (E:TOk L) (a:Nat) {C:List OpL} (h:OpsOk C):OpsOk (valuesM L a C).C:=by
  unfold valuesM
  split
  · split
    · split
      · split
        · exact ops_snoc h ⟨fun _ h=>(by cases h),names_ok E _ _ _ (fun _ h=>by cases h),rows_ok E _ _ _ (fun _ h=>by cases h),fun _ h=>(by cases h),bs_ok (nil_ok)⟩
        · exact h
      · exact h
    · exact h
  · exact h
theorem bind_ok {L:List TokL} (E:TOk L) (a:Nat) {C:List OpL} (h:OpsOk C):OpsOk (bindM L a C).C:=by
  have hb:OpsOk (C++[bindOp (formM L (a+1)).f (tokAt L ((formM L (a+1)).a+1)).x]):=ops_snoc h (opf_ok 8 false (form_ok E.ok _) (E.at _).1)
  unfold bindM
  split
  · split
    · split
      · split
        · exact hb
        · exact hb
      · exact h
    · exact h
  · exact h
theorem filters_ok:∀{F:List (List PartL)} {C:List OpL},OpsOk C→FsOk F→OpsOk (C++F.map filterOp)
  | [],C,h,_=>by rw [List.map_nil,List.append_nil];exact h
  | f::F,C,h,hF=>by
    rw [List.map_cons,List.append_cons]
    exact filters_ok (ops_snoc h (opf_ok 7 false (hF f (List.mem_cons_self ..)) (nil_ok))) (fun g hg=>hF g (List.mem_cons_of_mem _ hg))
structure RecOk (rec:GoalQ→Nat→List OpL→RG):Prop where
  unf:∀a C,OpsOk C→OpsOk (rec .unf a C).C∧FsOk (rec .unf a C).F
  more:∀a C,OpsOk C→OpsOk (rec .more a C).C
  elems:∀there F a C,OpsOk C→FsOk F→OpsOk (rec (.elems there F) a C).C∧FsOk (rec (.elems there F) a C).F
theorem RecOk.grp {rec:GoalQ→Nat→List OpL→RG} (H:RecOk rec) (a:Nat) {C:List OpL} (h:OpsOk C):OpsOk (grpQ (rec .unf a C)).C:=filters_ok (H.unf a C h).1 (H.unf a C h).2
theorem service_ok {rec:GoalQ→Nat→List OpL→RG} {L:List TokL} (E:TOk L) (H:RecOk rec) (a:Nat) {C:List OpL} (h:OpsOk C):OpsOk (serviceQ rec L a C).C:=by
  unfold serviceQ
  split
  · split
    · exact ops_snoc (H.grp _ h) (opf_ok 9 _ (fun _ h=>by cases h) (E.at _).2.1)
    · exact H.grp _ h
  · exact h
theorem union_ok {rec:GoalQ→Nat→List OpL→RG} (H:RecOk rec) (a:Nat) {C:List OpL} (h:OpsOk C):OpsOk (unionQ rec a C).C:=by
  unfold unionQ
  split
  · exact H.more _ _ (H.grp _ h)
  · exact H.grp _ h
theorem piece_ok {rec:GoalQ→Nat→List OpL→RG} {L:List TokL} (E:TOk L) (H:RecOk rec) (a:Nat) {C:List OpL} (h:OpsOk C):OpsOk (pieceQ rec L a C).C:=by
  unfold pieceQ
  split
  · exact values_ok E _ h
  · split
    · exact service_ok E H _ h
    · split
      · exact union_ok H _ h
      · exact basic_ok E _ h
theorem elem_ok {rec:GoalQ→Nat→List OpL→RG} {L:List TokL} (E:TOk L) (H:RecOk rec) (there:Bool) (a:Nat) {C:List OpL} (h:OpsOk C):OpsOk (elemQ rec L there a C).C:=by
  unfold elemQ
  split
  · exact ops_snoc (H.unf _ _ (ground_ok there h)).1 (opf_ok 5 false (conj_ok _ 0 (H.unf _ _ (ground_ok there h)).2) (nil_ok))
  · split
    · exact ops_snoc (H.grp _ (ground_ok there h)) (opk_ok 6)
    · split
      · exact bind_ok E _ (ground_ok there h)
      · exact join_ok there (piece_ok E H _ h)
theorem runQ_ok {L:List TokL} (E:TOk L):∀f,RecOk (runQ L f)
  | 0=>⟨fun _ _ h=>⟨h,fun _ h=>by cases h⟩,fun _ _ h=>h,fun _ _ _ _ h _=>⟨h,fun _ h=>by cases h⟩⟩
  | f+1=>by
    have H:=runQ_ok E f
    refine⟨fun a C h=>?_,fun a C h=>?_,fun there F a C h hF=>?_⟩
    · rw [runQ]
      split
      · exact H.elems _ _ _ _ h (fun _ h=>by cases h)
      · exact⟨ops_snoc h (opk_ok 1),fun _ h=>by cases h⟩
    · rw [runQ]
      split
      · split
        · exact H.more _ _ (ops_snoc (H.grp _ h) (opk_ok 4))
        · exact ops_snoc (H.grp _ h) (opk_ok 4)
      · exact h
    · rw [runQ]
      split
      · exact⟨ground_ok there h,hF⟩
      · split
        · split
          · exact H.elems _ _ _ _ h (fs_snoc hF (filter_ok E.ok _))
          · exact⟨ground_ok there h,fs_snoc hF (filter_ok E.ok _)⟩
        · split
          · exact H.elems _ _ _ _ (elem_ok E H there a h) hF
          · exact⟨elem_ok E H there a h,hF⟩
section
open Go.RowKit
def Agg3 (w:World) (g j:Nat) (x:AggL):Prop:=w.cell? ⟨g,j,none⟩=some (.int .i64 x.k)∧w.cell? ⟨g,j+1,none⟩=some (.string (bs x.o))∧w.cell? ⟨g,j+2,none⟩=some (.string (bs x.m))
def Key2 (w:World) (g j:Nat) (x:KeyL):Prop:=w.cell? ⟨g,j,none⟩=some (.string (bs x.m))∧w.cell? ⟨g,j+1,none⟩=some (.bool x.d)
structure AgA (w:World) (a:Option Addr) (n c:Nat) (G:List AggL):Prop where
  len:G.length=n
  cap:n≤c
  most:c≤maxLen
  cells:0<n→∃g o,a=some ⟨g,o,none⟩∧g<w.heap.size∧∀j (h:j<G.length),Agg3 w g (o+j*3) G[j]
structure KyA (w:World) (a:Option Addr) (n c:Nat) (O:List KeyL):Prop where
  len:O.length=n
  cap:n≤c
  most:c≤maxLen
  cells:0<n→∃g o,a=some ⟨g,o,none⟩∧g<w.heap.size∧∀j (h:j<O.length),Key2 w g (o+j*2) O[j]
theorem AgA.on {w w':World} {a:Option Addr} {n c:Nat} {G:List AggL} (h:AgA w a n c G) (hb:Below w.heap.size w w'):AgA w' a n c G:=by
  refine⟨h.len,h.cap,h.most,fun h0=>?_⟩
  obtain⟨g,o,ha,hg,hc⟩:=h.cells h0
  refine⟨g,o,ha,Nat.lt_of_lt_of_le hg hb.size,fun j hj=>?_⟩
  obtain⟨h1,h2,h3⟩:=hc j hj
  exact⟨kpB hb hg h1,kpB hb hg h2,kpB hb hg h3⟩
theorem KyA.on {w w':World} {a:Option Addr} {n c:Nat} {O:List KeyL} (h:KyA w a n c O) (hb:Below w.heap.size w w'):KyA w' a n c O:=by
  refine⟨h.len,h.cap,h.most,fun h0=>?_⟩
  obtain⟨g,o,ha,hg,hc⟩:=h.cells h0
  refine⟨g,o,ha,Nat.lt_of_lt_of_le hg hb.size,fun j hj=>?_⟩
  obtain⟨h1,h2⟩:=hc j hj
  exact⟨kpB hb hg h1,kpB hb hg h2⟩
theorem agA_row {w:World} {B n c:Nat} {a:Option Addr} {e:TypeId} {G:List AggL} (h:w.ownsRow B e 3 (.slice a n c) n (G.flatMap aggCells)) (hl:G.length=n):AgA w a n c G:=by
  obtain⟨h1,h2,h3⟩:=row_lens h
  refine⟨hl,h1,h2,fun h0=>?_⟩
  obtain⟨g,rfl,hg⟩:=h3 h0
  refine⟨g,0,rfl,hg,fun j hj=>?_⟩
  have F:=fun i (hi:i<3)=>flat_cell (f:=aggCells) (fun _=>rfl) h hl hj hi
  exact⟨(F 0 (by decide)).trans rfl,(F 1 (by decide)).trans rfl,(F 2 (by decide)).trans rfl⟩
theorem kyA_row {w:World} {B n c:Nat} {a:Option Addr} {e:TypeId} {O:List KeyL} (h:w.ownsRow B e 2 (.slice a n c) n (O.flatMap keyCells)) (hl:O.length=n):KyA w a n c O:=by
  obtain⟨h1,h2,h3⟩:=row_lens h
  refine⟨hl,h1,h2,fun h0=>?_⟩
  obtain⟨g,rfl,hg⟩:=h3 h0
  refine⟨g,0,rfl,hg,fun j hj=>?_⟩
  have F:=fun i (hi:i<2)=>flat_cell (f:=keyCells) (fun _=>rfl) h hl hj hi
  exact⟨(F 0 (by decide)).trans rfl,(F 1 (by decide)).trans rfl⟩
abbrev XS (X:Nat):Nat→Prop:=fun k=>k=X
theorem Ag.mono {S S':Nat→Prop} {w w':World} (h:Ag S w w') (hS:∀k,S k→S' k):Ag S' w w':=⟨h.1,fun k hk hn=>h.2 k hk (fun c=>hn (hS k c))⟩
theorem Held.lessS {S S':Nat→Prop} {w:World} {Q:World→Prop} (h:Held S w Q) (hS:∀k,S' k→S k):Held S' w Q:=fun w' ha=>h w' (ha.mono hS)
theorem Held.imp {S:Nat→Prop} {w:World} {P Q:World→Prop} (h:Held S w P) (hp:∀w',P w'→Q w'):Held S w Q:=fun w' ha=>hp w' (h w' ha)
theorem Held.below {S:Nat→Prop} {w w':World} {Q:World→Prop} (h:Held S w Q) (hb:Below w.heap.size w w'):Held S w' Q:=h.on (Ch.of_below hb)
theorem ch_ag {S S':Nat→Prop} {w w':World} (h:Ch S S' w w'):Ag S w w':=⟨h.size,h.block⟩
def XP [Rsv] (X:Nat) (k:Nat):Prop:=k=X∨Rsv.P k
theorem xp_lt [Rsv] {X k A n:Nat} (h:XP X k) (hPA:∀k,Rsv.P k→k<A) (hA:A≤X) (hX:X<n):k<n:=by
  rcases h with rfl|h
  · exact hX
  · have:=hPA k h;omega
theorem ch_xp [Rsv] {X:Nat} {w w':World} (h:Ch (XS X) (XS X) w w'):Ch (XP X) (XP X) w w' :=
  ⟨h.os,h.tape,h.output,h.size,fun k hk hn=>h.block k hk (fun c=>hn (.inl c)),fun _ h=>.inl h⟩
theorem heldP_row [Rsv] {X:Nat} {w:World} {B size n:Nat} {e:TypeId} {v:Value} {xs:List Value} (h:w.ownsRow B e size v n xs) (hX:∀k,XP X k→k<B):Held (XP X) w fun w'=>w'.ownsRow B e size v n xs :=
  held_row h (fun g hg c=>by have h1:=(h.lt g hg).1;have h2:=hX g c;omega) (fun _ h=>h)
theorem opsA_row {w:World} {A n c:Nat} {a:Option Addr} {e:TypeId} {PC:List (OpL×OpS)} {C:List OpL} (hPC:PC.map Prod.fst=C) (h:w.ownsRow A e 7 (.slice a n c) n (PC.flatMap opCells)) (hl:C.length=n) (hin:∀p∈PC,OpIn w p.1 p.2):OpsA w a n c C:=by
 obtain⟨h1,h2,h3⟩:=row_lens h;(refine⟨hl,h1,h2,fun h0=>?_⟩);obtain⟨g,rfl,hg⟩:=h3 h0;(refine⟨g,0,rfl,hg,fun j hj=>?_⟩);subst hPC;(have hj':j<PC.length:=by rw [List.length_map] at hj;exact hj);(have F:=fun i (hi:i<7)=>flat_cell (f:=opCells) (fun _=>rfl) h (by rw [←hl,List.length_map]) hj' hi);(have e:(PC.map Prod.fst)[j]=PC[j].1:=by rw [List.getElem_map]);rw [e];refine⟨PC[j].2,⟨(F 0 (by decide)).trans rfl,(F 1 (by decide)).trans rfl,(F 2 (by decide)).trans rfl,(F 3 (by decide)).trans rfl,(F 4 (by decide)).trans rfl,(F 5 (by decide)).trans rfl,(F 6 (by decide)).trans rfl⟩,hin _ (List.getElem_mem hj')⟩
theorem code_ops {A X:Nat} {v cv:Value} {L:List TokL} {a:Nat} {U:QV} {C:List OpL} {w:World} (h:QRd A X v L a U C cv w) (hPA:∀k,U.P k→k<A):∃ca cc,cv=.slice ca C.length cc∧Held (fun k=>k=X∨U.P k) w fun w'=>OpsA w' ca C.length cc C:=by
 have hap:=code_apart h.code h.blk;obtain⟨PC,h1,h2,h3⟩:=h.code;obtain⟨ca,cc,rfl⟩:=row_slice h2;(refine⟨ca,cc,rfl,fun w' ha=>?_⟩);(have hr:w'.ownsRow A 57 7 (.slice ca C.length cc) C.length (PC.flatMap opCells):=ag_row h2 ha (fun g hg c=>c.elim (hap g hg) (fun d=>by have h4:=hPA g d;have h5:=(h2.lt g hg).1;omega)));exact opsA_row h1 hr rfl (fun p hp=>h3 p hp w' (ha.mono (fun k hk=>hk.elim (fun e=>.inl (.inl e)) .inr)))
theorem rd_nostr {v:Value} {a:Nat} {U:QV} {cv:Value} {s:ByteArray} (h0:∀s,v≠.string s) (h2:∀s,U.ask≠.string s) (h3:∀s,U.dist≠.string s) (h4:∀s,U.vv≠.string s) (h5:∀s,U.av≠.string s) (h6:∀s,U.gr≠.string s) (h7:∀s,U.gv≠.string s) (h8:∀s,U.ov≠.string s) (h9:∀s,U.lim≠.string s) (h10:∀s,U.off≠.string s) (h11:∀s,cv≠.string s) :
    ∀o:Nat,(rdCells v a U cv)[o]?≠some (.string s)
  | 0=>fun h=>h0 s (Option.some.inj h)
  | 1=>fun h=>by cases (Option.some.inj h)
  | 2=>fun h=>h2 s (Option.some.inj h)
  | 3=>fun h=>h3 s (Option.some.inj h)
  | 4=>fun h=>h4 s (Option.some.inj h)
  | 5=>fun h=>h5 s (Option.some.inj h)
  | 6=>fun h=>h6 s (Option.some.inj h)
  | 7=>fun h=>h7 s (Option.some.inj h)
  | 8=>fun h=>h8 s (Option.some.inj h)
  | 9=>fun h=>h9 s (Option.some.inj h)
  | 10=>fun h=>h10 s (Option.some.inj h)
  | 11=>fun h=>h11 s (Option.some.inj h)
  | o+12=>fun h=>by
    rw [Array.getElem?_eq_none (by simp [rdCells])] at h
    cases h
theorem txt_held {S:Nat→Prop} {w:World} {a:Option Addr} {n c:Nat} {V:List (List UInt8)} (h:TxtA w a n c V) (hs:∀k,S k→∀(o:Nat) (s:ByteArray),w.cell? ⟨k,o,none⟩≠some (Value.string s)):Held S w fun w'=>TxtA w' a n c V:=by
  intro w' ha
  refine⟨h.len,h.cap,h.most,fun h0=>?_⟩
  obtain⟨g,o,e,hg,hc⟩:=h.cells h0
  have hgX:¬S g:=fun ce=>hs g ce (o+0) _ (hc 0 (by rw [h.len];exact h0))
  refine⟨g,o,e,Nat.lt_of_lt_of_le hg ha.1,fun j hj=>?_⟩
  rw [World.cell?_of_block (w:=w) (ha.2 g hg hgX)]
  exact hc j hj
end
end Go.Proofs.YtjpfoophipcglaaGreatDoor
