/- The names of a triple's variables, each once: package triples' Vars. -/
import Derived.Test.YtjpfoophipcglaaGreatDoorKTripCheck
namespace Go.Proofs.YtjpfoophipcglaaGreatDoor
set_option maxRecDepth 100000
set_option maxHeartbeats 8000000
section
open Go.RowKit
theorem info_string:(Tryz.prog.info? 9).map (fun i=>(i.zero,i.size,i.bytes))=some (some (.string ⟨#[]⟩),1,16):=by kernel_rfl
def varsN (t:TripL):Nat→List (List UInt8)
  | 0=>[]
  | 1=>moreL [] t.s
  | 2=>moreL (moreL [] t.s) t.p
  | _=>varsL t
theorem varsN_length (t:TripL) (n:Nat) (h:n≤3):(varsN t n).length≤3:=by
  have h1:=moreL_length [] t.s
  have h2:=moreL_length (moreL [] t.s) t.p
  have h3:=varsL_length t
  simp at h1
  rcases (by omega:n=0∨n=1∨n=2∨n=3) with rfl|rfl|rfl|rfl
  · simp [varsN]
  · show (moreL [] t.s).length≤3;omega
  · show (moreL (moreL [] t.s) t.p).length≤3;omega
  · exact h3
theorem containsS_map (L:List (List UInt8)) (x:List UInt8):Lib.containsS (L.map bs) (bs x)=decide (x∈L):=by
  rw [Bool.eq_iff_iff,Lib.containsS_iff,decide_eq_true_eq,List.mem_map]
  constructor
  · rintro⟨a,ha,e⟩;rw [bs_inj] at e;exact e ▸ ha
  · exact fun h=>⟨x,h,rfl⟩
theorem has_calls (L:List (List UInt8)) (x:List UInt8) (B:Nat) (v:Value) (w:World) (hl:L.length≤3) (h:w.ownsRow B 9 1 v L.length (textCells L)):Calls Tryz.prog 50 #[v,.string (bs x)] w fun e w'=>e=.returned (.bool (decide (x∈L)))∧w'=w:=by
 rcases h.2 with ⟨rfl,h0⟩|⟨g,cap,cur,rfl,_⟩
 ·have e:L=[]:=List.eq_nil_of_length_eq_zero h0;subst e;exact Tryz.slices_Contains_string_empty none 0 (bs x) w
 ·have:=Tryz.slices_Contains_string g 0 L.length cap (L.map bs) (bs x) w (by simp) (by omega) (fun j hj=>by
   (have hj':j<L.length:=by simpa using hj);(have:=h.cells (g:=g) rfl j (.string (bs L[j])) (by simp [textCells,hj']));cases j with
   | zero=>simpa [Addr.add,List.getD,hj'] using this
   | succ j=>simpa [Addr.add,List.getD,hj'] using this)
  rwa [List.take_of_length_le (by simp),containsS_map] at this
def Named (w:World) (t:TripL) (v i:Value) (wr:World):Prop :=
  ∃n:Nat,n≤3∧i=.int .i64 n∧wr.ownsRow w.heap.size 9 1 v (varsN t n).length (textCells (varsN t n))∧Below w.heap.size w wr
def VarsT (w:World) (t:TripL) (e:Ending) (w':World):Prop :=
  ∃v,e=.returned v∧w'.ownsRow w.heap.size 9 1 v (varsL t).length (textCells (varsL t))∧Below w.heap.size w w'
theorem named_more {w W w3:World} {v v3:Value} {L M:List (List UInt8)} {x:List UInt8} {O O2:Obj} (hown:W.ownsRow w.heap.size 9 1 v L.length (textCells L)) (hbw:Below w.heap.size w W) (hown3:w3.ownsRow w.heap.size 9 1 v3 (L.length+1) (textCells L++[.string (bs x)])) (hgrow3:((W.alloc O).alloc O2).grownBy w3 v.ownBlock) (hM:M=L++[x]):w3.ownsRow w.heap.size 9 1 v3 M.length (textCells M)∧Below w.heap.size w w3:=by
 subst hM;(refine⟨by rw [textCells_append,List.length_append];exact hown3,?_⟩);exact ((hbw.alloc hbw.size _).alloc (by have:=hbw.size;simp;omega) _).grown hgrow3 (by have:=hbw.size;simp;omega) (fun k hk=>(hown.lt k hk).1)
theorem Vars_calls (t:TripL) (w:World):Calls Tryz.prog 231 #[t.v] w (VarsT w t):=by
 obtain⟨i0,hi,hz0,hz1,hz2⟩:=info_parts info_string;obtain⟨⟨k,x,y,z⟩,⟨k',x',y',z'⟩,⟨k'',x'',y'',z''⟩⟩:=t;(simp only [TripL.v]);(go_enter Tryz.func231,Tryz.ntmps231);(go_wp2_with fail);refine (terms_calls _ _ _ _ _ _ _ _ _ _ _ _ _).mono ?_;rintro e w1 ⟨rfl,hb1⟩;(go_wp2_with fail);replace hb1:=one_box hb1;go_loopw [3,8] (fun v i wr=>Named w ⟨⟨k,x,y,z⟩,⟨k',x',y',z'⟩,⟨k'',x'',y'',z''⟩⟩ v i wr) (fun _ i _=>3-(intOf i).toNat)
 case atStart=>exact⟨0,by omega,rfl,World.ownsRow_nil _ _ _ _,hb1⟩
 case round =>
  obtain⟨n,hn,rfl,hown,hbw⟩:=hrel;have hln:=varsN_length ⟨⟨k,x,y,z⟩,⟨k',x',y',z'⟩,⟨k'',x'',y'',z''⟩⟩ n hn;rcases (by omega:n=0∨n=1∨n=2∨n=3) with rfl|rfl|rfl|rfl
  ·obtain⟨L,hL⟩:∃L,varsN ⟨⟨k,x,y,z⟩,⟨k',x',y',z'⟩,⟨k'',x'',y'',z''⟩⟩ 0=L:=⟨_,rfl⟩;rw [hL] at hown hln;have HL:=Hd hL;clear hL;have xi:=part_zero (.int .i64 k) (.string (bs x)) (.string (bs y)) (.string (bs z)) (.int .i64 k') (.string (bs x')) (.string (bs y')) (.string (bs z')) (.int .i64 k'') (.string (bs x'')) (.string (bs y'')) (.string (bs z''));by_cases h4:k=4
   ·have g4:(k==4)=true:=beq_iff_eq.2 h4;by_cases hin:x∈L
    ·(have HM:=Hd (show moreL L ⟨k,x,y,z⟩=L from if_neg (fun c=>c.2 hin)));(have HC:=Hd (show decide (x∈L)=true from decide_eq_true hin));clear h4 hin;(go_wp2_with fail);refine (has_calls L x w.heap.size _ _ hln (hown.alloc _)).mono ?_;rintro e wn ⟨rfl,hwn⟩;subst hwn;rw [HC.out];go_wp2;go_roundw
     case rel=>exact⟨1,by omega,by go_num,by show World.ownsRow _ _ _ _ _ (moreL (varsN ⟨⟨k,x,y,z⟩,⟨k',x',y',z'⟩,⟨k'',x'',y'',z''⟩⟩ 0) ⟨k,x,y,z⟩).length (textCells (moreL (varsN ⟨⟨k,x,y,z⟩,⟨k',x',y',z'⟩,⟨k'',x'',y'',z''⟩⟩ 0) ⟨k,x,y,z⟩));rw [HL.out,HM.out];exact hown.alloc _,hbw.alloc hbw.size _⟩
     case measure=>simp [intOf]
    ·(have HM:=Hd (show moreL L ⟨k,x,y,z⟩=L++[x] from if_pos ⟨h4,hin⟩));(have HC:=Hd (show decide (x∈L)=false from decide_eq_false hin));clear h4 hin;(go_wp2_with fail);refine (has_calls L x w.heap.size _ _ hln (hown.alloc _)).mono ?_;rintro e wn ⟨rfl,hwn⟩;subst hwn;rw [HC.out];have hlen:=textCells_length L;have HLen:=Hd hlen;clear hlen;(go_wp2_with (at_builtin;go_must (refine wpList_append_own _ rfl (.tmp 21) (.tmp 24) 22 rfl w.heap.size 9 i0 (.string ⟨#[]⟩) 1 16 Tryz.underlying22 hi hz0 hz1 hz2 rfl (by decide) _ _ _ rfl ((hown.alloc _).alloc _) ⟨wr.heap.size+1,0,none⟩ 1 1 [.string (bs x)] rfl rfl (fun j u hu=>by (cases j with|zero=>(simp at hu;subst hu;simp [go_sem])|succ j=>simp at hu)) (by intro u hu;simp at hu;subst hu;rfl) (by unfold maxLen;omega) (by omega) (by have:=hbw.size;simp;omega) ?_;intro v3 w3 hown3 hgrow3 hnil3;have HN3:=Hd hnil3;clear hnil3;have HO3:=Hd hown3;clear hown3;have HG3:=Hd hgrow3;clear hgrow3)));have hmore:=named_more hown hbw HO3.out HG3.out (x:=x) HM.out;go_roundw
     case rel=>exact⟨1,by omega,by go_num,by show World.ownsRow _ _ _ _ _ (moreL (varsN ⟨⟨k,x,y,z⟩,⟨k',x',y',z'⟩,⟨k'',x'',y'',z''⟩⟩ 0) ⟨k,x,y,z⟩).length (textCells (moreL (varsN ⟨⟨k,x,y,z⟩,⟨k',x',y',z'⟩,⟨k'',x'',y'',z''⟩⟩ 0) ⟨k,x,y,z⟩));rw [HL.out];exact hmore.1,hmore.2⟩
     case measure=>simp [intOf]
   ·have g4:(k==4)=false:=beq_eq_false_iff_ne.2 h4;(have HM:=Hd (show moreL L ⟨k,x,y,z⟩=L from if_neg (fun c=>h4 c.1)));clear h4;go_wp2;go_roundw
    case rel=>exact⟨1,by omega,by go_num,by show World.ownsRow _ _ _ _ _ (moreL (varsN ⟨⟨k,x,y,z⟩,⟨k',x',y',z'⟩,⟨k'',x'',y'',z''⟩⟩ 0) ⟨k,x,y,z⟩).length (textCells (moreL (varsN ⟨⟨k,x,y,z⟩,⟨k',x',y',z'⟩,⟨k'',x'',y'',z''⟩⟩ 0) ⟨k,x,y,z⟩));rw [HL.out,HM.out];exact hown.alloc _,hbw.alloc hbw.size _⟩
    case measure=>simp [intOf]
  ·obtain⟨L,hL⟩:∃L,varsN ⟨⟨k,x,y,z⟩,⟨k',x',y',z'⟩,⟨k'',x'',y'',z''⟩⟩ 1=L:=⟨_,rfl⟩;rw [hL] at hown hln;have HL:=Hd hL;clear hL;have xi:=part_one (.int .i64 k) (.string (bs x)) (.string (bs y)) (.string (bs z)) (.int .i64 k') (.string (bs x')) (.string (bs y')) (.string (bs z')) (.int .i64 k'') (.string (bs x'')) (.string (bs y'')) (.string (bs z''));by_cases h4:k'=4
   ·have g4:(k'==4)=true:=beq_iff_eq.2 h4;by_cases hin:x'∈L
    ·(have HM:=Hd (show moreL L ⟨k',x',y',z'⟩=L from if_neg (fun c=>c.2 hin)));(have HC:=Hd (show decide (x'∈L)=true from decide_eq_true hin));clear h4 hin;(go_wp2_with fail);refine (has_calls L x' w.heap.size _ _ hln (hown.alloc _)).mono ?_;rintro e wn ⟨rfl,hwn⟩;subst hwn;rw [HC.out];go_wp2;go_roundw
     case rel=>exact⟨2,by omega,by go_num,by show World.ownsRow _ _ _ _ _ (moreL (varsN ⟨⟨k,x,y,z⟩,⟨k',x',y',z'⟩,⟨k'',x'',y'',z''⟩⟩ 1) ⟨k',x',y',z'⟩).length (textCells (moreL (varsN ⟨⟨k,x,y,z⟩,⟨k',x',y',z'⟩,⟨k'',x'',y'',z''⟩⟩ 1) ⟨k',x',y',z'⟩));rw [HL.out,HM.out];exact hown.alloc _,hbw.alloc hbw.size _⟩
     case measure=>simp [intOf]
    ·(have HM:=Hd (show moreL L ⟨k',x',y',z'⟩=L++[x'] from if_pos ⟨h4,hin⟩));(have HC:=Hd (show decide (x'∈L)=false from decide_eq_false hin));clear h4 hin;(go_wp2_with fail);refine (has_calls L x' w.heap.size _ _ hln (hown.alloc _)).mono ?_;rintro e wn ⟨rfl,hwn⟩;subst hwn;rw [HC.out];have hlen:=textCells_length L;have HLen:=Hd hlen;clear hlen;(go_wp2_with (at_builtin;go_must (refine wpList_append_own _ rfl (.tmp 21) (.tmp 24) 22 rfl w.heap.size 9 i0 (.string ⟨#[]⟩) 1 16 Tryz.underlying22 hi hz0 hz1 hz2 rfl (by decide) _ _ _ rfl ((hown.alloc _).alloc _) ⟨wr.heap.size+1,0,none⟩ 1 1 [.string (bs x')] rfl rfl (fun j u hu=>by (cases j with|zero=>(simp at hu;subst hu;simp [go_sem])|succ j=>simp at hu)) (by intro u hu;simp at hu;subst hu;rfl) (by unfold maxLen;omega) (by omega) (by have:=hbw.size;simp;omega) ?_;intro v3 w3 hown3 hgrow3 hnil3;have HN3:=Hd hnil3;clear hnil3;have HO3:=Hd hown3;clear hown3;have HG3:=Hd hgrow3;clear hgrow3)));have hmore:=named_more hown hbw HO3.out HG3.out (x:=x') HM.out;go_roundw
     case rel=>exact⟨2,by omega,by go_num,by show World.ownsRow _ _ _ _ _ (moreL (varsN ⟨⟨k,x,y,z⟩,⟨k',x',y',z'⟩,⟨k'',x'',y'',z''⟩⟩ 1) ⟨k',x',y',z'⟩).length (textCells (moreL (varsN ⟨⟨k,x,y,z⟩,⟨k',x',y',z'⟩,⟨k'',x'',y'',z''⟩⟩ 1) ⟨k',x',y',z'⟩));rw [HL.out];exact hmore.1,hmore.2⟩
     case measure=>simp [intOf]
   ·have g4:(k'==4)=false:=beq_eq_false_iff_ne.2 h4;(have HM:=Hd (show moreL L ⟨k',x',y',z'⟩=L from if_neg (fun c=>h4 c.1)));clear h4;go_wp2;go_roundw
    case rel=>exact⟨2,by omega,by go_num,by show World.ownsRow _ _ _ _ _ (moreL (varsN ⟨⟨k,x,y,z⟩,⟨k',x',y',z'⟩,⟨k'',x'',y'',z''⟩⟩ 1) ⟨k',x',y',z'⟩).length (textCells (moreL (varsN ⟨⟨k,x,y,z⟩,⟨k',x',y',z'⟩,⟨k'',x'',y'',z''⟩⟩ 1) ⟨k',x',y',z'⟩));rw [HL.out,HM.out];exact hown.alloc _,hbw.alloc hbw.size _⟩
    case measure=>simp [intOf]
  ·obtain⟨L,hL⟩:∃L,varsN ⟨⟨k,x,y,z⟩,⟨k',x',y',z'⟩,⟨k'',x'',y'',z''⟩⟩ 2=L:=⟨_,rfl⟩;rw [hL] at hown hln;have HL:=Hd hL;clear hL;have xi:=part_two (.int .i64 k) (.string (bs x)) (.string (bs y)) (.string (bs z)) (.int .i64 k') (.string (bs x')) (.string (bs y')) (.string (bs z')) (.int .i64 k'') (.string (bs x'')) (.string (bs y'')) (.string (bs z''));by_cases h4:k''=4
   ·have g4:(k''==4)=true:=beq_iff_eq.2 h4;by_cases hin:x''∈L
    ·(have HM:=Hd (show moreL L ⟨k'',x'',y'',z''⟩=L from if_neg (fun c=>c.2 hin)));(have HC:=Hd (show decide (x''∈L)=true from decide_eq_true hin));clear h4 hin;(go_wp2_with fail);refine (has_calls L x'' w.heap.size _ _ hln (hown.alloc _)).mono ?_;rintro e wn ⟨rfl,hwn⟩;subst hwn;rw [HC.out];go_wp2;go_roundw
     case rel=>exact⟨3,by omega,by go_num,by show World.ownsRow _ _ _ _ _ (moreL (varsN ⟨⟨k,x,y,z⟩,⟨k',x',y',z'⟩,⟨k'',x'',y'',z''⟩⟩ 2) ⟨k'',x'',y'',z''⟩).length (textCells (moreL (varsN ⟨⟨k,x,y,z⟩,⟨k',x',y',z'⟩,⟨k'',x'',y'',z''⟩⟩ 2) ⟨k'',x'',y'',z''⟩));rw [HL.out,HM.out];exact hown.alloc _,hbw.alloc hbw.size _⟩
     case measure=>simp [intOf]
    ·(have HM:=Hd (show moreL L ⟨k'',x'',y'',z''⟩=L++[x''] from if_pos ⟨h4,hin⟩));(have HC:=Hd (show decide (x''∈L)=false from decide_eq_false hin));clear h4 hin;(go_wp2_with fail);refine (has_calls L x'' w.heap.size _ _ hln (hown.alloc _)).mono ?_;rintro e wn ⟨rfl,hwn⟩;subst hwn;rw [HC.out];have hlen:=textCells_length L;have HLen:=Hd hlen;clear hlen;(go_wp2_with (at_builtin;go_must (refine wpList_append_own _ rfl (.tmp 21) (.tmp 24) 22 rfl w.heap.size 9 i0 (.string ⟨#[]⟩) 1 16 Tryz.underlying22 hi hz0 hz1 hz2 rfl (by decide) _ _ _ rfl ((hown.alloc _).alloc _) ⟨wr.heap.size+1,0,none⟩ 1 1 [.string (bs x'')] rfl rfl (fun j u hu=>by (cases j with|zero=>(simp at hu;subst hu;simp [go_sem])|succ j=>simp at hu)) (by intro u hu;simp at hu;subst hu;rfl) (by unfold maxLen;omega) (by omega) (by have:=hbw.size;simp;omega) ?_;intro v3 w3 hown3 hgrow3 hnil3;have HN3:=Hd hnil3;clear hnil3;have HO3:=Hd hown3;clear hown3;have HG3:=Hd hgrow3;clear hgrow3)));have hmore:=named_more hown hbw HO3.out HG3.out (x:=x'') HM.out;go_roundw
     case rel=>exact⟨3,by omega,by go_num,by show World.ownsRow _ _ _ _ _ (moreL (varsN ⟨⟨k,x,y,z⟩,⟨k',x',y',z'⟩,⟨k'',x'',y'',z''⟩⟩ 2) ⟨k'',x'',y'',z''⟩).length (textCells (moreL (varsN ⟨⟨k,x,y,z⟩,⟨k',x',y',z'⟩,⟨k'',x'',y'',z''⟩⟩ 2) ⟨k'',x'',y'',z''⟩));rw [HL.out];exact hmore.1,hmore.2⟩
     case measure=>simp [intOf]
   ·have g4:(k''==4)=false:=beq_eq_false_iff_ne.2 h4;(have HM:=Hd (show moreL L ⟨k'',x'',y'',z''⟩=L from if_neg (fun c=>h4 c.1)));clear h4;go_wp2;go_roundw
    case rel=>exact⟨3,by omega,by go_num,by show World.ownsRow _ _ _ _ _ (moreL (varsN ⟨⟨k,x,y,z⟩,⟨k',x',y',z'⟩,⟨k'',x'',y'',z''⟩⟩ 2) ⟨k'',x'',y'',z''⟩).length (textCells (moreL (varsN ⟨⟨k,x,y,z⟩,⟨k',x',y',z'⟩,⟨k'',x'',y'',z''⟩⟩ 2) ⟨k'',x'',y'',z''⟩));rw [HL.out,HM.out];exact hown.alloc _,hbw.alloc hbw.size _⟩
    case measure=>simp [intOf]
  ·go_wp2;refine bodyPost_ret (v:=_) (by simp [results,Tryz.results231,go_sem]) rfl ⟨_,rfl,hown,hbw⟩
end
section
open Go.RowKit
def Reads (w:World) (v:Value) (n:Nat) (xs:List Value):Prop :=
  (v=.slice none 0 0∧n=0)∨∃g cap,v=.slice (some ⟨g,0,none⟩) n cap∧g<w.heap.size∧n≤cap∧cap≤maxLen∧∀j u,xs[j]?=some u→w.cell? ⟨g,j,none⟩=some u
theorem reads_of {w:World} {B size:Nat} {e:TypeId} {v:Value} {n:Nat} {xs:List Value} (h:w.ownsRow B e size v n xs):Reads w v n xs:=by
  rcases h.2 with h0|⟨g,cap,cur,hv,hg,hh,hn,hm,_⟩
  · exact .inl h0
  · refine .inr ⟨g,cap,hv,(Array.getElem?_eq_some_iff.1 hh).1,hn,hm,fun j u hj=>?_⟩
    have:=h.cells (g:=g) (by rw [hv];rfl) j u hj
    cases j with
    | zero=>simpa [Addr.add] using this
    | succ j=>simpa [Addr.add] using this
theorem Reads.on {w w':World} {v:Value} {n:Nat} {xs:List Value} (h:Reads w v n xs) (hb:Below w.heap.size w w'):Reads w' v n xs:=by
  rcases h with h0|⟨g,cap,hv,hg,hn,hm,hc⟩
  · exact .inl h0
  · exact .inr ⟨g,cap,hv,Nat.lt_of_lt_of_le hg hb.size,hn,hm,fun j u hj=>by rw [hb.cell (p:=⟨g,j,none⟩) hg];exact hc j u hj⟩
end
end Go.Proofs.YtjpfoophipcglaaGreatDoor
