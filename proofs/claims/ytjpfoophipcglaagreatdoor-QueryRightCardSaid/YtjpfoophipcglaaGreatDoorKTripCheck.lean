/- Whether a triple's terms are of the kinds that may stand at their places, and right: package triples' check. -/
import Derived.Test.YtjpfoophipcglaaGreatDoorKTermOrders
import Derived.Deep.QuietTactic
import Derived.Deep.RegionHeld3
import Derived.BigQuiet
namespace Go.Proofs.YtjpfoophipcglaaGreatDoor
set_option maxRecDepth 100000
set_option maxHeartbeats 8000000
section
open Go.RowKit
theorem kept1 {W W':World} {p:Addr} {v:Value} (h:W.cell? p=some v) (hb:Below W.heap.size W W') (hp:p.block<W.heap.size):W'.cell? p=some v:=by rw [hb.cell hp];exact h
theorem kept4 {W W':World} {B:Nat} {a b c d:Value} (h:W.cell? ⟨B,0,none⟩=some a∧W.cell? ⟨B,1,none⟩=some b∧W.cell? ⟨B,2,none⟩=some c∧W.cell? ⟨B,3,none⟩=some d) (hb:Below W.heap.size W W') (hp:B<W.heap.size):W'.cell? ⟨B,0,none⟩=some a∧W'.cell? ⟨B,1,none⟩=some b∧W'.cell? ⟨B,2,none⟩=some c∧W'.cell? ⟨B,3,none⟩=some d :=
  ⟨kept1 h.1 hb hp,kept1 h.2.1 hb hp,kept1 h.2.2.1 hb hp,kept1 h.2.2.2 hb hp⟩
theorem from_drew {W W':World} (h:Below W.drew.heap.size W.drew W'):Below W.heap.size W W':=(Below.refl W.heap.size W).drew.trans h
theorem first_below {W W' W'':World} (h:Below W.heap.size W W') (h':Below W'.heap.size W' W''):Below W.heap.size W W'':=h.trans (h'.mono h.size)
theorem no_kind {K:List Int} {k:Int} {x y z:List UInt8} (h:K.contains k=false):placeB K ⟨k,x,y,z⟩=false:=by unfold placeB;rw [h];rfl
theorem no_right {K:List Int} {k:Int} {x y z:List UInt8} (h:rightL k x y z=false):placeB K ⟨k,x,y,z⟩=false:=by unfold placeB TermL.right;rw [h];exact Bool.and_false _
theorem no_zero {K0 K1 K2:List Int} {a b c:TermL} (h:placeB K0 a=false):checkB K0 K1 K2 ⟨a,b,c⟩=false:=by unfold checkB;rw [h];rfl
theorem no_one {K0 K1 K2:List Int} {a b c:TermL} (h:placeB K1 b=false):checkB K0 K1 K2 ⟨a,b,c⟩=false:=by unfold checkB;rw [h];exact Bool.and_false _
theorem no_two {K0 K1 K2:List Int} {a b c:TermL} (h:placeB K2 c=false):checkB K0 K1 K2 ⟨a,b,c⟩=false:=by unfold checkB;rw [h,Bool.and_false];exact Bool.and_false _
def Looked (W2:World) (c0 c1 c2:Bool) (i:Value) (wr:World):Prop :=
  ∃n:Nat,n≤3∧i=.int .i64 n∧Below W2.heap.size W2 wr∧(1≤n→c0=true)∧(2≤n→c1=true)∧(3≤n→c2=true)
theorem part_zero (a b c d e f g h i j k l:Value) (w:World):(Instr.index 259 (.agg #[a,b,c,d,e,f,g,h,i,j,k,l]) (.int .i64 0)).run Tryz.prog w=.ok (.agg #[a,b,c,d]) w:=by kernel_rfl
theorem part_one (a b c d e f g h i j k l:Value) (w:World):(Instr.index 259 (.agg #[a,b,c,d,e,f,g,h,i,j,k,l]) (.int .i64 1)).run Tryz.prog w=.ok (.agg #[e,f,g,h]) w:=by kernel_rfl
theorem part_two (a b c d e f g h i j k l:Value) (w:World):(Instr.index 259 (.agg #[a,b,c,d,e,f,g,h,i,j,k,l]) (.int .i64 2)).run Tryz.prog w=.ok (.agg #[i,j,k,l]) w:=by kernel_rfl
theorem contains_calls (K:List Int) (b:Nat) (k:Int) (W:World) (l:K.length≤3) (hK:∀j,j<K.length→W.cell? ⟨b,0+j,none⟩=some (.int .i64 (K.getD j 0))):Calls Tryz.prog 256 #[.slice (some ⟨b,0,none⟩) K.length K.length,.int .i64 k] W fun e w'=>e=.returned (.bool (K.contains k))∧w'=W:=by
  have:=Tryz.slices_Contains_int b 0 K.length K.length K k W (Nat.le_refl _) (by omega) hK
  rwa [List.take_of_length_le (Nat.le_refl _)] at this
theorem check_calls (t:TripL) (ht:t.ok) (b0 b1 b2:Nat) (K0 K1 K2:List Int) (w:World) (l0:K0.length≤3) (l1:K1.length≤3) (l2:K2.length≤3) (hc0:∀j,j<K0.length→w.cell? ⟨b0,0+j,none⟩=some (.int .i64 (K0.getD j 0))) (hc1:∀j,j<K1.length→w.cell? ⟨b1,0+j,none⟩=some (.int .i64 (K1.getD j 0))) (hc2:∀j,j<K2.length→w.cell? ⟨b2,0+j,none⟩=some (.int .i64 (K2.getD j 0))) (hb0:b0<w.heap.size) (hb1:b1<w.heap.size) (hb2:b2<w.heap.size):Calls Tryz.prog 221 #[t.v,.agg #[.slice (some ⟨b0,0,none⟩) K0.length K0.length,.slice (some ⟨b1,0,none⟩) K1.length K1.length,.slice (some ⟨b2,0,none⟩) K2.length K2.length]] w fun e w'=>e=.returned (.int .i64 (formZ (checkB K0 K1 K2 t)))∧Below w.heap.size w w':=by
 obtain⟨⟨k,x,y,z⟩,⟨k',x',y',z'⟩,⟨k'',x'',y'',z''⟩⟩:=t;have HTT:=Hd ht;have H0:=Hd hc0;have H1:=Hd hc1;have H2:=Hd hc2;clear ht hc0 hc1 hc2;(simp only [TripL.v]);(go_enter Tryz.func221,Tryz.ntmps221);(go_wp2_with fail);refine (terms_calls _ _ _ _ _ _ _ _ _ _ _ _ _).mono ?_;rintro e w1 ⟨rfl,hb1'⟩;(go_wp2_with fail);obtain⟨W2,hW2⟩:∃W2,((w.alloc (.cells #[.int .i64 k,.string (bs x),.string (bs y),.string (bs z),.int .i64 k',.string (bs x'),.string (bs y'),.string (bs z'),.int .i64 k'',.string (bs x''),.string (bs y''),.string (bs z'')] 146)).alloc (.cells #[.slice (some ⟨b0,0,none⟩) K0.length K0.length,.slice (some ⟨b1,0,none⟩) K1.length K1.length,.slice (some ⟨b2,0,none⟩) K2.length K2.length] 241))=W2:=⟨_,rfl⟩;rw [hW2] at hb1';(have hs2:W2.heap.size=w.heap.size+2:=by rw [←hW2];simp);(have q0:W2.cell? ⟨w.heap.size+1,0,none⟩=some (.slice (some ⟨b0,0,none⟩) K0.length K0.length):=by rw [←hW2];simp [go_sem]);(have q1:W2.cell? ⟨w.heap.size+1,1,none⟩=some (.slice (some ⟨b1,0,none⟩) K1.length K1.length):=by rw [←hW2];simp [go_sem]);(have q2:W2.cell? ⟨w.heap.size+1,2,none⟩=some (.slice (some ⟨b2,0,none⟩) K2.length K2.length):=by rw [←hW2];simp [go_sem]);(have hb:Below w.heap.size w W2:=by rw [←hW2];exact two_alloc _ _ _);have HS2:=Hd hs2;have Q0:=Hd q0;have Q1:=Hd q1;have Q2:=Hd q2;clear hW2 hs2 q0 q1 q2;go_loopw [9] (fun i wr=>Looked W2 (placeB K0 ⟨k,x,y,z⟩) (placeB K1 ⟨k',x',y',z'⟩) (placeB K2 ⟨k'',x'',y'',z''⟩) i wr) (fun i _=>3-(intOf i).toNat)
 case atStart=>exact⟨0,by omega,rfl,hb1',fun h=>by omega,fun h=>by omega,fun h=>by omega⟩
 case round =>
  obtain⟨n,hn,rfl,hbw,p0,p1,p2⟩:=hrel;(have hsz:w.heap.size+1<wr.heap.size:=by have:=hbw.size;have:=HS2.out;omega);rcases (by omega:n=0∨n=1∨n=2∨n=3) with rfl|rfl|rfl|rfl
  ·(have q:wr.cell? ⟨w.heap.size+1,0,none⟩=some (.slice (some ⟨b0,0,none⟩) K0.length K0.length):=by rw [hbw.cell (p:=⟨w.heap.size+1,0,none⟩) (by rw [HS2.out];show w.heap.size+1<_;omega)];exact Q0.out);have xi:=part_zero (.int .i64 k) (.string (bs x)) (.string (bs y)) (.string (bs z)) (.int .i64 k') (.string (bs x')) (.string (bs y')) (.string (bs z')) (.int .i64 k'') (.string (bs x'')) (.string (bs y'')) (.string (bs z''));have hK:∀j,j<K0.length→wr.cell? ⟨b0,0+j,none⟩=some (.int .i64 (K0.getD j 0)):=fun j hj=>by
    rw [hbw.cell (p:=⟨b0,0+j,none⟩) (by rw [HS2.out];show b0<_;omega),hb.cell (p:=⟨b0,0+j,none⟩) (by show b0<_;omega)];exact H0.out j hj
   have HT:=Hd HTT.out.1;(go_wp2_with fail);obtain⟨W3,hW3⟩:∃W3,wr.alloc (.cells #[.int .i64 k,.string (bs x),.string (bs y),.string (bs z)] 67)=W3:=⟨_,rfl⟩;rw [hW3];(have hz3:W3.heap.size=wr.heap.size+1:=by rw [←hW3];simp);(have t0:W3.cell? ⟨wr.heap.size,0,none⟩=some (.int .i64 k):=by rw [←hW3];simp [go_sem]);(have t1:W3.cell? ⟨wr.heap.size,1,none⟩=some (.string (bs x)):=by rw [←hW3];simp [go_sem]);(have t2:W3.cell? ⟨wr.heap.size,2,none⟩=some (.string (bs y)):=by rw [←hW3];simp [go_sem]);(have t3:W3.cell? ⟨wr.heap.size,3,none⟩=some (.string (bs z)):=by rw [←hW3];simp [go_sem]);(have hb3:Below W2.heap.size W2 W3:=by rw [←hW3];exact hbw.alloc hbw.size _);(replace q:=kept1 q (show Below wr.heap.size wr W3 by rw [←hW3];exact box_below _ _) (by simp;omega));(have HK:=Hd (show ∀j,j<K0.length→W3.cell? ⟨b0,0+j,none⟩=some (.int .i64 (K0.getD j 0)) from fun j hj=>kept1 (hK j hj) (show Below wr.heap.size wr W3 by rw [←hW3];exact box_below _ _) (by have:=hbw.size;have:=HS2.out;show b0<_;omega)));(have hz4:wr.heap.size<W3.heap.size:=by omega);(have hz5:w.heap.size+1<W3.heap.size:=by omega);clear hW3 hz3 hK xi;cases hcon:K0.contains k with
   | false =>
     have HC:=Hd hcon;(have BAD:=Hd (show checkB K0 K1 K2 ⟨⟨k,x,y,z⟩,⟨k',x',y',z'⟩,⟨k'',x'',y'',z''⟩⟩=false from no_zero (no_kind hcon)));clear hcon;refine wp_region_held_drew (S:=(fun W=>W.cell? ⟨w.heap.size+1,0,none⟩=some (.slice (some ⟨b0,0,none⟩) K0.length K0.length)∧W.cell? ⟨wr.heap.size,0,none⟩=some (.int .i64 k)∧W.cell? ⟨wr.heap.size,1,none⟩=some (.string (bs x))∧W.cell? ⟨wr.heap.size,2,none⟩=some (.string (bs y))∧W.cell? ⟨wr.heap.size,3,none⟩=some (.string (bs z)))) (by kernel_rfl) ?_ (fun hHeld=>?_)
     ·(try dsimp only);go_keep
     refine tkC 0 ?_;refine tkC 1 ?_;refine tkC 2 ?_;refine tkC 3 ?_;refine tkC 4 ?_;(refine rdA 5 fun K hK=>?_);go_simp;refine (contains_calls K0 b0 k _ l0 ?_).mono ?_
     ·intro j hj;first|exact HK.out j hj|(simp only [World.cell?_drew];exact HK.out j hj)
     rintro e wn ⟨rfl,hwn⟩;subst hwn;rw [HC.out];(go_wp2_with fail);refine hK.out _ _ ?_ (fun hHeld=>?_)
     ·(try dsimp only);go_keep
     clear hK K;(try simp only [Act.put,sb,sz,ss]);refine tkC 6 ?_;refine tkC 7 ?_;refine skC 8 ?_;refine skC 9 ?_;refine skC 10 ?_;refine tkA 11 24 ?_;refine dnA ?_;go_wp2;go_ret;exact⟨by rw [BAD.out];rfl,by first|exact hb.trans (hb3.mono hb.size)|exact hb.trans (hb3.mono hb.size).drew⟩
   | true =>
     cases hri:rightL k x y z with
     | false =>
       have HC:=Hd hcon;have HR:=Hd hri;(have BAD:=Hd (show checkB K0 K1 K2 ⟨⟨k,x,y,z⟩,⟨k',x',y',z'⟩,⟨k'',x'',y'',z''⟩⟩=false from no_zero (no_right hri)));clear hcon hri;refine wp_region_held_drew (S:=(fun W=>W.cell? ⟨w.heap.size+1,0,none⟩=some (.slice (some ⟨b0,0,none⟩) K0.length K0.length)∧W.cell? ⟨wr.heap.size,0,none⟩=some (.int .i64 k)∧W.cell? ⟨wr.heap.size,1,none⟩=some (.string (bs x))∧W.cell? ⟨wr.heap.size,2,none⟩=some (.string (bs y))∧W.cell? ⟨wr.heap.size,3,none⟩=some (.string (bs z)))) (by kernel_rfl) ?_ (fun hHeld=>?_)
       ·(try dsimp only);go_keep
       refine tkC 0 ?_;refine tkC 1 ?_;refine tkC 2 ?_;refine tkC 3 ?_;refine tkC 4 ?_;(refine rdA 5 fun K hK=>?_);go_simp;refine (contains_calls K0 b0 k _ l0 ?_).mono ?_
       ·intro j hj;first|exact HK.out j hj|(simp only [World.cell?_drew];exact HK.out j hj)
       rintro e wn ⟨rfl,hwn⟩;subst hwn;rw [HC.out];(go_wp2_with fail);refine hK.out _ _ ?_ (fun hHeld=>?_)
       ·(try dsimp only);go_keep
       clear hK K;(try simp only [Act.put,sb,sz,ss]);refine tkC 6 ?_;refine tkC 7 ?_;refine tkC 8 ?_;(refine rdA 9 fun K hK=>?_);go_simp;refine (Check_calls k (bs x) (bs y) (bs z) _ HT.out.1 HT.out.2.1 HT.out.2.2).mono ?_;rintro e wn ⟨rfl,hbn⟩;(simp only [bs_data]);rw [HR.out];(simp only [formZ]);replace hbn:=from_drew hbn;replace hb3:=(first_below hb3 hbn);(obtain⟨t0,t1,t2,t3⟩:=kept4 ⟨t0,t1,t2,t3⟩ hbn (by first|omega|(simp;omega)));(replace q:=kept1 q hbn (by first|omega|(simp;omega)));clear hbn;(go_wp2_with fail);refine hK.out _ _ ?_ (fun hHeld=>?_)
       ·(try dsimp only);go_keep
       clear hK K;(try simp only [Act.put,sb,sz,ss]);refine tkC 10 ?_;refine tkA 11 24 ?_;refine dnA ?_;go_wp2;go_ret;exact⟨by rw [BAD.out];rfl,by first|exact hb.trans (hb3.mono hb.size)|exact hb.trans (hb3.mono hb.size).drew⟩
     | true =>
       have HC:=Hd hcon;have HR:=Hd hri;(have GOOD:=Hd (show (placeB K0 ⟨k,x,y,z⟩)=true by simp only [placeB,TermL.right,hcon,hri,Bool.and_self]));clear hcon hri;refine wp_region_held_drew (S:=(fun W=>W.cell? ⟨w.heap.size+1,0,none⟩=some (.slice (some ⟨b0,0,none⟩) K0.length K0.length)∧W.cell? ⟨wr.heap.size,0,none⟩=some (.int .i64 k)∧W.cell? ⟨wr.heap.size,1,none⟩=some (.string (bs x))∧W.cell? ⟨wr.heap.size,2,none⟩=some (.string (bs y))∧W.cell? ⟨wr.heap.size,3,none⟩=some (.string (bs z)))) (by kernel_rfl) ?_ (fun hHeld=>?_)
       ·(try dsimp only);go_keep
       refine tkC 0 ?_;refine tkC 1 ?_;refine tkC 2 ?_;refine tkC 3 ?_;refine tkC 4 ?_;(refine rdA 5 fun K hK=>?_);go_simp;refine (contains_calls K0 b0 k _ l0 ?_).mono ?_
       ·intro j hj;first|exact HK.out j hj|(simp only [World.cell?_drew];exact HK.out j hj)
       rintro e wn ⟨rfl,hwn⟩;subst hwn;rw [HC.out];(go_wp2_with fail);refine hK.out _ _ ?_ (fun hHeld=>?_)
       ·(try dsimp only);go_keep
       clear hK K;(try simp only [Act.put,sb,sz,ss]);refine tkC 6 ?_;refine tkC 7 ?_;refine tkC 8 ?_;(refine rdA 9 fun K hK=>?_);go_simp;refine (Check_calls k (bs x) (bs y) (bs z) _ HT.out.1 HT.out.2.1 HT.out.2.2).mono ?_;rintro e wn ⟨rfl,hbn⟩;(simp only [bs_data]);rw [HR.out];(simp only [formZ]);replace hbn:=from_drew hbn;replace hb3:=(first_below hb3 hbn);(obtain⟨t0,t1,t2,t3⟩:=kept4 ⟨t0,t1,t2,t3⟩ hbn (by first|omega|(simp;omega)));(replace q:=kept1 q hbn (by first|omega|(simp;omega)));clear hbn;(go_wp2_with fail);refine hK.out _ _ ?_ (fun hHeld=>?_)
       ·(try dsimp only);go_keep
       clear hK K;(try simp only [Act.put,sb,sz,ss]);refine tkC 10 ?_;refine tkA 11 24 ?_;refine dnA ?_;go_wp2;go_roundw
       case rel=>exact⟨1,by omega,by go_num,by first|exact hb3|exact hb3.drew,fun _=>GOOD.out,fun h=>by omega,fun h=>by omega⟩
       case measure=>simp [intOf]
  ·(have q:wr.cell? ⟨w.heap.size+1,1,none⟩=some (.slice (some ⟨b1,0,none⟩) K1.length K1.length):=by rw [hbw.cell (p:=⟨w.heap.size+1,1,none⟩) (by rw [HS2.out];show w.heap.size+1<_;omega)];exact Q1.out);have xi:=part_one (.int .i64 k) (.string (bs x)) (.string (bs y)) (.string (bs z)) (.int .i64 k') (.string (bs x')) (.string (bs y')) (.string (bs z')) (.int .i64 k'') (.string (bs x'')) (.string (bs y'')) (.string (bs z''));have hK:∀j,j<K1.length→wr.cell? ⟨b1,0+j,none⟩=some (.int .i64 (K1.getD j 0)):=fun j hj=>by
    rw [hbw.cell (p:=⟨b1,0+j,none⟩) (by rw [HS2.out];show b1<_;omega),hb.cell (p:=⟨b1,0+j,none⟩) (by show b1<_;omega)];exact H1.out j hj
   have HT:=Hd HTT.out.2.1;(go_wp2_with fail);obtain⟨W3,hW3⟩:∃W3,wr.alloc (.cells #[.int .i64 k',.string (bs x'),.string (bs y'),.string (bs z')] 67)=W3:=⟨_,rfl⟩;rw [hW3];(have hz3:W3.heap.size=wr.heap.size+1:=by rw [←hW3];simp);(have t0:W3.cell? ⟨wr.heap.size,0,none⟩=some (.int .i64 k'):=by rw [←hW3];simp [go_sem]);(have t1:W3.cell? ⟨wr.heap.size,1,none⟩=some (.string (bs x')):=by rw [←hW3];simp [go_sem]);(have t2:W3.cell? ⟨wr.heap.size,2,none⟩=some (.string (bs y')):=by rw [←hW3];simp [go_sem]);(have t3:W3.cell? ⟨wr.heap.size,3,none⟩=some (.string (bs z')):=by rw [←hW3];simp [go_sem]);(have hb3:Below W2.heap.size W2 W3:=by rw [←hW3];exact hbw.alloc hbw.size _);(replace q:=kept1 q (show Below wr.heap.size wr W3 by rw [←hW3];exact box_below _ _) (by simp;omega));(have HK:=Hd (show ∀j,j<K1.length→W3.cell? ⟨b1,0+j,none⟩=some (.int .i64 (K1.getD j 0)) from fun j hj=>kept1 (hK j hj) (show Below wr.heap.size wr W3 by rw [←hW3];exact box_below _ _) (by have:=hbw.size;have:=HS2.out;show b1<_;omega)));(have hz4:wr.heap.size<W3.heap.size:=by omega);(have hz5:w.heap.size+1<W3.heap.size:=by omega);clear hW3 hz3 hK xi;cases hcon:K1.contains k' with
   | false =>
     have HC:=Hd hcon;(have BAD:=Hd (show checkB K0 K1 K2 ⟨⟨k,x,y,z⟩,⟨k',x',y',z'⟩,⟨k'',x'',y'',z''⟩⟩=false from no_one (no_kind hcon)));clear hcon;refine wp_region_held_drew (S:=(fun W=>W.cell? ⟨w.heap.size+1,1,none⟩=some (.slice (some ⟨b1,0,none⟩) K1.length K1.length)∧W.cell? ⟨wr.heap.size,0,none⟩=some (.int .i64 k')∧W.cell? ⟨wr.heap.size,1,none⟩=some (.string (bs x'))∧W.cell? ⟨wr.heap.size,2,none⟩=some (.string (bs y'))∧W.cell? ⟨wr.heap.size,3,none⟩=some (.string (bs z')))) (by kernel_rfl) ?_ (fun hHeld=>?_)
     ·(try dsimp only);go_keep
     refine tkC 0 ?_;refine tkC 1 ?_;refine tkC 2 ?_;refine tkC 3 ?_;refine tkC 4 ?_;(refine rdA 5 fun K hK=>?_);go_simp;refine (contains_calls K1 b1 k' _ l1 ?_).mono ?_
     ·intro j hj;first|exact HK.out j hj|(simp only [World.cell?_drew];exact HK.out j hj)
     rintro e wn ⟨rfl,hwn⟩;subst hwn;rw [HC.out];(go_wp2_with fail);refine hK.out _ _ ?_ (fun hHeld=>?_)
     ·(try dsimp only);go_keep
     clear hK K;(try simp only [Act.put,sb,sz,ss]);refine tkC 6 ?_;refine tkC 7 ?_;refine skC 8 ?_;refine skC 9 ?_;refine skC 10 ?_;refine tkA 11 24 ?_;refine dnA ?_;go_wp2;go_ret;exact⟨by rw [BAD.out];rfl,by first|exact hb.trans (hb3.mono hb.size)|exact hb.trans (hb3.mono hb.size).drew⟩
   | true =>
     cases hri:rightL k' x' y' z' with
     | false =>
       have HC:=Hd hcon;have HR:=Hd hri;(have BAD:=Hd (show checkB K0 K1 K2 ⟨⟨k,x,y,z⟩,⟨k',x',y',z'⟩,⟨k'',x'',y'',z''⟩⟩=false from no_one (no_right hri)));clear hcon hri;refine wp_region_held_drew (S:=(fun W=>W.cell? ⟨w.heap.size+1,1,none⟩=some (.slice (some ⟨b1,0,none⟩) K1.length K1.length)∧W.cell? ⟨wr.heap.size,0,none⟩=some (.int .i64 k')∧W.cell? ⟨wr.heap.size,1,none⟩=some (.string (bs x'))∧W.cell? ⟨wr.heap.size,2,none⟩=some (.string (bs y'))∧W.cell? ⟨wr.heap.size,3,none⟩=some (.string (bs z')))) (by kernel_rfl) ?_ (fun hHeld=>?_)
       ·(try dsimp only);go_keep
       refine tkC 0 ?_;refine tkC 1 ?_;refine tkC 2 ?_;refine tkC 3 ?_;refine tkC 4 ?_;(refine rdA 5 fun K hK=>?_);go_simp;refine (contains_calls K1 b1 k' _ l1 ?_).mono ?_
       ·intro j hj;first|exact HK.out j hj|(simp only [World.cell?_drew];exact HK.out j hj)
       rintro e wn ⟨rfl,hwn⟩;subst hwn;rw [HC.out];(go_wp2_with fail);refine hK.out _ _ ?_ (fun hHeld=>?_)
       ·(try dsimp only);go_keep
       clear hK K;(try simp only [Act.put,sb,sz,ss]);refine tkC 6 ?_;refine tkC 7 ?_;refine tkC 8 ?_;(refine rdA 9 fun K hK=>?_);go_simp;refine (Check_calls k' (bs x') (bs y') (bs z') _ HT.out.1 HT.out.2.1 HT.out.2.2).mono ?_;rintro e wn ⟨rfl,hbn⟩;(simp only [bs_data]);rw [HR.out];(simp only [formZ]);replace hbn:=from_drew hbn;replace hb3:=(first_below hb3 hbn);(obtain⟨t0,t1,t2,t3⟩:=kept4 ⟨t0,t1,t2,t3⟩ hbn (by first|omega|(simp;omega)));(replace q:=kept1 q hbn (by first|omega|(simp;omega)));clear hbn;(go_wp2_with fail);refine hK.out _ _ ?_ (fun hHeld=>?_)
       ·(try dsimp only);go_keep
       clear hK K;(try simp only [Act.put,sb,sz,ss]);refine tkC 10 ?_;refine tkA 11 24 ?_;refine dnA ?_;go_wp2;go_ret;exact⟨by rw [BAD.out];rfl,by first|exact hb.trans (hb3.mono hb.size)|exact hb.trans (hb3.mono hb.size).drew⟩
     | true =>
       have HC:=Hd hcon;have HR:=Hd hri;(have GOOD:=Hd (show (placeB K1 ⟨k',x',y',z'⟩)=true by simp only [placeB,TermL.right,hcon,hri,Bool.and_self]));clear hcon hri;refine wp_region_held_drew (S:=(fun W=>W.cell? ⟨w.heap.size+1,1,none⟩=some (.slice (some ⟨b1,0,none⟩) K1.length K1.length)∧W.cell? ⟨wr.heap.size,0,none⟩=some (.int .i64 k')∧W.cell? ⟨wr.heap.size,1,none⟩=some (.string (bs x'))∧W.cell? ⟨wr.heap.size,2,none⟩=some (.string (bs y'))∧W.cell? ⟨wr.heap.size,3,none⟩=some (.string (bs z')))) (by kernel_rfl) ?_ (fun hHeld=>?_)
       ·(try dsimp only);go_keep
       refine tkC 0 ?_;refine tkC 1 ?_;refine tkC 2 ?_;refine tkC 3 ?_;refine tkC 4 ?_;(refine rdA 5 fun K hK=>?_);go_simp;refine (contains_calls K1 b1 k' _ l1 ?_).mono ?_
       ·intro j hj;first|exact HK.out j hj|(simp only [World.cell?_drew];exact HK.out j hj)
       rintro e wn ⟨rfl,hwn⟩;subst hwn;rw [HC.out];(go_wp2_with fail);refine hK.out _ _ ?_ (fun hHeld=>?_)
       ·(try dsimp only);go_keep
       clear hK K;(try simp only [Act.put,sb,sz,ss]);refine tkC 6 ?_;refine tkC 7 ?_;refine tkC 8 ?_;(refine rdA 9 fun K hK=>?_);go_simp;refine (Check_calls k' (bs x') (bs y') (bs z') _ HT.out.1 HT.out.2.1 HT.out.2.2).mono ?_;rintro e wn ⟨rfl,hbn⟩;(simp only [bs_data]);rw [HR.out];(simp only [formZ]);replace hbn:=from_drew hbn;replace hb3:=(first_below hb3 hbn);(obtain⟨t0,t1,t2,t3⟩:=kept4 ⟨t0,t1,t2,t3⟩ hbn (by first|omega|(simp;omega)));(replace q:=kept1 q hbn (by first|omega|(simp;omega)));clear hbn;(go_wp2_with fail);refine hK.out _ _ ?_ (fun hHeld=>?_)
       ·(try dsimp only);go_keep
       clear hK K;(try simp only [Act.put,sb,sz,ss]);refine tkC 10 ?_;refine tkA 11 24 ?_;refine dnA ?_;go_wp2;go_roundw
       case rel=>exact⟨2,by omega,by go_num,by first|exact hb3|exact hb3.drew,fun _=>p0 (by omega),fun _=>GOOD.out,fun h=>by omega⟩
       case measure=>simp [intOf]
  ·(have q:wr.cell? ⟨w.heap.size+1,2,none⟩=some (.slice (some ⟨b2,0,none⟩) K2.length K2.length):=by rw [hbw.cell (p:=⟨w.heap.size+1,2,none⟩) (by rw [HS2.out];show w.heap.size+1<_;omega)];exact Q2.out);have xi:=part_two (.int .i64 k) (.string (bs x)) (.string (bs y)) (.string (bs z)) (.int .i64 k') (.string (bs x')) (.string (bs y')) (.string (bs z')) (.int .i64 k'') (.string (bs x'')) (.string (bs y'')) (.string (bs z''));have hK:∀j,j<K2.length→wr.cell? ⟨b2,0+j,none⟩=some (.int .i64 (K2.getD j 0)):=fun j hj=>by
    rw [hbw.cell (p:=⟨b2,0+j,none⟩) (by rw [HS2.out];show b2<_;omega),hb.cell (p:=⟨b2,0+j,none⟩) (by show b2<_;omega)];exact H2.out j hj
   have HT:=Hd HTT.out.2.2;(go_wp2_with fail);obtain⟨W3,hW3⟩:∃W3,wr.alloc (.cells #[.int .i64 k'',.string (bs x''),.string (bs y''),.string (bs z'')] 67)=W3:=⟨_,rfl⟩;rw [hW3];(have hz3:W3.heap.size=wr.heap.size+1:=by rw [←hW3];simp);(have t0:W3.cell? ⟨wr.heap.size,0,none⟩=some (.int .i64 k''):=by rw [←hW3];simp [go_sem]);(have t1:W3.cell? ⟨wr.heap.size,1,none⟩=some (.string (bs x'')):=by rw [←hW3];simp [go_sem]);(have t2:W3.cell? ⟨wr.heap.size,2,none⟩=some (.string (bs y'')):=by rw [←hW3];simp [go_sem]);(have t3:W3.cell? ⟨wr.heap.size,3,none⟩=some (.string (bs z'')):=by rw [←hW3];simp [go_sem]);(have hb3:Below W2.heap.size W2 W3:=by rw [←hW3];exact hbw.alloc hbw.size _);(replace q:=kept1 q (show Below wr.heap.size wr W3 by rw [←hW3];exact box_below _ _) (by simp;omega));(have HK:=Hd (show ∀j,j<K2.length→W3.cell? ⟨b2,0+j,none⟩=some (.int .i64 (K2.getD j 0)) from fun j hj=>kept1 (hK j hj) (show Below wr.heap.size wr W3 by rw [←hW3];exact box_below _ _) (by have:=hbw.size;have:=HS2.out;show b2<_;omega)));(have hz4:wr.heap.size<W3.heap.size:=by omega);(have hz5:w.heap.size+1<W3.heap.size:=by omega);clear hW3 hz3 hK xi;cases hcon:K2.contains k'' with
   | false =>
     have HC:=Hd hcon;(have BAD:=Hd (show checkB K0 K1 K2 ⟨⟨k,x,y,z⟩,⟨k',x',y',z'⟩,⟨k'',x'',y'',z''⟩⟩=false from no_two (no_kind hcon)));clear hcon;refine wp_region_held_drew (S:=(fun W=>W.cell? ⟨w.heap.size+1,2,none⟩=some (.slice (some ⟨b2,0,none⟩) K2.length K2.length)∧W.cell? ⟨wr.heap.size,0,none⟩=some (.int .i64 k'')∧W.cell? ⟨wr.heap.size,1,none⟩=some (.string (bs x''))∧W.cell? ⟨wr.heap.size,2,none⟩=some (.string (bs y''))∧W.cell? ⟨wr.heap.size,3,none⟩=some (.string (bs z'')))) (by kernel_rfl) ?_ (fun hHeld=>?_)
     ·(try dsimp only);go_keep
     refine tkC 0 ?_;refine tkC 1 ?_;refine tkC 2 ?_;refine tkC 3 ?_;refine tkC 4 ?_;(refine rdA 5 fun K hK=>?_);go_simp;refine (contains_calls K2 b2 k'' _ l2 ?_).mono ?_
     ·intro j hj;first|exact HK.out j hj|(simp only [World.cell?_drew];exact HK.out j hj)
     rintro e wn ⟨rfl,hwn⟩;subst hwn;rw [HC.out];(go_wp2_with fail);refine hK.out _ _ ?_ (fun hHeld=>?_)
     ·(try dsimp only);go_keep
     clear hK K;(try simp only [Act.put,sb,sz,ss]);refine tkC 6 ?_;refine tkC 7 ?_;refine skC 8 ?_;refine skC 9 ?_;refine skC 10 ?_;refine tkA 11 24 ?_;refine dnA ?_;go_wp2;go_ret;exact⟨by rw [BAD.out];rfl,by first|exact hb.trans (hb3.mono hb.size)|exact hb.trans (hb3.mono hb.size).drew⟩
   | true =>
     cases hri:rightL k'' x'' y'' z'' with
     | false =>
       have HC:=Hd hcon;have HR:=Hd hri;(have BAD:=Hd (show checkB K0 K1 K2 ⟨⟨k,x,y,z⟩,⟨k',x',y',z'⟩,⟨k'',x'',y'',z''⟩⟩=false from no_two (no_right hri)));clear hcon hri;refine wp_region_held_drew (S:=(fun W=>W.cell? ⟨w.heap.size+1,2,none⟩=some (.slice (some ⟨b2,0,none⟩) K2.length K2.length)∧W.cell? ⟨wr.heap.size,0,none⟩=some (.int .i64 k'')∧W.cell? ⟨wr.heap.size,1,none⟩=some (.string (bs x''))∧W.cell? ⟨wr.heap.size,2,none⟩=some (.string (bs y''))∧W.cell? ⟨wr.heap.size,3,none⟩=some (.string (bs z'')))) (by kernel_rfl) ?_ (fun hHeld=>?_)
       ·(try dsimp only);go_keep
       refine tkC 0 ?_;refine tkC 1 ?_;refine tkC 2 ?_;refine tkC 3 ?_;refine tkC 4 ?_;(refine rdA 5 fun K hK=>?_);go_simp;refine (contains_calls K2 b2 k'' _ l2 ?_).mono ?_
       ·intro j hj;first|exact HK.out j hj|(simp only [World.cell?_drew];exact HK.out j hj)
       rintro e wn ⟨rfl,hwn⟩;subst hwn;rw [HC.out];(go_wp2_with fail);refine hK.out _ _ ?_ (fun hHeld=>?_)
       ·(try dsimp only);go_keep
       clear hK K;(try simp only [Act.put,sb,sz,ss]);refine tkC 6 ?_;refine tkC 7 ?_;refine tkC 8 ?_;(refine rdA 9 fun K hK=>?_);go_simp;refine (Check_calls k'' (bs x'') (bs y'') (bs z'') _ HT.out.1 HT.out.2.1 HT.out.2.2).mono ?_;rintro e wn ⟨rfl,hbn⟩;(simp only [bs_data]);rw [HR.out];(simp only [formZ]);replace hbn:=from_drew hbn;replace hb3:=(first_below hb3 hbn);(obtain⟨t0,t1,t2,t3⟩:=kept4 ⟨t0,t1,t2,t3⟩ hbn (by first|omega|(simp;omega)));(replace q:=kept1 q hbn (by first|omega|(simp;omega)));clear hbn;(go_wp2_with fail);refine hK.out _ _ ?_ (fun hHeld=>?_)
       ·(try dsimp only);go_keep
       clear hK K;(try simp only [Act.put,sb,sz,ss]);refine tkC 10 ?_;refine tkA 11 24 ?_;refine dnA ?_;go_wp2;go_ret;exact⟨by rw [BAD.out];rfl,by first|exact hb.trans (hb3.mono hb.size)|exact hb.trans (hb3.mono hb.size).drew⟩
     | true =>
       have HC:=Hd hcon;have HR:=Hd hri;(have GOOD:=Hd (show (placeB K2 ⟨k'',x'',y'',z''⟩)=true by simp only [placeB,TermL.right,hcon,hri,Bool.and_self]));clear hcon hri;refine wp_region_held_drew (S:=(fun W=>W.cell? ⟨w.heap.size+1,2,none⟩=some (.slice (some ⟨b2,0,none⟩) K2.length K2.length)∧W.cell? ⟨wr.heap.size,0,none⟩=some (.int .i64 k'')∧W.cell? ⟨wr.heap.size,1,none⟩=some (.string (bs x''))∧W.cell? ⟨wr.heap.size,2,none⟩=some (.string (bs y''))∧W.cell? ⟨wr.heap.size,3,none⟩=some (.string (bs z'')))) (by kernel_rfl) ?_ (fun hHeld=>?_)
       ·(try dsimp only);go_keep
       refine tkC 0 ?_;refine tkC 1 ?_;refine tkC 2 ?_;refine tkC 3 ?_;refine tkC 4 ?_;(refine rdA 5 fun K hK=>?_);go_simp;refine (contains_calls K2 b2 k'' _ l2 ?_).mono ?_
       ·intro j hj;first|exact HK.out j hj|(simp only [World.cell?_drew];exact HK.out j hj)
       rintro e wn ⟨rfl,hwn⟩;subst hwn;rw [HC.out];(go_wp2_with fail);refine hK.out _ _ ?_ (fun hHeld=>?_)
       ·(try dsimp only);go_keep
       clear hK K;(try simp only [Act.put,sb,sz,ss]);refine tkC 6 ?_;refine tkC 7 ?_;refine tkC 8 ?_;(refine rdA 9 fun K hK=>?_);go_simp;refine (Check_calls k'' (bs x'') (bs y'') (bs z'') _ HT.out.1 HT.out.2.1 HT.out.2.2).mono ?_;rintro e wn ⟨rfl,hbn⟩;(simp only [bs_data]);rw [HR.out];(simp only [formZ]);replace hbn:=from_drew hbn;replace hb3:=(first_below hb3 hbn);(obtain⟨t0,t1,t2,t3⟩:=kept4 ⟨t0,t1,t2,t3⟩ hbn (by first|omega|(simp;omega)));(replace q:=kept1 q hbn (by first|omega|(simp;omega)));clear hbn;(go_wp2_with fail);refine hK.out _ _ ?_ (fun hHeld=>?_)
       ·(try dsimp only);go_keep
       clear hK K;(try simp only [Act.put,sb,sz,ss]);refine tkC 10 ?_;refine tkA 11 24 ?_;refine dnA ?_;go_wp2;go_roundw
       case rel=>exact⟨3,by omega,by go_num,by first|exact hb3|exact hb3.drew,fun _=>p0 (by omega),fun _=>p1 (by omega),fun _=>GOOD.out⟩
       case measure=>simp [intOf]
  ·(have HOK:=Hd (show checkB K0 K1 K2 ⟨⟨k,x,y,z⟩,⟨k',x',y',z'⟩,⟨k'',x'',y'',z''⟩⟩=true by simp only [checkB,p0 (by omega),p1 (by omega),p2 (by omega),Bool.and_self]));clear p0 p1 p2;go_wp2;go_ret;exact⟨by rw [HOK.out];rfl,hb.trans (hbw.mono hb.size)⟩
end
end Go.Proofs.YtjpfoophipcglaaGreatDoor
