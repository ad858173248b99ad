/- The variables of an operation's result, by the program, kind by kind. (Written by gen/mkbring.py.) The variables of an operation's result, by the program, kind by kind. (Written by gen/mkbring.py.) The variables of an operation's result, by the program, kind by kind. (Written by gen/mkbring.py.) The variables of an operation's result, by the program, kind by kind. (Written by gen/mkbring.py.) The variables of an operation's result, by the program: all kinds. -/
import Derived.Test.YtiliobfgmelncaaScopeRuns
import Derived.Deep.RegionHeld3
namespace Go.Proofs.Ytiliobfgmelncaa
open Go.RowKit Go.Maps

theorem bring_ret (tm : Array Value) (W : World) (A : Nat) (p q : Option Nat) (Q : Ending → World → Prop) (h : tm.getD 4 undef = .pointer (some ⟨A, 0, none⟩)) (hA : Blk W A 33 #[.map p, .map q]) (hQ : Q (.returned (.agg #[.map p, .map q])) W) :
    bodyPost Try.prog Try.f27 Q Exit.ret { tmps := tm, defers := [] } W := by
  have q0 : W.cell? ⟨A, 0, none⟩ = some (.map p) := by rw [blk_cell hA]; rfl
  have q1 : W.cell? ⟨A, 1, none⟩ = some (.map q) := by rw [blk_cell hA]; rfl
  have e2 : tm[4]?.getD undef = .pointer (some ⟨A, 0, none⟩) := by rw [← Array.getD_eq_getD_getElem?]; exact h
  refine bodyPost_ret (v := .agg #[.map p, .map q]) (by simp [results, Try.results27, e2, q0, q1, go_sem]) rfl hQ
theorem set_maps {W : World} {X : Nat} {T : TypeId} {a : Array Value} (h : Blk W X T a) (i : Nat) (v : Value) : MapsOn W (W.setCell ⟨X, i, none⟩ v) := fun b es c e => by
  have hne : b ≠ X := fun k => by subst k; unfold Blk at h; rw [h] at e; cases e
  show (W.heap.modify X _)[b]? = _
  rw [Array.getElem?_modify, if_neg (fun k => hne k.symm)]; exact e
theorem blkD {W : World} {X : Nat} {T : TypeId} {a : Array Value} (h : Blk W X T a) : Blk W.drew X T a := h
theorem set_low {W : World} {X : Nat} (i : Nat) (v : Value) : Below X W (W.setCell ⟨X, i, none⟩ v) := (Below.refl X W).setCell (p := ⟨X, i, none⟩) (Nat.le_refl _) v

/- the result's block X, the variable's block Y; what the variable holds -/
structure AtV (w : World) (X Y : Nat) (P Q : Option Nat) (L M : List (List UInt8)) (W : World) : Prop where
  x : w.heap.size < X
  y : X < Y
  bx : Blk W X 33 #[.map none, .map none]
  by_ : Blk W Y 33 #[.map P, .map Q]
  hp : SetA W P L
  hq : SetA W Q M
  below : Below w.heap.size w W
theorem AtV.on {w W W' : World} {X Y : Nat} {P Q : Option Nat} {L M : List (List UInt8)} (h : AtV w X Y P Q L M W) (hb : Below W.heap.size W W') : AtV w X Y P Q L M W' :=
  ⟨h.x, h.y, blk_on h.bx hb (blk_lt h.bx), blk_on h.by_ hb (blk_lt h.by_), h.hp.on (mapsOn_below hb), h.hq.on (mapsOn_below hb), h.below.trans (hb.mono h.below.size)⟩
theorem AtV.drew {w W : World} {X Y : Nat} {P Q : Option Nat} {L M : List (List UInt8)} (h : AtV w X Y P Q L M W) : AtV w X Y P Q L M W.drew := h.on ((Below.refl _ _).drew)
theorem AtV.set0 {w W : World} {X Y : Nat} {P Q P' : Option Nat} {L M L' : List (List UInt8)} (h : AtV w X Y P Q L M W) (hp : SetA W P' L') : AtV w X Y P' Q L' M (W.setCell ⟨Y, 0, none⟩ (.map P')) :=
  ⟨h.x, h.y, blk_on h.bx (set_low 0 _) h.y, blk_set h.by_ 0 _, hp.on (set_maps h.by_ 0 _), h.hq.on (set_maps h.by_ 0 _), h.below.setCell (p := ⟨Y, 0, none⟩) (by have := h.x; have := h.y; show w.heap.size ≤ Y; omega) _⟩
theorem AtV.set1 {w W : World} {X Y : Nat} {P Q P' : Option Nat} {L M M' : List (List UInt8)} (h : AtV w X Y P Q L M W) (hp : SetA W P' M') : AtV w X Y P P' L M' (W.setCell ⟨Y, 1, none⟩ (.map P')) :=
  ⟨h.x, h.y, blk_on h.bx (set_low 1 _) h.y, blk_set h.by_ 1 _, h.hp.on (set_maps h.by_ 1 _), hp.on (set_maps h.by_ 1 _), h.below.setCell (p := ⟨Y, 1, none⟩) (by have := h.x; have := h.y; show w.heap.size ≤ Y; omega) _⟩
theorem atV_start (w : World) (o1 : Obj) (p q : Option Nat) (L M : List (List UInt8)) (hp : SetA w p L) (hq : SetA w q M) : AtV w (w.heap.size + 1) (w.heap.size + 1 + 1) p q L M (((w.alloc o1).alloc (.cells #[.map none, .map none] 33)).alloc (.cells #[.map p, .map q] 33)) := by
  have e1 : (w.alloc o1).heap.size = w.heap.size + 1 := by simp
  have e2 : ((w.alloc o1).alloc (.cells #[.map none, .map none] 33)).heap.size = w.heap.size + 1 + 1 := by simp
  have hb : Below w.heap.size w (((w.alloc o1).alloc (.cells #[.map none, .map none] 33)).alloc (.cells #[.map p, .map q] 33)) := ((box_below w o1).alloc (by simp) _).alloc (by simp; omega) _
  refine ⟨Nat.lt_succ_self _, Nat.lt_succ_self _, ?_, ?_, hp.on (mapsOn_below hb), hq.on (mapsOn_below hb), hb⟩
  · have := blk_new (w.alloc o1) 33 #[.map none, .map none]
    rw [e1] at this
    exact blk_alloc this _
  · have := blk_new ((w.alloc o1).alloc (.cells #[.map none, .map none] 33)) 33 #[.map p, .map q]
    rwa [e2] at this

set_option maxRecDepth 100000 in
set_option maxHeartbeats 4000000 in
theorem bring_3 (ta : Option Addr) (tn tc : Nat) (va : Option Addr) (vn vc : Nat) (ra : Option Addr) (rn rc : Nat) (fa : Option Addr) (fn fc : Nat) (m : List UInt8) (s : Bool) (g o c : Nat) (p0 q0 : Option Nat) (A1 B1 : List (List UInt8)) (p1 q1 : Option Nat) (A2 B2 : List (List UInt8)) (w : World) (hg : g < w.heap.size)
    (c2 : w.cell? ⟨g, o + 2, none⟩ = some (.map p0)) (c3 : w.cell? ⟨g, o + 3, none⟩ = some (.map q0)) (h0 : SetA w p0 A1) (h1 : SetA w q0 B1)
    (c6 : w.cell? ⟨g, o + 6, none⟩ = some (.map p1)) (c7 : w.cell? ⟨g, o + 7, none⟩ = some (.map q1)) (h2 : SetA w p1 A2) (h3 : SetA w q1 B2) (hl : A1.length + A2.length ≤ 4294967296) (hl2 : B1.length + B2.length ≤ 4294967296) :
    Calls Try.prog 27 #[.agg #[.int .i64 3, .slice ta tn tc, .slice va vn vc, .slice ra rn rc, .slice fa fn fc, .string (bs m), .bool s], .slice (some ⟨g, o, none⟩) 2 c] w (TwoT w (unionO A1 A2) (unionO B1 B2)) := by
  have HC6 := Lib.hid c6
  have HC7 := Lib.hid c7
  have H2 := Lib.hid h2
  have H3 := Lib.hid h3
  have HL := Lib.hid hl
  have HL2 := Lib.hid hl2
  clear h2 h3 hl hl2 c6 c7
  have HA := Lib.hid (atV_start w (.cells #[.int .i64 3, .slice ta tn tc, .slice va vn vc, .slice ra rn rc, .slice fa fn fc, .string (bs m), .bool s] 50) p0 q0 A1 B1 h0 h1)
  clear h0 h1
  go_enter Try.func27, Try.ntmps27
  go_upto_region 9 with fail
  refine kName (fun W hW => ?_)
  rw [← hW] at HA
  clear hW
  obtain ⟨X, hX⟩ : ∃ X, w.heap.size + 1 = X := ⟨_, rfl⟩
  rw [hX] at HA
  obtain ⟨Y, hY⟩ : ∃ Y, X + 1 = Y := ⟨_, rfl⟩
  rw [hY] at HA
  have HX := Lib.hid hX
  have HY := Lib.hid hY
  rw [hX, hY]
  clear hX hY c2 c3
  have hgW1 : g < W.heap.size := Nat.lt_of_lt_of_le hg HA.out.below.size
  have cN1 : W.cell? ⟨g, o + 6, none⟩ = some (.map p1) := (HA.out.below.cell (p := ⟨g, _, none⟩) hg).trans HC6.out
  have cY1 : W.cell? ⟨Y, 0, none⟩ = some (.map p0) := by rw [blk_cell HA.out.by_]; rfl
  have hgY1 : ¬ g = Y := by have h1 := HA.out.x; have h2 := HA.out.y; omega
  refine wp_region_held_drew (S := (fun WW => WW.cell? ⟨g, o + 6, none⟩ = some (.map p1))) (by kernel_rfl) ?_ (fun hHeld => ?_)
  · (try dsimp only); exact cN1
  refine wpAnyH_take (i := 0) (oi := ⟨some 26, _, _, _, _, _⟩) (v := ?_) rfl (by kernel_rfl) (by kernel_rfl) (by kernel_rfl) (fun _ _ _ h => h) (Or.inl ⟨by kernel_rfl, ?_⟩) (by assumption) ?_
  rotate_left
  · (intro ww hSw; (try dsimp only at hSw); go_simp); (try with_reducible rfl)
  (try simp only [Act.put, List.setIfInBounds_toArray, List.set_cons_zero, List.set_cons_succ])
  refine wpAnyH_take (i := 2) (oi := ⟨some 28, _, _, _, _, _⟩) (v := ?_) rfl (by kernel_rfl) (by kernel_rfl) (by kernel_rfl) (fun _ _ _ h => h) (Or.inl ⟨by kernel_rfl, ?_⟩) (by assumption) ?_
  rotate_left
  · (intro ww hSw; (try dsimp only at hSw); go_simp); (try with_reducible rfl)
  (try simp only [Act.put, List.setIfInBounds_toArray, List.set_cons_zero, List.set_cons_succ])
  refine wpAnyH_take (i := 3) (oi := ⟨some 29, _, _, _, _, _⟩) (v := ?_) rfl (by kernel_rfl) (by kernel_rfl) (by kernel_rfl) (fun _ _ _ h => h) (Or.inl ⟨by kernel_rfl, ?_⟩) (by assumption) ?_
  rotate_left
  · (intro ww hSw; (try dsimp only at hSw); go_simp); (try with_reducible rfl)
  (try simp only [Act.put, List.setIfInBounds_toArray, List.set_cons_zero, List.set_cons_succ])
  refine wpAnyH_take (i := 4) (oi := ⟨some 30, _, _, _, _, _⟩) (v := ?_) rfl (by kernel_rfl) (by kernel_rfl) (by kernel_rfl) (fun _ _ _ h => h) (Or.inl ⟨by kernel_rfl, ?_⟩) (by assumption) ?_
  rotate_left
  · (intro ww hSw; (try dsimp only at hSw); go_simp); (try with_reducible rfl)
  (try simp only [Act.put, List.setIfInBounds_toArray, List.set_cons_zero, List.set_cons_succ])
  refine wpAnyH_take (i := 5) (oi := ⟨some 31, _, _, _, _, _⟩) (v := ?_) rfl (by kernel_rfl) (by kernel_rfl) (by kernel_rfl) (fun _ _ _ h => h) (Or.inl ⟨by kernel_rfl, ?_⟩) (by assumption) ?_
  rotate_left
  · (intro ww hSw; (try dsimp only at hSw); go_simp); (try with_reducible rfl)
  (try simp only [Act.put, List.setIfInBounds_toArray, List.set_cons_zero, List.set_cons_succ])
  refine wpAnyH_take (i := 6) (oi := ⟨some 32, _, _, _, _, _⟩) (v := ?_) rfl (by kernel_rfl) (by kernel_rfl) (by kernel_rfl) (fun _ _ _ h => h) (Or.inl ⟨by kernel_rfl, ?_⟩) (by assumption) ?_
  rotate_left
  · (intro ww hSw; (try dsimp only at hSw); go_simp); (try with_reducible rfl)
  (try simp only [Act.put, List.setIfInBounds_toArray, List.set_cons_zero, List.set_cons_succ])
  refine wpAnyH_ready (rs := [1]) (by kernel_rfl) (by simp) ?_
  refine AllReadyH.cons rfl (fun K hK => ?_) AllReadyH.nil
  go_simp
  refine hK.out _ _ ?_ (fun hHeld => ?_)
  · (try dsimp only); exact cN1
  clear hK K
  (try simp only [Act.put, List.setIfInBounds_toArray, List.set_cons_zero, List.set_cons_succ])
  refine wpAnyH_ready (rs := [7]) (by kernel_rfl) (by simp) ?_
  refine AllReadyH.cons rfl (fun K hK => ?_) AllReadyH.nil
  go_simp
  refine (either_calls _ _ _ _ _ (HA.out.drew.hp) ((H2.out.on (mapsOn_below HA.out.drew.below))) HL.out).mono ?_
  rintro e w1 ⟨P1, rfl, hS, hb2⟩
  have HS1 := Lib.hid hS
  have hbw1 : Below W.drew.heap.size W.drew w1 := hb2
  have HA1 := Lib.hid (HA.out.drew.on hbw1)
  have cW1 : w1.cell? ⟨g, o + 6, none⟩ = some (.map p1) := (hbw1.cell (p := ⟨g, _, none⟩) hgW1).trans cN1
  have fY1 : w1.frozen? ⟨Y, 0, none⟩ = false := blk_free HA1.out.by_ 0
  have yY1 : w1.cell? ⟨Y, 0, none⟩ = some (.map p0) := by rw [blk_cell HA1.out.by_]; rfl
  clear hS hb2
  go_wp2_with fail
  refine hK.out _ _ ?_ (fun hHeld => ?_)
  · (try dsimp only); exact cW1
  clear hK K
  (try simp only [Act.put, List.setIfInBounds_toArray, List.set_cons_zero, List.set_cons_succ])
  refine wpAnyH_take (i := 8) (oi := ⟨some 34, _, _, _, _, _⟩) (v := ?_) rfl (by kernel_rfl) (by kernel_rfl) (by kernel_rfl) (fun _ _ _ h => h) (Or.inl ⟨by kernel_rfl, ?_⟩) (by assumption) ?_
  rotate_left
  · (intro ww hSw; (try dsimp only at hSw); go_simp); (try with_reducible rfl)
  (try simp only [Act.put, List.setIfInBounds_toArray, List.set_cons_zero, List.set_cons_succ])
  refine wpAnyH_ready (rs := [9]) (by kernel_rfl) (by simp) ?_
  refine AllReadyH.cons rfl (fun K hK => ?_) AllReadyH.nil
  go_simp
  refine hK.out _ _ ?_ (fun hHeld => ?_)
  · (try dsimp only); (simp [go_sem, cW1])
  clear hK K
  (try simp only [Act.put, List.setIfInBounds_toArray, List.set_cons_zero, List.set_cons_succ])
  refine wpAnyH_done (by kernel_rfl) ?_ _
  have HB1 := Lib.hid (HA1.out.set0 HS1.out)
  clear cN1 cY1 cW1 fY1 yY1 hgW1 hgY1 hbw1 HS1 HA1
  go_upto_region 10 with fail
  refine kName (fun W2 hW2 => ?_)
  rw [← hW2] at HB1
  clear hW2
  have hgW2 : g < W2.heap.size := Nat.lt_of_lt_of_le hg HB1.out.below.size
  have cN2 : W2.cell? ⟨g, o + 7, none⟩ = some (.map q1) := (HB1.out.below.cell (p := ⟨g, _, none⟩) hg).trans HC7.out
  have cY2 : W2.cell? ⟨Y, 1, none⟩ = some (.map q0) := by rw [blk_cell HB1.out.by_]; rfl
  have hgY2 : ¬ g = Y := by have h1 := HB1.out.x; have h2 := HB1.out.y; omega
  refine wp_region_held_drew (S := (fun WW => WW.cell? ⟨g, o + 7, none⟩ = some (.map q1))) (by kernel_rfl) ?_ (fun hHeld => ?_)
  · (try dsimp only); exact cN2
  refine wpAnyH_take (i := 0) (oi := ⟨some 35, _, _, _, _, _⟩) (v := ?_) rfl (by kernel_rfl) (by kernel_rfl) (by kernel_rfl) (fun _ _ _ h => h) (Or.inl ⟨by kernel_rfl, ?_⟩) (by assumption) ?_
  rotate_left
  · (intro ww hSw; (try dsimp only at hSw); go_simp); (try with_reducible rfl)
  (try simp only [Act.put, List.setIfInBounds_toArray, List.set_cons_zero, List.set_cons_succ])
  refine wpAnyH_take (i := 2) (oi := ⟨some 37, _, _, _, _, _⟩) (v := ?_) rfl (by kernel_rfl) (by kernel_rfl) (by kernel_rfl) (fun _ _ _ h => h) (Or.inl ⟨by kernel_rfl, ?_⟩) (by assumption) ?_
  rotate_left
  · (intro ww hSw; (try dsimp only at hSw); go_simp); (try with_reducible rfl)
  (try simp only [Act.put, List.setIfInBounds_toArray, List.set_cons_zero, List.set_cons_succ])
  refine wpAnyH_take (i := 3) (oi := ⟨some 38, _, _, _, _, _⟩) (v := ?_) rfl (by kernel_rfl) (by kernel_rfl) (by kernel_rfl) (fun _ _ _ h => h) (Or.inl ⟨by kernel_rfl, ?_⟩) (by assumption) ?_
  rotate_left
  · (intro ww hSw; (try dsimp only at hSw); go_simp); (try with_reducible rfl)
  (try simp only [Act.put, List.setIfInBounds_toArray, List.set_cons_zero, List.set_cons_succ])
  refine wpAnyH_take (i := 4) (oi := ⟨some 39, _, _, _, _, _⟩) (v := ?_) rfl (by kernel_rfl) (by kernel_rfl) (by kernel_rfl) (fun _ _ _ h => h) (Or.inl ⟨by kernel_rfl, ?_⟩) (by assumption) ?_
  rotate_left
  · (intro ww hSw; (try dsimp only at hSw); go_simp); (try with_reducible rfl)
  (try simp only [Act.put, List.setIfInBounds_toArray, List.set_cons_zero, List.set_cons_succ])
  refine wpAnyH_take (i := 5) (oi := ⟨some 40, _, _, _, _, _⟩) (v := ?_) rfl (by kernel_rfl) (by kernel_rfl) (by kernel_rfl) (fun _ _ _ h => h) (Or.inl ⟨by kernel_rfl, ?_⟩) (by assumption) ?_
  rotate_left
  · (intro ww hSw; (try dsimp only at hSw); go_simp); (try with_reducible rfl)
  (try simp only [Act.put, List.setIfInBounds_toArray, List.set_cons_zero, List.set_cons_succ])
  refine wpAnyH_take (i := 6) (oi := ⟨some 41, _, _, _, _, _⟩) (v := ?_) rfl (by kernel_rfl) (by kernel_rfl) (by kernel_rfl) (fun _ _ _ h => h) (Or.inl ⟨by kernel_rfl, ?_⟩) (by assumption) ?_
  rotate_left
  · (intro ww hSw; (try dsimp only at hSw); go_simp); (try with_reducible rfl)
  (try simp only [Act.put, List.setIfInBounds_toArray, List.set_cons_zero, List.set_cons_succ])
  refine wpAnyH_ready (rs := [1]) (by kernel_rfl) (by simp) ?_
  refine AllReadyH.cons rfl (fun K hK => ?_) AllReadyH.nil
  go_simp
  refine hK.out _ _ ?_ (fun hHeld => ?_)
  · (try dsimp only); exact cN2
  clear hK K
  (try simp only [Act.put, List.setIfInBounds_toArray, List.set_cons_zero, List.set_cons_succ])
  refine wpAnyH_ready (rs := [7]) (by kernel_rfl) (by simp) ?_
  refine AllReadyH.cons rfl (fun K hK => ?_) AllReadyH.nil
  go_simp
  refine (either_calls _ _ _ _ _ (HB1.out.drew.hq) ((H3.out.on (mapsOn_below HB1.out.drew.below))) HL2.out).mono ?_
  rintro e w2 ⟨P2, rfl, hS, hb2⟩
  have HS2 := Lib.hid hS
  have hbw2 : Below W2.drew.heap.size W2.drew w2 := hb2
  have HA2 := Lib.hid (HB1.out.drew.on hbw2)
  have cW2 : w2.cell? ⟨g, o + 7, none⟩ = some (.map q1) := (hbw2.cell (p := ⟨g, _, none⟩) hgW2).trans cN2
  have fY2 : w2.frozen? ⟨Y, 1, none⟩ = false := blk_free HA2.out.by_ 1
  have yY2 : w2.cell? ⟨Y, 1, none⟩ = some (.map q0) := by rw [blk_cell HA2.out.by_]; rfl
  clear hS hb2
  go_wp2_with fail
  refine hK.out _ _ ?_ (fun hHeld => ?_)
  · (try dsimp only); exact cW2
  clear hK K
  (try simp only [Act.put, List.setIfInBounds_toArray, List.set_cons_zero, List.set_cons_succ])
  refine wpAnyH_take (i := 8) (oi := ⟨some 43, _, _, _, _, _⟩) (v := ?_) rfl (by kernel_rfl) (by kernel_rfl) (by kernel_rfl) (fun _ _ _ h => h) (Or.inl ⟨by kernel_rfl, ?_⟩) (by assumption) ?_
  rotate_left
  · (intro ww hSw; (try dsimp only at hSw); go_simp); (try with_reducible rfl)
  (try simp only [Act.put, List.setIfInBounds_toArray, List.set_cons_zero, List.set_cons_succ])
  refine wpAnyH_ready (rs := [9]) (by kernel_rfl) (by simp) ?_
  refine AllReadyH.cons rfl (fun K hK => ?_) AllReadyH.nil
  go_simp
  refine hK.out _ _ ?_ (fun hHeld => ?_)
  · (try dsimp only); (simp [go_sem, cW2])
  clear hK K
  (try simp only [Act.put, List.setIfInBounds_toArray, List.set_cons_zero, List.set_cons_succ])
  refine wpAnyH_done (by kernel_rfl) ?_ _
  have HB2 := Lib.hid (HA2.out.set1 HS2.out)
  clear cN2 cY2 cW2 fY2 yY2 hgW2 hgY2 hbw2 HS2 HA2
  go_upto_region 21 with fail
  refine kName (fun W2 hW2 => ?_)
  rw [← hW2] at HB2
  clear hW2
  have y0 := (blk_cell HB2.out.by_ 0).trans (show _ = some (Value.map P1) from rfl)
  have y1 := (blk_cell HB2.out.by_ 1).trans (show _ = some (Value.map P2) from rfl)
  have hX0 := HB2.out.bx
  go_wp2_with (refine kWhole 33 (.tmp 4) (.tmp 90) ⟨rfl, rfl⟩ X #[.map P1, .map P2] (by kernel_rfl) (by kernel_rfl) 33 #[.map none, .map none] (by first | exact hX0 | exact blkD hX0) (by kernel_rfl) rfl (by kernel_rfl) ?_; intro w4 hA4 hG4)
  have hm := kMaps hG4.out hX0
  refine bring_ret _ _ X P1 P2 _ (by first | rfl | simp) hA4.out ⟨P1, P2, rfl, HB2.out.hp.on hm, HB2.out.hq.on hm, HB2.out.below.grown hG4.out HB2.out.below.size (fun j hj => by cases hj; exact Nat.le_of_lt HB2.out.x)⟩

end Go.Proofs.Ytiliobfgmelncaa

namespace Go.Proofs.Ytiliobfgmelncaa
open Go.RowKit Go.Maps

set_option maxRecDepth 100000 in
set_option maxHeartbeats 4000000 in
theorem bring_4 (ta : Option Addr) (tn tc : Nat) (va : Option Addr) (vn vc : Nat) (ra : Option Addr) (rn rc : Nat) (fa : Option Addr) (fn fc : Nat) (m : List UInt8) (s : Bool) (g o c : Nat) (p0 q0 : Option Nat) (A1 B1 : List (List UInt8)) (p1 q1 : Option Nat) (A2 B2 : List (List UInt8)) (w : World) (hg : g < w.heap.size)
    (c2 : w.cell? ⟨g, o + 2, none⟩ = some (.map p0)) (c3 : w.cell? ⟨g, o + 3, none⟩ = some (.map q0)) (h0 : SetA w p0 A1) (h1 : SetA w q0 B1)
    (c6 : w.cell? ⟨g, o + 6, none⟩ = some (.map p1)) (c7 : w.cell? ⟨g, o + 7, none⟩ = some (.map q1)) (h2 : SetA w p1 A2) (h3 : SetA w q1 B2) (hl : A1.length + A2.length ≤ 4294967296) (hl2 : B1.length + B2.length ≤ 4294967296) :
    Calls Try.prog 27 #[.agg #[.int .i64 4, .slice ta tn tc, .slice va vn vc, .slice ra rn rc, .slice fa fn fc, .string (bs m), .bool s], .slice (some ⟨g, o, none⟩) 2 c] w (TwoT w (unionO A1 A2) (meetO B1 B2)) := by
  have HC6 := Lib.hid c6
  have HC7 := Lib.hid c7
  have H2 := Lib.hid h2
  have H3 := Lib.hid h3
  have HL := Lib.hid hl
  have HL2 := Lib.hid hl2
  clear h2 h3 hl hl2 c6 c7
  have HA := Lib.hid (atV_start w (.cells #[.int .i64 4, .slice ta tn tc, .slice va vn vc, .slice ra rn rc, .slice fa fn fc, .string (bs m), .bool s] 50) p0 q0 A1 B1 h0 h1)
  clear h0 h1
  go_enter Try.func27, Try.ntmps27
  go_upto_region 12 with fail
  refine kName (fun W hW => ?_)
  rw [← hW] at HA
  clear hW
  obtain ⟨X, hX⟩ : ∃ X, w.heap.size + 1 = X := ⟨_, rfl⟩
  rw [hX] at HA
  obtain ⟨Y, hY⟩ : ∃ Y, X + 1 = Y := ⟨_, rfl⟩
  rw [hY] at HA
  have HX := Lib.hid hX
  have HY := Lib.hid hY
  rw [hX, hY]
  clear hX hY c2 c3
  have hgW1 : g < W.heap.size := Nat.lt_of_lt_of_le hg HA.out.below.size
  have cN1 : W.cell? ⟨g, o + 6, none⟩ = some (.map p1) := (HA.out.below.cell (p := ⟨g, _, none⟩) hg).trans HC6.out
  have cY1 : W.cell? ⟨Y, 0, none⟩ = some (.map p0) := by rw [blk_cell HA.out.by_]; rfl
  have hgY1 : ¬ g = Y := by have h1 := HA.out.x; have h2 := HA.out.y; omega
  refine wp_region_held_drew (S := (fun WW => WW.cell? ⟨g, o + 6, none⟩ = some (.map p1))) (by kernel_rfl) ?_ (fun hHeld => ?_)
  · (try dsimp only); exact cN1
  refine wpAnyH_take (i := 0) (oi := ⟨some 46, _, _, _, _, _⟩) (v := ?_) rfl (by kernel_rfl) (by kernel_rfl) (by kernel_rfl) (fun _ _ _ h => h) (Or.inl ⟨by kernel_rfl, ?_⟩) (by assumption) ?_
  rotate_left
  · (intro ww hSw; (try dsimp only at hSw); go_simp); (try with_reducible rfl)
  (try simp only [Act.put, List.setIfInBounds_toArray, List.set_cons_zero, List.set_cons_succ])
  refine wpAnyH_take (i := 2) (oi := ⟨some 48, _, _, _, _, _⟩) (v := ?_) rfl (by kernel_rfl) (by kernel_rfl) (by kernel_rfl) (fun _ _ _ h => h) (Or.inl ⟨by kernel_rfl, ?_⟩) (by assumption) ?_
  rotate_left
  · (intro ww hSw; (try dsimp only at hSw); go_simp); (try with_reducible rfl)
  (try simp only [Act.put, List.setIfInBounds_toArray, List.set_cons_zero, List.set_cons_succ])
  refine wpAnyH_take (i := 3) (oi := ⟨some 49, _, _, _, _, _⟩) (v := ?_) rfl (by kernel_rfl) (by kernel_rfl) (by kernel_rfl) (fun _ _ _ h => h) (Or.inl ⟨by kernel_rfl, ?_⟩) (by assumption) ?_
  rotate_left
  · (intro ww hSw; (try dsimp only at hSw); go_simp); (try with_reducible rfl)
  (try simp only [Act.put, List.setIfInBounds_toArray, List.set_cons_zero, List.set_cons_succ])
  refine wpAnyH_take (i := 4) (oi := ⟨some 50, _, _, _, _, _⟩) (v := ?_) rfl (by kernel_rfl) (by kernel_rfl) (by kernel_rfl) (fun _ _ _ h => h) (Or.inl ⟨by kernel_rfl, ?_⟩) (by assumption) ?_
  rotate_left
  · (intro ww hSw; (try dsimp only at hSw); go_simp); (try with_reducible rfl)
  (try simp only [Act.put, List.setIfInBounds_toArray, List.set_cons_zero, List.set_cons_succ])
  refine wpAnyH_take (i := 5) (oi := ⟨some 51, _, _, _, _, _⟩) (v := ?_) rfl (by kernel_rfl) (by kernel_rfl) (by kernel_rfl) (fun _ _ _ h => h) (Or.inl ⟨by kernel_rfl, ?_⟩) (by assumption) ?_
  rotate_left
  · (intro ww hSw; (try dsimp only at hSw); go_simp); (try with_reducible rfl)
  (try simp only [Act.put, List.setIfInBounds_toArray, List.set_cons_zero, List.set_cons_succ])
  refine wpAnyH_take (i := 6) (oi := ⟨some 52, _, _, _, _, _⟩) (v := ?_) rfl (by kernel_rfl) (by kernel_rfl) (by kernel_rfl) (fun _ _ _ h => h) (Or.inl ⟨by kernel_rfl, ?_⟩) (by assumption) ?_
  rotate_left
  · (intro ww hSw; (try dsimp only at hSw); go_simp); (try with_reducible rfl)
  (try simp only [Act.put, List.setIfInBounds_toArray, List.set_cons_zero, List.set_cons_succ])
  refine wpAnyH_ready (rs := [1]) (by kernel_rfl) (by simp) ?_
  refine AllReadyH.cons rfl (fun K hK => ?_) AllReadyH.nil
  go_simp
  refine hK.out _ _ ?_ (fun hHeld => ?_)
  · (try dsimp only); exact cN1
  clear hK K
  (try simp only [Act.put, List.setIfInBounds_toArray, List.set_cons_zero, List.set_cons_succ])
  refine wpAnyH_ready (rs := [7]) (by kernel_rfl) (by simp) ?_
  refine AllReadyH.cons rfl (fun K hK => ?_) AllReadyH.nil
  go_simp
  refine (either_calls _ _ _ _ _ (HA.out.drew.hp) ((H2.out.on (mapsOn_below HA.out.drew.below))) HL.out).mono ?_
  rintro e w1 ⟨P1, rfl, hS, hb2⟩
  have HS1 := Lib.hid hS
  have hbw1 : Below W.drew.heap.size W.drew w1 := hb2
  have HA1 := Lib.hid (HA.out.drew.on hbw1)
  have cW1 : w1.cell? ⟨g, o + 6, none⟩ = some (.map p1) := (hbw1.cell (p := ⟨g, _, none⟩) hgW1).trans cN1
  have fY1 : w1.frozen? ⟨Y, 0, none⟩ = false := blk_free HA1.out.by_ 0
  have yY1 : w1.cell? ⟨Y, 0, none⟩ = some (.map p0) := by rw [blk_cell HA1.out.by_]; rfl
  clear hS hb2
  go_wp2_with fail
  refine hK.out _ _ ?_ (fun hHeld => ?_)
  · (try dsimp only); exact cW1
  clear hK K
  (try simp only [Act.put, List.setIfInBounds_toArray, List.set_cons_zero, List.set_cons_succ])
  refine wpAnyH_take (i := 8) (oi := ⟨some 54, _, _, _, _, _⟩) (v := ?_) rfl (by kernel_rfl) (by kernel_rfl) (by kernel_rfl) (fun _ _ _ h => h) (Or.inl ⟨by kernel_rfl, ?_⟩) (by assumption) ?_
  rotate_left
  · (intro ww hSw; (try dsimp only at hSw); go_simp); (try with_reducible rfl)
  (try simp only [Act.put, List.setIfInBounds_toArray, List.set_cons_zero, List.set_cons_succ])
  refine wpAnyH_ready (rs := [9]) (by kernel_rfl) (by simp) ?_
  refine AllReadyH.cons rfl (fun K hK => ?_) AllReadyH.nil
  go_simp
  refine hK.out _ _ ?_ (fun hHeld => ?_)
  · (try dsimp only); (simp [go_sem, cW1])
  clear hK K
  (try simp only [Act.put, List.setIfInBounds_toArray, List.set_cons_zero, List.set_cons_succ])
  refine wpAnyH_done (by kernel_rfl) ?_ _
  have HB1 := Lib.hid (HA1.out.set0 HS1.out)
  clear cN1 cY1 cW1 fY1 yY1 hgW1 hgY1 hbw1 HS1 HA1
  go_upto_region 13 with fail
  refine kName (fun W2 hW2 => ?_)
  rw [← hW2] at HB1
  clear hW2
  have hgW2 : g < W2.heap.size := Nat.lt_of_lt_of_le hg HB1.out.below.size
  have cN2 : W2.cell? ⟨g, o + 7, none⟩ = some (.map q1) := (HB1.out.below.cell (p := ⟨g, _, none⟩) hg).trans HC7.out
  have cY2 : W2.cell? ⟨Y, 1, none⟩ = some (.map q0) := by rw [blk_cell HB1.out.by_]; rfl
  have hgY2 : ¬ g = Y := by have h1 := HB1.out.x; have h2 := HB1.out.y; omega
  refine wp_region_held_drew (S := (fun WW => WW.cell? ⟨g, o + 7, none⟩ = some (.map q1))) (by kernel_rfl) ?_ (fun hHeld => ?_)
  · (try dsimp only); exact cN2
  refine wpAnyH_take (i := 0) (oi := ⟨some 55, _, _, _, _, _⟩) (v := ?_) rfl (by kernel_rfl) (by kernel_rfl) (by kernel_rfl) (fun _ _ _ h => h) (Or.inl ⟨by kernel_rfl, ?_⟩) (by assumption) ?_
  rotate_left
  · (intro ww hSw; (try dsimp only at hSw); go_simp); (try with_reducible rfl)
  (try simp only [Act.put, List.setIfInBounds_toArray, List.set_cons_zero, List.set_cons_succ])
  refine wpAnyH_take (i := 2) (oi := ⟨some 57, _, _, _, _, _⟩) (v := ?_) rfl (by kernel_rfl) (by kernel_rfl) (by kernel_rfl) (fun _ _ _ h => h) (Or.inl ⟨by kernel_rfl, ?_⟩) (by assumption) ?_
  rotate_left
  · (intro ww hSw; (try dsimp only at hSw); go_simp); (try with_reducible rfl)
  (try simp only [Act.put, List.setIfInBounds_toArray, List.set_cons_zero, List.set_cons_succ])
  refine wpAnyH_take (i := 3) (oi := ⟨some 58, _, _, _, _, _⟩) (v := ?_) rfl (by kernel_rfl) (by kernel_rfl) (by kernel_rfl) (fun _ _ _ h => h) (Or.inl ⟨by kernel_rfl, ?_⟩) (by assumption) ?_
  rotate_left
  · (intro ww hSw; (try dsimp only at hSw); go_simp); (try with_reducible rfl)
  (try simp only [Act.put, List.setIfInBounds_toArray, List.set_cons_zero, List.set_cons_succ])
  refine wpAnyH_take (i := 4) (oi := ⟨some 59, _, _, _, _, _⟩) (v := ?_) rfl (by kernel_rfl) (by kernel_rfl) (by kernel_rfl) (fun _ _ _ h => h) (Or.inl ⟨by kernel_rfl, ?_⟩) (by assumption) ?_
  rotate_left
  · (intro ww hSw; (try dsimp only at hSw); go_simp); (try with_reducible rfl)
  (try simp only [Act.put, List.setIfInBounds_toArray, List.set_cons_zero, List.set_cons_succ])
  refine wpAnyH_take (i := 5) (oi := ⟨some 60, _, _, _, _, _⟩) (v := ?_) rfl (by kernel_rfl) (by kernel_rfl) (by kernel_rfl) (fun _ _ _ h => h) (Or.inl ⟨by kernel_rfl, ?_⟩) (by assumption) ?_
  rotate_left
  · (intro ww hSw; (try dsimp only at hSw); go_simp); (try with_reducible rfl)
  (try simp only [Act.put, List.setIfInBounds_toArray, List.set_cons_zero, List.set_cons_succ])
  refine wpAnyH_take (i := 6) (oi := ⟨some 61, _, _, _, _, _⟩) (v := ?_) rfl (by kernel_rfl) (by kernel_rfl) (by kernel_rfl) (fun _ _ _ h => h) (Or.inl ⟨by kernel_rfl, ?_⟩) (by assumption) ?_
  rotate_left
  · (intro ww hSw; (try dsimp only at hSw); go_simp); (try with_reducible rfl)
  (try simp only [Act.put, List.setIfInBounds_toArray, List.set_cons_zero, List.set_cons_succ])
  refine wpAnyH_ready (rs := [1]) (by kernel_rfl) (by simp) ?_
  refine AllReadyH.cons rfl (fun K hK => ?_) AllReadyH.nil
  go_simp
  refine hK.out _ _ ?_ (fun hHeld => ?_)
  · (try dsimp only); exact cN2
  clear hK K
  (try simp only [Act.put, List.setIfInBounds_toArray, List.set_cons_zero, List.set_cons_succ])
  refine wpAnyH_ready (rs := [7]) (by kernel_rfl) (by simp) ?_
  refine AllReadyH.cons rfl (fun K hK => ?_) AllReadyH.nil
  go_simp
  refine (both_calls _ _ _ _ _ (HB1.out.drew.hq) ((H3.out.on (mapsOn_below HB1.out.drew.below))) (by have := HL2.out; omega)).mono ?_
  rintro e w2 ⟨P2, rfl, hS, hb2⟩
  have HS2 := Lib.hid hS
  have hbw2 : Below W2.drew.heap.size W2.drew w2 := hb2
  have HA2 := Lib.hid (HB1.out.drew.on hbw2)
  have cW2 : w2.cell? ⟨g, o + 7, none⟩ = some (.map q1) := (hbw2.cell (p := ⟨g, _, none⟩) hgW2).trans cN2
  have fY2 : w2.frozen? ⟨Y, 1, none⟩ = false := blk_free HA2.out.by_ 1
  have yY2 : w2.cell? ⟨Y, 1, none⟩ = some (.map q0) := by rw [blk_cell HA2.out.by_]; rfl
  clear hS hb2
  go_wp2_with fail
  refine hK.out _ _ ?_ (fun hHeld => ?_)
  · (try dsimp only); exact cW2
  clear hK K
  (try simp only [Act.put, List.setIfInBounds_toArray, List.set_cons_zero, List.set_cons_succ])
  refine wpAnyH_take (i := 8) (oi := ⟨some 63, _, _, _, _, _⟩) (v := ?_) rfl (by kernel_rfl) (by kernel_rfl) (by kernel_rfl) (fun _ _ _ h => h) (Or.inl ⟨by kernel_rfl, ?_⟩) (by assumption) ?_
  rotate_left
  · (intro ww hSw; (try dsimp only at hSw); go_simp); (try with_reducible rfl)
  (try simp only [Act.put, List.setIfInBounds_toArray, List.set_cons_zero, List.set_cons_succ])
  refine wpAnyH_ready (rs := [9]) (by kernel_rfl) (by simp) ?_
  refine AllReadyH.cons rfl (fun K hK => ?_) AllReadyH.nil
  go_simp
  refine hK.out _ _ ?_ (fun hHeld => ?_)
  · (try dsimp only); (simp [go_sem, cW2])
  clear hK K
  (try simp only [Act.put, List.setIfInBounds_toArray, List.set_cons_zero, List.set_cons_succ])
  refine wpAnyH_done (by kernel_rfl) ?_ _
  have HB2 := Lib.hid (HA2.out.set1 HS2.out)
  clear cN2 cY2 cW2 fY2 yY2 hgW2 hgY2 hbw2 HS2 HA2
  go_upto_region 21 with fail
  refine kName (fun W2 hW2 => ?_)
  rw [← hW2] at HB2
  clear hW2
  have y0 := (blk_cell HB2.out.by_ 0).trans (show _ = some (Value.map P1) from rfl)
  have y1 := (blk_cell HB2.out.by_ 1).trans (show _ = some (Value.map P2) from rfl)
  have hX0 := HB2.out.bx
  go_wp2_with (refine kWhole 33 (.tmp 4) (.tmp 90) ⟨rfl, rfl⟩ X #[.map P1, .map P2] (by kernel_rfl) (by kernel_rfl) 33 #[.map none, .map none] (by first | exact hX0 | exact blkD hX0) (by kernel_rfl) rfl (by kernel_rfl) ?_; intro w4 hA4 hG4)
  have hm := kMaps hG4.out hX0
  refine bring_ret _ _ X P1 P2 _ (by first | rfl | simp) hA4.out ⟨P1, P2, rfl, HB2.out.hp.on hm, HB2.out.hq.on hm, HB2.out.below.grown hG4.out HB2.out.below.size (fun j hj => by cases hj; exact Nat.le_of_lt HB2.out.x)⟩

end Go.Proofs.Ytiliobfgmelncaa

namespace Go.Proofs.Ytiliobfgmelncaa
open Go.RowKit Go.Maps

set_option maxRecDepth 100000 in
set_option maxHeartbeats 4000000 in
theorem bring_5 (ta : Option Addr) (tn tc : Nat) (va : Option Addr) (vn vc : Nat) (ra : Option Addr) (rn rc : Nat) (fa : Option Addr) (fn fc : Nat) (m : List UInt8) (s : Bool) (g o c : Nat) (p0 q0 : Option Nat) (A1 B1 : List (List UInt8)) (p1 q1 : Option Nat) (A2 B2 : List (List UInt8)) (w : World) (hg : g < w.heap.size)
    (c2 : w.cell? ⟨g, o + 2, none⟩ = some (.map p0)) (c3 : w.cell? ⟨g, o + 3, none⟩ = some (.map q0)) (h0 : SetA w p0 A1) (h1 : SetA w q0 B1)
    (c6 : w.cell? ⟨g, o + 6, none⟩ = some (.map p1)) (c7 : w.cell? ⟨g, o + 7, none⟩ = some (.map q1)) (h2 : SetA w p1 A2) (h3 : SetA w q1 B2) (hl : A1.length + A2.length ≤ 4294967296) (hl2 : B1.length + B2.length ≤ 4294967296) :
    Calls Try.prog 27 #[.agg #[.int .i64 5, .slice ta tn tc, .slice va vn vc, .slice ra rn rc, .slice fa fn fc, .string (bs m), .bool s], .slice (some ⟨g, o, none⟩) 2 c] w (TwoT w (unionO A1 A2) (B1)) := by
  have HC6 := Lib.hid c6
  have HC7 := Lib.hid c7
  have H2 := Lib.hid h2
  have H3 := Lib.hid h3
  have HL := Lib.hid hl
  have HL2 := Lib.hid hl2
  clear h2 h3 hl hl2 c6 c7
  have HA := Lib.hid (atV_start w (.cells #[.int .i64 5, .slice ta tn tc, .slice va vn vc, .slice ra rn rc, .slice fa fn fc, .string (bs m), .bool s] 50) p0 q0 A1 B1 h0 h1)
  clear h0 h1
  go_enter Try.func27, Try.ntmps27
  go_upto_region 15 with fail
  refine kName (fun W hW => ?_)
  rw [← hW] at HA
  clear hW
  obtain ⟨X, hX⟩ : ∃ X, w.heap.size + 1 = X := ⟨_, rfl⟩
  rw [hX] at HA
  obtain ⟨Y, hY⟩ : ∃ Y, X + 1 = Y := ⟨_, rfl⟩
  rw [hY] at HA
  have HX := Lib.hid hX
  have HY := Lib.hid hY
  rw [hX, hY]
  clear hX hY c2 c3
  have hgW1 : g < W.heap.size := Nat.lt_of_lt_of_le hg HA.out.below.size
  have cN1 : W.cell? ⟨g, o + 6, none⟩ = some (.map p1) := (HA.out.below.cell (p := ⟨g, _, none⟩) hg).trans HC6.out
  have cY1 : W.cell? ⟨Y, 0, none⟩ = some (.map p0) := by rw [blk_cell HA.out.by_]; rfl
  have hgY1 : ¬ g = Y := by have h1 := HA.out.x; have h2 := HA.out.y; omega
  refine wp_region_held_drew (S := (fun WW => WW.cell? ⟨g, o + 6, none⟩ = some (.map p1))) (by kernel_rfl) ?_ (fun hHeld => ?_)
  · (try dsimp only); exact cN1
  refine wpAnyH_take (i := 0) (oi := ⟨some 66, _, _, _, _, _⟩) (v := ?_) rfl (by kernel_rfl) (by kernel_rfl) (by kernel_rfl) (fun _ _ _ h => h) (Or.inl ⟨by kernel_rfl, ?_⟩) (by assumption) ?_
  rotate_left
  · (intro ww hSw; (try dsimp only at hSw); go_simp); (try with_reducible rfl)
  (try simp only [Act.put, List.setIfInBounds_toArray, List.set_cons_zero, List.set_cons_succ])
  refine wpAnyH_take (i := 2) (oi := ⟨some 68, _, _, _, _, _⟩) (v := ?_) rfl (by kernel_rfl) (by kernel_rfl) (by kernel_rfl) (fun _ _ _ h => h) (Or.inl ⟨by kernel_rfl, ?_⟩) (by assumption) ?_
  rotate_left
  · (intro ww hSw; (try dsimp only at hSw); go_simp); (try with_reducible rfl)
  (try simp only [Act.put, List.setIfInBounds_toArray, List.set_cons_zero, List.set_cons_succ])
  refine wpAnyH_take (i := 3) (oi := ⟨some 69, _, _, _, _, _⟩) (v := ?_) rfl (by kernel_rfl) (by kernel_rfl) (by kernel_rfl) (fun _ _ _ h => h) (Or.inl ⟨by kernel_rfl, ?_⟩) (by assumption) ?_
  rotate_left
  · (intro ww hSw; (try dsimp only at hSw); go_simp); (try with_reducible rfl)
  (try simp only [Act.put, List.setIfInBounds_toArray, List.set_cons_zero, List.set_cons_succ])
  refine wpAnyH_take (i := 4) (oi := ⟨some 70, _, _, _, _, _⟩) (v := ?_) rfl (by kernel_rfl) (by kernel_rfl) (by kernel_rfl) (fun _ _ _ h => h) (Or.inl ⟨by kernel_rfl, ?_⟩) (by assumption) ?_
  rotate_left
  · (intro ww hSw; (try dsimp only at hSw); go_simp); (try with_reducible rfl)
  (try simp only [Act.put, List.setIfInBounds_toArray, List.set_cons_zero, List.set_cons_succ])
  refine wpAnyH_take (i := 5) (oi := ⟨some 71, _, _, _, _, _⟩) (v := ?_) rfl (by kernel_rfl) (by kernel_rfl) (by kernel_rfl) (fun _ _ _ h => h) (Or.inl ⟨by kernel_rfl, ?_⟩) (by assumption) ?_
  rotate_left
  · (intro ww hSw; (try dsimp only at hSw); go_simp); (try with_reducible rfl)
  (try simp only [Act.put, List.setIfInBounds_toArray, List.set_cons_zero, List.set_cons_succ])
  refine wpAnyH_take (i := 6) (oi := ⟨some 72, _, _, _, _, _⟩) (v := ?_) rfl (by kernel_rfl) (by kernel_rfl) (by kernel_rfl) (fun _ _ _ h => h) (Or.inl ⟨by kernel_rfl, ?_⟩) (by assumption) ?_
  rotate_left
  · (intro ww hSw; (try dsimp only at hSw); go_simp); (try with_reducible rfl)
  (try simp only [Act.put, List.setIfInBounds_toArray, List.set_cons_zero, List.set_cons_succ])
  refine wpAnyH_ready (rs := [1]) (by kernel_rfl) (by simp) ?_
  refine AllReadyH.cons rfl (fun K hK => ?_) AllReadyH.nil
  go_simp
  refine hK.out _ _ ?_ (fun hHeld => ?_)
  · (try dsimp only); exact cN1
  clear hK K
  (try simp only [Act.put, List.setIfInBounds_toArray, List.set_cons_zero, List.set_cons_succ])
  refine wpAnyH_ready (rs := [7]) (by kernel_rfl) (by simp) ?_
  refine AllReadyH.cons rfl (fun K hK => ?_) AllReadyH.nil
  go_simp
  refine (either_calls _ _ _ _ _ (HA.out.drew.hp) ((H2.out.on (mapsOn_below HA.out.drew.below))) HL.out).mono ?_
  rintro e w1 ⟨P1, rfl, hS, hb2⟩
  have HS1 := Lib.hid hS
  have hbw1 : Below W.drew.heap.size W.drew w1 := hb2
  have HA1 := Lib.hid (HA.out.drew.on hbw1)
  have cW1 : w1.cell? ⟨g, o + 6, none⟩ = some (.map p1) := (hbw1.cell (p := ⟨g, _, none⟩) hgW1).trans cN1
  have fY1 : w1.frozen? ⟨Y, 0, none⟩ = false := blk_free HA1.out.by_ 0
  have yY1 : w1.cell? ⟨Y, 0, none⟩ = some (.map p0) := by rw [blk_cell HA1.out.by_]; rfl
  clear hS hb2
  go_wp2_with fail
  refine hK.out _ _ ?_ (fun hHeld => ?_)
  · (try dsimp only); exact cW1
  clear hK K
  (try simp only [Act.put, List.setIfInBounds_toArray, List.set_cons_zero, List.set_cons_succ])
  refine wpAnyH_take (i := 8) (oi := ⟨some 74, _, _, _, _, _⟩) (v := ?_) rfl (by kernel_rfl) (by kernel_rfl) (by kernel_rfl) (fun _ _ _ h => h) (Or.inl ⟨by kernel_rfl, ?_⟩) (by assumption) ?_
  rotate_left
  · (intro ww hSw; (try dsimp only at hSw); go_simp); (try with_reducible rfl)
  (try simp only [Act.put, List.setIfInBounds_toArray, List.set_cons_zero, List.set_cons_succ])
  refine wpAnyH_ready (rs := [9]) (by kernel_rfl) (by simp) ?_
  refine AllReadyH.cons rfl (fun K hK => ?_) AllReadyH.nil
  go_simp
  refine hK.out _ _ ?_ (fun hHeld => ?_)
  · (try dsimp only); (simp [go_sem, cW1])
  clear hK K
  (try simp only [Act.put, List.setIfInBounds_toArray, List.set_cons_zero, List.set_cons_succ])
  refine wpAnyH_done (by kernel_rfl) ?_ _
  have HB1 := Lib.hid (HA1.out.set0 HS1.out)
  clear cN1 cY1 cW1 fY1 yY1 hgW1 hgY1 hbw1 HS1 HA1
  go_upto_region 21 with fail
  refine kName (fun W2 hW2 => ?_)
  rw [← hW2] at HB1
  clear hW2
  have y0 := (blk_cell HB1.out.by_ 0).trans (show _ = some (Value.map P1) from rfl)
  have y1 := (blk_cell HB1.out.by_ 1).trans (show _ = some (Value.map q0) from rfl)
  have hX0 := HB1.out.bx
  go_wp2_with (refine kWhole 33 (.tmp 4) (.tmp 90) ⟨rfl, rfl⟩ X #[.map P1, .map q0] (by kernel_rfl) (by kernel_rfl) 33 #[.map none, .map none] (by first | exact hX0 | exact blkD hX0) (by kernel_rfl) rfl (by kernel_rfl) ?_; intro w4 hA4 hG4)
  have hm := kMaps hG4.out hX0
  refine bring_ret _ _ X P1 q0 _ (by first | rfl | simp) hA4.out ⟨P1, q0, rfl, HB1.out.hp.on hm, HB1.out.hq.on hm, HB1.out.below.grown hG4.out HB1.out.below.size (fun j hj => by cases hj; exact Nat.le_of_lt HB1.out.x)⟩

set_option maxRecDepth 100000 in
set_option maxHeartbeats 4000000 in
theorem bring_6 (ta : Option Addr) (tn tc : Nat) (va : Option Addr) (vn vc : Nat) (ra : Option Addr) (rn rc : Nat) (fa : Option Addr) (fn fc : Nat) (m : List UInt8) (s : Bool) (g o c : Nat) (p0 q0 : Option Nat) (A1 B1 : List (List UInt8)) (p1 q1 : Option Nat) (A2 B2 : List (List UInt8)) (w : World) (hg : g < w.heap.size)
    (c2 : w.cell? ⟨g, o + 2, none⟩ = some (.map p0)) (c3 : w.cell? ⟨g, o + 3, none⟩ = some (.map q0)) (h0 : SetA w p0 A1) (h1 : SetA w q0 B1)
    (c6 : w.cell? ⟨g, o + 6, none⟩ = some (.map p1)) (c7 : w.cell? ⟨g, o + 7, none⟩ = some (.map q1)) (h2 : SetA w p1 A2) (h3 : SetA w q1 B2) (hl : A1.length + A2.length ≤ 4294967296) (hl2 : B1.length + B2.length ≤ 4294967296) :
    Calls Try.prog 27 #[.agg #[.int .i64 6, .slice ta tn tc, .slice va vn vc, .slice ra rn rc, .slice fa fn fc, .string (bs m), .bool s], .slice (some ⟨g, o, none⟩) 2 c] w (TwoT w (A1) (B1)) := by
  have HC6 := Lib.hid c6
  have HC7 := Lib.hid c7
  have H2 := Lib.hid h2
  have H3 := Lib.hid h3
  have HL := Lib.hid hl
  have HL2 := Lib.hid hl2
  clear h2 h3 hl hl2 c6 c7
  have HA := Lib.hid (atV_start w (.cells #[.int .i64 6, .slice ta tn tc, .slice va vn vc, .slice ra rn rc, .slice fa fn fc, .string (bs m), .bool s] 50) p0 q0 A1 B1 h0 h1)
  clear h0 h1
  go_enter Try.func27, Try.ntmps27
  go_upto_region 21 with fail
  refine kName (fun W hW => ?_)
  rw [← hW] at HA
  clear hW
  obtain ⟨X, hX⟩ : ∃ X, w.heap.size + 1 = X := ⟨_, rfl⟩
  rw [hX] at HA
  obtain ⟨Y, hY⟩ : ∃ Y, X + 1 = Y := ⟨_, rfl⟩
  rw [hY] at HA
  have HX := Lib.hid hX
  have HY := Lib.hid hY
  rw [hX, hY]
  clear hX hY c2 c3
  have y0 := (blk_cell HA.out.by_ 0).trans (show _ = some (Value.map p0) from rfl)
  have y1 := (blk_cell HA.out.by_ 1).trans (show _ = some (Value.map q0) from rfl)
  have hX0 := HA.out.bx
  go_wp2_with (refine kWhole 33 (.tmp 4) (.tmp 90) ⟨rfl, rfl⟩ X #[.map p0, .map q0] (by kernel_rfl) (by kernel_rfl) 33 #[.map none, .map none] (by first | exact hX0 | exact blkD hX0) (by kernel_rfl) rfl (by kernel_rfl) ?_; intro w4 hA4 hG4)
  have hm := kMaps hG4.out hX0
  refine bring_ret _ _ X p0 q0 _ (by first | rfl | simp) hA4.out ⟨p0, q0, rfl, HA.out.hp.on hm, HA.out.hq.on hm, HA.out.below.grown hG4.out HA.out.below.size (fun j hj => by cases hj; exact Nat.le_of_lt HA.out.x)⟩

set_option maxRecDepth 100000 in
set_option maxHeartbeats 4000000 in
theorem bring_7 (ta : Option Addr) (tn tc : Nat) (va : Option Addr) (vn vc : Nat) (ra : Option Addr) (rn rc : Nat) (fa : Option Addr) (fn fc : Nat) (m : List UInt8) (s : Bool) (g o c : Nat) (p0 q0 : Option Nat) (A1 B1 : List (List UInt8)) (w : World) (hg : g < w.heap.size)
    (c2 : w.cell? ⟨g, o + 2, none⟩ = some (.map p0)) (c3 : w.cell? ⟨g, o + 3, none⟩ = some (.map q0)) (h0 : SetA w p0 A1) (h1 : SetA w q0 B1) :
    Calls Try.prog 27 #[.agg #[.int .i64 7, .slice ta tn tc, .slice va vn vc, .slice ra rn rc, .slice fa fn fc, .string (bs m), .bool s], .slice (some ⟨g, o, none⟩) 1 c] w (TwoT w (A1) (B1)) := by
  have HA := Lib.hid (atV_start w (.cells #[.int .i64 7, .slice ta tn tc, .slice va vn vc, .slice ra rn rc, .slice fa fn fc, .string (bs m), .bool s] 50) p0 q0 A1 B1 h0 h1)
  clear h0 h1
  go_enter Try.func27, Try.ntmps27
  go_upto_region 21 with fail
  refine kName (fun W hW => ?_)
  rw [← hW] at HA
  clear hW
  obtain ⟨X, hX⟩ : ∃ X, w.heap.size + 1 = X := ⟨_, rfl⟩
  rw [hX] at HA
  obtain ⟨Y, hY⟩ : ∃ Y, X + 1 = Y := ⟨_, rfl⟩
  rw [hY] at HA
  have HX := Lib.hid hX
  have HY := Lib.hid hY
  rw [hX, hY]
  clear hX hY c2 c3
  have y0 := (blk_cell HA.out.by_ 0).trans (show _ = some (Value.map p0) from rfl)
  have y1 := (blk_cell HA.out.by_ 1).trans (show _ = some (Value.map q0) from rfl)
  have hX0 := HA.out.bx
  go_wp2_with (refine kWhole 33 (.tmp 4) (.tmp 90) ⟨rfl, rfl⟩ X #[.map p0, .map q0] (by kernel_rfl) (by kernel_rfl) 33 #[.map none, .map none] (by first | exact hX0 | exact blkD hX0) (by kernel_rfl) rfl (by kernel_rfl) ?_; intro w4 hA4 hG4)
  have hm := kMaps hG4.out hX0
  refine bring_ret _ _ X p0 q0 _ (by first | rfl | simp) hA4.out ⟨p0, q0, rfl, HA.out.hp.on hm, HA.out.hq.on hm, HA.out.below.grown hG4.out HA.out.below.size (fun j hj => by cases hj; exact Nat.le_of_lt HA.out.x)⟩

set_option maxRecDepth 100000 in
set_option maxHeartbeats 4000000 in
theorem bring_9f (ta : Option Addr) (tn tc : Nat) (va : Option Addr) (vn vc : Nat) (ra : Option Addr) (rn rc : Nat) (fa : Option Addr) (fn fc : Nat) (m : List UInt8) (g o c : Nat) (p0 q0 : Option Nat) (A1 B1 : List (List UInt8)) (w : World) (hg : g < w.heap.size)
    (c2 : w.cell? ⟨g, o + 2, none⟩ = some (.map p0)) (c3 : w.cell? ⟨g, o + 3, none⟩ = some (.map q0)) (h0 : SetA w p0 A1) (h1 : SetA w q0 B1) :
    Calls Try.prog 27 #[.agg #[.int .i64 9, .slice ta tn tc, .slice va vn vc, .slice ra rn rc, .slice fa fn fc, .string (bs m), .bool false], .slice (some ⟨g, o, none⟩) 1 c] w (TwoT w (A1) (B1)) := by
  have HA := Lib.hid (atV_start w (.cells #[.int .i64 9, .slice ta tn tc, .slice va vn vc, .slice ra rn rc, .slice fa fn fc, .string (bs m), .bool false] 50) p0 q0 A1 B1 h0 h1)
  clear h0 h1
  go_enter Try.func27, Try.ntmps27
  go_upto_region 21 with fail
  refine kName (fun W hW => ?_)
  rw [← hW] at HA
  clear hW
  obtain ⟨X, hX⟩ : ∃ X, w.heap.size + 1 = X := ⟨_, rfl⟩
  rw [hX] at HA
  obtain ⟨Y, hY⟩ : ∃ Y, X + 1 = Y := ⟨_, rfl⟩
  rw [hY] at HA
  have HX := Lib.hid hX
  have HY := Lib.hid hY
  rw [hX, hY]
  clear hX hY c2 c3
  have y0 := (blk_cell HA.out.by_ 0).trans (show _ = some (Value.map p0) from rfl)
  have y1 := (blk_cell HA.out.by_ 1).trans (show _ = some (Value.map q0) from rfl)
  have hX0 := HA.out.bx
  go_wp2_with (refine kWhole 33 (.tmp 4) (.tmp 90) ⟨rfl, rfl⟩ X #[.map p0, .map q0] (by kernel_rfl) (by kernel_rfl) 33 #[.map none, .map none] (by first | exact hX0 | exact blkD hX0) (by kernel_rfl) rfl (by kernel_rfl) ?_; intro w4 hA4 hG4)
  have hm := kMaps hG4.out hX0
  refine bring_ret _ _ X p0 q0 _ (by first | rfl | simp) hA4.out ⟨p0, q0, rfl, HA.out.hp.on hm, HA.out.hq.on hm, HA.out.below.grown hG4.out HA.out.below.size (fun j hj => by cases hj; exact Nat.le_of_lt HA.out.x)⟩

set_option maxRecDepth 100000 in
set_option maxHeartbeats 4000000 in
theorem bring_9t (ta : Option Addr) (tn tc : Nat) (va : Option Addr) (vn vc : Nat) (ra : Option Addr) (rn rc : Nat) (fa : Option Addr) (fn fc : Nat) (m : List UInt8) (g o c : Nat) (p0 q0 : Option Nat) (A1 B1 : List (List UInt8)) (w : World) (hg : g < w.heap.size)
    (c2 : w.cell? ⟨g, o + 2, none⟩ = some (.map p0)) (c3 : w.cell? ⟨g, o + 3, none⟩ = some (.map q0)) (h0 : SetA w p0 A1) (h1 : SetA w q0 B1) :
    Calls Try.prog 27 #[.agg #[.int .i64 9, .slice ta tn tc, .slice va vn vc, .slice ra rn rc, .slice fa fn fc, .string (bs m), .bool true], .slice (some ⟨g, o, none⟩) 1 c] w (TwoT w (A1) ([])) := by
  have HA := Lib.hid (atV_start w (.cells #[.int .i64 9, .slice ta tn tc, .slice va vn vc, .slice ra rn rc, .slice fa fn fc, .string (bs m), .bool true] 50) p0 q0 A1 B1 h0 h1)
  clear h0 h1
  go_enter Try.func27, Try.ntmps27
  go_upto_region 20 with fail
  refine kName (fun W hW => ?_)
  rw [← hW] at HA
  clear hW
  obtain ⟨X, hX⟩ : ∃ X, w.heap.size + 1 = X := ⟨_, rfl⟩
  rw [hX] at HA
  obtain ⟨Y, hY⟩ : ∃ Y, X + 1 = Y := ⟨_, rfl⟩
  rw [hY] at HA
  have HX := Lib.hid hX
  have HY := Lib.hid hY
  rw [hX, hY]
  clear hX hY c2 c3
  have HB := Lib.hid (HA.out.set1 (setA_none W))
  have fY : W.frozen? ⟨Y, 1, none⟩ = false := blk_free HA.out.by_ 1
  have yY : W.cell? ⟨Y, 1, none⟩ = some (.map q0) := (blk_cell HA.out.by_ 1).trans rfl
  go_upto_region 21 with fail
  clear fY yY
  refine kName (fun W2 hW2 => ?_)
  rw [← hW2] at HB
  clear hW2
  have y0 := (blk_cell HB.out.by_ 0).trans (show _ = some (Value.map p0) from rfl)
  have y1 := (blk_cell HB.out.by_ 1).trans (show _ = some (Value.map none) from rfl)
  have hX0 := HB.out.bx
  go_wp2_with (refine kWhole 33 (.tmp 4) (.tmp 90) ⟨rfl, rfl⟩ X #[.map p0, .map none] (by kernel_rfl) (by kernel_rfl) 33 #[.map none, .map none] (by first | exact hX0 | exact blkD hX0) (by kernel_rfl) rfl (by kernel_rfl) ?_; intro w4 hA4 hG4)
  have hm := kMaps hG4.out hX0
  refine bring_ret _ _ X p0 none _ (by first | rfl | simp) hA4.out ⟨p0, none, rfl, HB.out.hp.on hm, HB.out.hq.on hm, HB.out.below.grown hG4.out HB.out.below.size (fun j hj => by cases hj; exact Nat.le_of_lt HB.out.x)⟩

end Go.Proofs.Ytiliobfgmelncaa

namespace Go.Proofs.Ytiliobfgmelncaa
open Go.RowKit Go.Maps

set_option maxRecDepth 100000 in
set_option maxHeartbeats 4000000 in
theorem bring_8 (ta : Option Addr) (tn tc : Nat) (va : Option Addr) (vn vc : Nat) (ra : Option Addr) (rn rc : Nat) (fa : Option Addr) (fn fc : Nat) (m : List UInt8) (s : Bool) (g o c : Nat) (p0 q0 : Option Nat) (A1 B1 : List (List UInt8)) (w : World) (hg : g < w.heap.size)
    (c2 : w.cell? ⟨g, o + 2, none⟩ = some (.map p0)) (c3 : w.cell? ⟨g, o + 3, none⟩ = some (.map q0)) (h0 : SetA w p0 A1) (h1 : SetA w q0 B1) (hm : (bs m).size ≤ maxLen) (hl : A1.length ≤ 4294967295) :
    Calls Try.prog 27 #[.agg #[.int .i64 8, .slice ta tn tc, .slice va vn vc, .slice ra rn rc, .slice fa fn fc, .string (bs m), .bool s], .slice (some ⟨g, o, none⟩) 1 c] w (TwoT w (moreO A1 m) (B1)) := by
  have HA := Lib.hid (atV_start w (.cells #[.int .i64 8, .slice ta tn tc, .slice va vn vc, .slice ra rn rc, .slice fa fn fc, .string (bs m), .bool s] 50) p0 q0 A1 B1 h0 h1)
  clear h0 h1
  have HM := Lib.hid hm
  have HL := Lib.hid hl
  clear hm hl
  go_enter Try.func27, Try.ntmps27
  go_upto_region 17 with fail
  refine kName (fun W hW => ?_)
  have cM : W.cell? ⟨w.heap.size, 5, none⟩ = some (.string (bs m)) := by rw [hW]; simp [go_sem]
  rw [← hW] at HA
  clear hW
  obtain ⟨X, hX⟩ : ∃ X, w.heap.size + 1 = X := ⟨_, rfl⟩
  rw [hX] at HA
  obtain ⟨Y, hY⟩ : ∃ Y, X + 1 = Y := ⟨_, rfl⟩
  rw [hY] at HA
  have HX := Lib.hid hX
  have HY := Lib.hid hY
  rw [hX, hY]
  clear hX hY c2 c3
  have yV : W.cell? ⟨Y, 0, none⟩ = some (.map p0) := (blk_cell HA.out.by_ 0).trans rfl
  have yL : Y < W.heap.size := blk_lt HA.out.by_
  have yN : ¬ Y = W.heap.size := by omega
  have yW : W.drew.cell? ⟨Y, 0, none⟩ = some (.map p0) := (blk_cell HA.out.drew.by_ 0).trans rfl
  have hlS : w.heap.size < (W.drew.alloc (.cells #[.string (bs m)] 9)).heap.size := by have h1 := HA.out.x; have h2 := HA.out.y; have h3 := blk_lt HA.out.by_; have h4 : W.drew.heap.size = W.heap.size := rfl; simp; omega
  have cS : (W.drew.alloc (.cells #[.string (bs m)] 9)).cell? ⟨w.heap.size, 5, none⟩ = some (.string (bs m)) := ((box_below W.drew _).cell (p := ⟨w.heap.size, _, none⟩) (by have h1 := HA.out.x; have h2 := HA.out.y; have h3 := blk_lt HA.out.by_; show w.heap.size < W.heap.size; omega)).trans cM
  have HAS := Lib.hid (HA.out.drew.on (box_below W.drew (.cells #[.string (bs m)] 9)))
  have yS : (W.drew.alloc (.cells #[.string (bs m)] 9)).cell? ⟨Y, 0, none⟩ = some (.map p0) := (blk_cell HAS.out.by_ 0).trans rfl
  have HTX : Hid (TxtA (W.drew.alloc (.cells #[.string (bs m)] 9)) (some ⟨W.heap.size, 0, none⟩) 1 1 [m]) := Lib.hid ⟨rfl, Nat.le_refl _, by decide, fun _ => ⟨W.heap.size, 0, rfl, by simp, fun j hj => by
    have hj0 : j = 0 := by simpa using hj
    subst hj0
    exact (blk_cell (blk_new W.drew 9 #[.string (bs m)]) 0).trans rfl⟩⟩
  refine wp_region_held_drew (S := (fun WW => WW.cell? ⟨w.heap.size, 5, none⟩ = some (.string (bs m)))) (by kernel_rfl) ?_ (fun hHeld => ?_)
  · (try dsimp only); exact cM
  refine wpAnyH_take (i := 0) (oi := ⟨some 77, _, _, _, _, _⟩) (v := ?_) rfl (by kernel_rfl) (by kernel_rfl) (by kernel_rfl) (fun _ _ _ h => h) (Or.inl ⟨by kernel_rfl, ?_⟩) (by assumption) ?_
  rotate_left
  · (intro ww hSw; (try dsimp only at hSw); go_simp); (try with_reducible rfl)
  (try simp only [Act.put, List.setIfInBounds_toArray, List.set_cons_zero, List.set_cons_succ])
  refine wpAnyH_take (i := 2) (oi := ⟨some 79, _, _, _, _, _⟩) (v := ?_) rfl (by kernel_rfl) (by kernel_rfl) (by kernel_rfl) (fun _ _ _ h => h) (Or.inl ⟨by kernel_rfl, ?_⟩) (by assumption) ?_
  rotate_left
  · (intro ww hSw; (try dsimp only at hSw); go_simp); (try with_reducible rfl)
  (try simp only [Act.put, List.setIfInBounds_toArray, List.set_cons_zero, List.set_cons_succ])
  refine wpAnyH_take (i := 3) (oi := ⟨some 80, _, _, _, _, _⟩) (v := ?_) rfl (by kernel_rfl) (by kernel_rfl) (by kernel_rfl) (fun _ _ _ h => h) (Or.inl ⟨by kernel_rfl, ?_⟩) (by assumption) ?_
  rotate_left
  · (intro ww hSw; (try dsimp only at hSw); go_simp); (try with_reducible rfl)
  (try simp only [Act.put, List.setIfInBounds_toArray, List.set_cons_zero, List.set_cons_succ])
  refine wpAnyH_ready (rs := [1, 4]) (by kernel_rfl) (by simp) ?_
  refine AllReadyH.cons rfl (fun K hK => ?_) (AllReadyH.cons rfl (fun K hK => ?_) AllReadyH.nil)
  · go_simp
    refine hK.out _ _ ?_ (fun hHeld => ?_)
    · (try dsimp only); exact cM
    clear hK K
    (try simp only [Act.put, List.setIfInBounds_toArray, List.set_cons_zero, List.set_cons_succ])
    refine wpAnyH_ready (rs := [4]) (by kernel_rfl) (by simp) ?_
    refine AllReadyH.cons rfl (fun K hK => ?_) AllReadyH.nil
    go_simp
    refine hK.out _ _ ?_ (fun hHeld => ?_)
    · (try dsimp only); exact cS
    clear hK K
    (try simp only [Act.put, List.setIfInBounds_toArray, List.set_cons_zero, List.set_cons_succ])
    refine wpAnyH_ready (rs := [5]) (by kernel_rfl) (by simp) ?_
    refine AllReadyH.cons rfl (fun K hK => ?_) AllReadyH.nil
    go_simp
    refine (setOf_calls [m] (fun x hx => by rw [List.mem_singleton] at hx; rw [hx]; exact HM.out) (some ⟨W.heap.size, 0, none⟩) 1 1 _ HTX.out).mono ?_
    rintro e w1 ⟨P1, rfl, hS, hb1⟩
    have HS1 := Lib.hid hS
    have HA1 := Lib.hid (HAS.out.on hb1)
    have c1 : w1.cell? ⟨w.heap.size, 5, none⟩ = some (.string (bs m)) := (hb1.cell (p := ⟨w.heap.size, _, none⟩) hlS).trans cS
    have y1 : w1.cell? ⟨Y, 0, none⟩ = some (.map p0) := (blk_cell HA1.out.by_ 0).trans rfl
    clear hS hb1
    go_wp2_with fail
    refine hK.out _ _ ?_ (fun hHeld => ?_)
    · (try dsimp only); exact c1
    clear hK K
    (try simp only [Act.put, List.setIfInBounds_toArray, List.set_cons_zero, List.set_cons_succ])
    refine wpAnyH_ready (rs := [6]) (by kernel_rfl) (by simp) ?_
    refine AllReadyH.cons rfl (fun K hK => ?_) AllReadyH.nil
    go_simp
    refine (either_calls A1 [m] _ _ w1 HA1.out.hp (by first | exact HS1.out | (have h := HS1.out; simpa [allOf, unionO, moreO, insL] using h)) (by have := HL.out; show A1.length + 1 ≤ _; omega)).mono ?_
    rintro e w2 ⟨P2, rfl, hS, hb2⟩
    have HS2 := Lib.hid hS
    have HA2 := Lib.hid (HA1.out.on hb2)
    have c2 : w2.cell? ⟨w.heap.size, 5, none⟩ = some (.string (bs m)) := (hb2.cell (p := ⟨w.heap.size, _, none⟩) (by have h1 := HA1.out.x; have h2 := HA1.out.y; have h3 := blk_lt HA1.out.by_; show w.heap.size < w1.heap.size; omega)).trans c1
    have f2 : w2.frozen? ⟨Y, 0, none⟩ = false := blk_free HA2.out.by_ 0
    have y2 : w2.cell? ⟨Y, 0, none⟩ = some (.map p0) := (blk_cell HA2.out.by_ 0).trans rfl
    have hne : ¬ w.heap.size = Y := by have h1 := HA.out.x; have h2 := HA.out.y; omega
    clear hS hb2
    go_wp2_with fail
    refine hK.out _ _ ?_ (fun hHeld => ?_)
    · (try dsimp only); exact c2
    clear hK K
    (try simp only [Act.put, List.setIfInBounds_toArray, List.set_cons_zero, List.set_cons_succ])
    refine wpAnyH_take (i := 7) (oi := ⟨some 84, _, _, _, _, _⟩) (v := ?_) rfl (by kernel_rfl) (by kernel_rfl) (by kernel_rfl) (fun _ _ _ h => h) (Or.inl ⟨by kernel_rfl, ?_⟩) (by assumption) ?_
    rotate_left
    · (intro ww hSw; (try dsimp only at hSw); go_simp); (try with_reducible rfl)
    (try simp only [Act.put, List.setIfInBounds_toArray, List.set_cons_zero, List.set_cons_succ])
    refine wpAnyH_ready (rs := [8]) (by kernel_rfl) (by simp) ?_
    refine AllReadyH.cons rfl (fun K hK => ?_) AllReadyH.nil
    go_simp
    refine hK.out _ _ ?_ (fun hHeld => ?_)
    · (try dsimp only); (simp [go_sem, c2])
    clear hK K
    (try simp only [Act.put, List.setIfInBounds_toArray, List.set_cons_zero, List.set_cons_succ])
    refine wpAnyH_done (by kernel_rfl) ?_ _
    have HB := Lib.hid (HA2.out.set0 HS2.out)
    clear yV yL yN yW hlS cS yS c1 y1 c2 f2 y2 hne cM HAS HTX
    go_upto_region 21 with fail
    refine kName (fun W2 hW2 => ?_)
    rw [← hW2] at HB
    clear hW2
    have y0 := (blk_cell HB.out.by_ 0).trans (show _ = some (Value.map P2) from rfl)
    have y1 := (blk_cell HB.out.by_ 1).trans (show _ = some (Value.map q0) from rfl)
    have hX0 := HB.out.bx
    go_wp2_with (refine kWhole 33 (.tmp 4) (.tmp 90) ⟨rfl, rfl⟩ X #[.map P2, .map q0] (by kernel_rfl) (by kernel_rfl) 33 #[.map none, .map none] (by first | exact hX0 | exact blkD hX0) (by kernel_rfl) rfl (by kernel_rfl) ?_; intro w4 hA4 hG4)
    have hm := kMaps hG4.out hX0
    refine bring_ret _ _ X P2 q0 _ (by first | rfl | simp) hA4.out ⟨P2, q0, rfl, HB.out.hp.on hm, HB.out.hq.on hm, HB.out.below.grown hG4.out HB.out.below.size (fun j hj => by cases hj; exact Nat.le_of_lt HB.out.x)⟩
  · go_simp
    refine hK.out _ _ ?_ (fun hHeld => ?_)
    · (try dsimp only); exact cS
    clear hK K
    (try simp only [Act.put, List.setIfInBounds_toArray, List.set_cons_zero, List.set_cons_succ])
    refine wpAnyH_ready (rs := [1, 5]) (by kernel_rfl) (by simp) ?_
    refine AllReadyH.cons rfl (fun K hK => ?_) (AllReadyH.cons rfl (fun K hK => ?_) AllReadyH.nil)
    · go_simp
      refine hK.out _ _ ?_ (fun hHeld => ?_)
      · (try dsimp only); exact cS
      clear hK K
      (try simp only [Act.put, List.setIfInBounds_toArray, List.set_cons_zero, List.set_cons_succ])
      refine wpAnyH_ready (rs := [5]) (by kernel_rfl) (by simp) ?_
      refine AllReadyH.cons rfl (fun K hK => ?_) AllReadyH.nil
      go_simp
      refine (setOf_calls [m] (fun x hx => by rw [List.mem_singleton] at hx; rw [hx]; exact HM.out) (some ⟨W.heap.size, 0, none⟩) 1 1 _ HTX.out).mono ?_
      rintro e w1 ⟨P1, rfl, hS, hb1⟩
      have HS1 := Lib.hid hS
      have HA1 := Lib.hid (HAS.out.on hb1)
      have c1 : w1.cell? ⟨w.heap.size, 5, none⟩ = some (.string (bs m)) := (hb1.cell (p := ⟨w.heap.size, _, none⟩) hlS).trans cS
      have y1 : w1.cell? ⟨Y, 0, none⟩ = some (.map p0) := (blk_cell HA1.out.by_ 0).trans rfl
      clear hS hb1
      go_wp2_with fail
      refine hK.out _ _ ?_ (fun hHeld => ?_)
      · (try dsimp only); exact c1
      clear hK K
      (try simp only [Act.put, List.setIfInBounds_toArray, List.set_cons_zero, List.set_cons_succ])
      refine wpAnyH_ready (rs := [6]) (by kernel_rfl) (by simp) ?_
      refine AllReadyH.cons rfl (fun K hK => ?_) AllReadyH.nil
      go_simp
      refine (either_calls A1 [m] _ _ w1 HA1.out.hp (by first | exact HS1.out | (have h := HS1.out; simpa [allOf, unionO, moreO, insL] using h)) (by have := HL.out; show A1.length + 1 ≤ _; omega)).mono ?_
      rintro e w2 ⟨P2, rfl, hS, hb2⟩
      have HS2 := Lib.hid hS
      have HA2 := Lib.hid (HA1.out.on hb2)
      have c2 : w2.cell? ⟨w.heap.size, 5, none⟩ = some (.string (bs m)) := (hb2.cell (p := ⟨w.heap.size, _, none⟩) (by have h1 := HA1.out.x; have h2 := HA1.out.y; have h3 := blk_lt HA1.out.by_; show w.heap.size < w1.heap.size; omega)).trans c1
      have f2 : w2.frozen? ⟨Y, 0, none⟩ = false := blk_free HA2.out.by_ 0
      have y2 : w2.cell? ⟨Y, 0, none⟩ = some (.map p0) := (blk_cell HA2.out.by_ 0).trans rfl
      have hne : ¬ w.heap.size = Y := by have h1 := HA.out.x; have h2 := HA.out.y; omega
      clear hS hb2
      go_wp2_with fail
      refine hK.out _ _ ?_ (fun hHeld => ?_)
      · (try dsimp only); exact c2
      clear hK K
      (try simp only [Act.put, List.setIfInBounds_toArray, List.set_cons_zero, List.set_cons_succ])
      refine wpAnyH_take (i := 7) (oi := ⟨some 84, _, _, _, _, _⟩) (v := ?_) rfl (by kernel_rfl) (by kernel_rfl) (by kernel_rfl) (fun _ _ _ h => h) (Or.inl ⟨by kernel_rfl, ?_⟩) (by assumption) ?_
      rotate_left
      · (intro ww hSw; (try dsimp only at hSw); go_simp); (try with_reducible rfl)
      (try simp only [Act.put, List.setIfInBounds_toArray, List.set_cons_zero, List.set_cons_succ])
      refine wpAnyH_ready (rs := [8]) (by kernel_rfl) (by simp) ?_
      refine AllReadyH.cons rfl (fun K hK => ?_) AllReadyH.nil
      go_simp
      refine hK.out _ _ ?_ (fun hHeld => ?_)
      · (try dsimp only); (simp [go_sem, c2])
      clear hK K
      (try simp only [Act.put, List.setIfInBounds_toArray, List.set_cons_zero, List.set_cons_succ])
      refine wpAnyH_done (by kernel_rfl) ?_ _
      have HB := Lib.hid (HA2.out.set0 HS2.out)
      clear yV yL yN yW hlS cS yS c1 y1 c2 f2 y2 hne cM HAS HTX
      go_upto_region 21 with fail
      refine kName (fun W2 hW2 => ?_)
      rw [← hW2] at HB
      clear hW2
      have y0 := (blk_cell HB.out.by_ 0).trans (show _ = some (Value.map P2) from rfl)
      have y1 := (blk_cell HB.out.by_ 1).trans (show _ = some (Value.map q0) from rfl)
      have hX0 := HB.out.bx
      go_wp2_with (refine kWhole 33 (.tmp 4) (.tmp 90) ⟨rfl, rfl⟩ X #[.map P2, .map q0] (by kernel_rfl) (by kernel_rfl) 33 #[.map none, .map none] (by first | exact hX0 | exact blkD hX0) (by kernel_rfl) rfl (by kernel_rfl) ?_; intro w4 hA4 hG4)
      have hm := kMaps hG4.out hX0
      refine bring_ret _ _ X P2 q0 _ (by first | rfl | simp) hA4.out ⟨P2, q0, rfl, HB.out.hp.on hm, HB.out.hq.on hm, HB.out.below.grown hG4.out HB.out.below.size (fun j hj => by cases hj; exact Nat.le_of_lt HB.out.x)⟩
    · go_simp
      refine (setOf_calls [m] (fun x hx => by rw [List.mem_singleton] at hx; rw [hx]; exact HM.out) (some ⟨W.heap.size, 0, none⟩) 1 1 _ HTX.out).mono ?_
      rintro e w1 ⟨P1, rfl, hS, hb1⟩
      have HS1 := Lib.hid hS
      have HA1 := Lib.hid (HAS.out.on hb1)
      have c1 : w1.cell? ⟨w.heap.size, 5, none⟩ = some (.string (bs m)) := (hb1.cell (p := ⟨w.heap.size, _, none⟩) hlS).trans cS
      have y1 : w1.cell? ⟨Y, 0, none⟩ = some (.map p0) := (blk_cell HA1.out.by_ 0).trans rfl
      clear hS hb1
      go_wp2_with fail
      refine hK.out _ _ ?_ (fun hHeld => ?_)
      · (try dsimp only); exact c1
      clear hK K
      (try simp only [Act.put, List.setIfInBounds_toArray, List.set_cons_zero, List.set_cons_succ])
      refine wpAnyH_ready (rs := [1]) (by kernel_rfl) (by simp) ?_
      refine AllReadyH.cons rfl (fun K hK => ?_) AllReadyH.nil
      go_simp
      refine hK.out _ _ ?_ (fun hHeld => ?_)
      · (try dsimp only); exact c1
      clear hK K
      (try simp only [Act.put, List.setIfInBounds_toArray, List.set_cons_zero, List.set_cons_succ])
      refine wpAnyH_ready (rs := [6]) (by kernel_rfl) (by simp) ?_
      refine AllReadyH.cons rfl (fun K hK => ?_) AllReadyH.nil
      go_simp
      refine (either_calls A1 [m] _ _ w1 HA1.out.hp (by first | exact HS1.out | (have h := HS1.out; simpa [allOf, unionO, moreO, insL] using h)) (by have := HL.out; show A1.length + 1 ≤ _; omega)).mono ?_
      rintro e w2 ⟨P2, rfl, hS, hb2⟩
      have HS2 := Lib.hid hS
      have HA2 := Lib.hid (HA1.out.on hb2)
      have c2 : w2.cell? ⟨w.heap.size, 5, none⟩ = some (.string (bs m)) := (hb2.cell (p := ⟨w.heap.size, _, none⟩) (by have h1 := HA1.out.x; have h2 := HA1.out.y; have h3 := blk_lt HA1.out.by_; show w.heap.size < w1.heap.size; omega)).trans c1
      have f2 : w2.frozen? ⟨Y, 0, none⟩ = false := blk_free HA2.out.by_ 0
      have y2 : w2.cell? ⟨Y, 0, none⟩ = some (.map p0) := (blk_cell HA2.out.by_ 0).trans rfl
      have hne : ¬ w.heap.size = Y := by have h1 := HA.out.x; have h2 := HA.out.y; omega
      clear hS hb2
      go_wp2_with fail
      refine hK.out _ _ ?_ (fun hHeld => ?_)
      · (try dsimp only); exact c2
      clear hK K
      (try simp only [Act.put, List.setIfInBounds_toArray, List.set_cons_zero, List.set_cons_succ])
      refine wpAnyH_take (i := 7) (oi := ⟨some 84, _, _, _, _, _⟩) (v := ?_) rfl (by kernel_rfl) (by kernel_rfl) (by kernel_rfl) (fun _ _ _ h => h) (Or.inl ⟨by kernel_rfl, ?_⟩) (by assumption) ?_
      rotate_left
      · (intro ww hSw; (try dsimp only at hSw); go_simp); (try with_reducible rfl)
      (try simp only [Act.put, List.setIfInBounds_toArray, List.set_cons_zero, List.set_cons_succ])
      refine wpAnyH_ready (rs := [8]) (by kernel_rfl) (by simp) ?_
      refine AllReadyH.cons rfl (fun K hK => ?_) AllReadyH.nil
      go_simp
      refine hK.out _ _ ?_ (fun hHeld => ?_)
      · (try dsimp only); (simp [go_sem, c2])
      clear hK K
      (try simp only [Act.put, List.setIfInBounds_toArray, List.set_cons_zero, List.set_cons_succ])
      refine wpAnyH_done (by kernel_rfl) ?_ _
      have HB := Lib.hid (HA2.out.set0 HS2.out)
      clear yV yL yN yW hlS cS yS c1 y1 c2 f2 y2 hne cM HAS HTX
      go_upto_region 21 with fail
      refine kName (fun W2 hW2 => ?_)
      rw [← hW2] at HB
      clear hW2
      have y0 := (blk_cell HB.out.by_ 0).trans (show _ = some (Value.map P2) from rfl)
      have y1 := (blk_cell HB.out.by_ 1).trans (show _ = some (Value.map q0) from rfl)
      have hX0 := HB.out.bx
      go_wp2_with (refine kWhole 33 (.tmp 4) (.tmp 90) ⟨rfl, rfl⟩ X #[.map P2, .map q0] (by kernel_rfl) (by kernel_rfl) 33 #[.map none, .map none] (by first | exact hX0 | exact blkD hX0) (by kernel_rfl) rfl (by kernel_rfl) ?_; intro w4 hA4 hG4)
      have hm := kMaps hG4.out hX0
      refine bring_ret _ _ X P2 q0 _ (by first | rfl | simp) hA4.out ⟨P2, q0, rfl, HB.out.hp.on hm, HB.out.hq.on hm, HB.out.below.grown hG4.out HB.out.below.size (fun j hj => by cases hj; exact Nat.le_of_lt HB.out.x)⟩

end Go.Proofs.Ytiliobfgmelncaa

namespace Go.Proofs.Ytiliobfgmelncaa
open Go.RowKit Go.Maps

theorem two_box (w : World) (o1 : Obj) : Hid (Blk ((w.alloc o1).alloc (.cells #[.map none, .map none] 33)) (w.heap.size + 1) 33 #[.map none, .map none]) := by
  have := blk_new (w.alloc o1) 33 #[.map none, .map none]
  rw [show (w.alloc o1).heap.size = w.heap.size + 1 by simp] at this
  exact Lib.hid this

set_option maxRecDepth 100000 in
set_option maxHeartbeats 4000000 in
theorem bring_1 (T : List TripL) (hok : ∀ t ∈ T, t.ok) (hl : T.length ≤ 32) (ta : Option Addr) (tn tc : Nat) (va : Option Addr) (vn vc : Nat) (ra : Option Addr) (rn rc : Nat) (fa : Option Addr) (fn fc : Nat) (m : List UInt8) (s : Bool) (v : Value) (w : World) (hv : TrpA w ta tn tc T) :
    Calls Try.prog 27 #[.agg #[.int .i64 1, .slice ta tn tc, .slice va vn vc, .slice ra rn rc, .slice fa fn fc, .string (bs m), .bool s], v] w (TwoT w (tpart T) (tpart T)) := by
  have HC := Lib.hid (fun W h => ofPatterns_calls T hok hl ta tn tc W h)
  have HV := Lib.hid hv
  have HBX := Lib.hid (two_box w (.cells #[.int .i64 1, .slice ta tn tc, .slice va vn vc, .slice ra rn rc, .slice fa fn fc, .string (bs m), .bool s] 50))
  have HBW := Lib.hid (show Below w.heap.size w ((w.alloc (.cells #[.int .i64 1, .slice ta tn tc, .slice va vn vc, .slice ra rn rc, .slice fa fn fc, .string (bs m), .bool s] 50)).alloc (.cells #[.map none, .map none] 33)) from (box_below w _).alloc (by simp) _)
  clear hok hl hv
  go_enter Try.func27, Try.ntmps27
  go_wp2_with fail
  refine (HC.out _ (HV.out.on HBW.out)).mono ?_
  rintro e w2 ⟨p, q, rfl, hp, hq, hb2⟩
  have HP := Lib.hid hp
  have HQ := Lib.hid hq
  have hX2 := blk_on HBX.out.out hb2 (blk_lt HBX.out.out)
  have HB2 := Lib.hid (HBW.out.trans (hb2.mono HBW.out.size))
  clear hp hq hb2
  go_wp2_with (refine kWhole 33 (.tmp 4) (.tmp 12) ⟨rfl, rfl⟩ (w.heap.size + 1) #[.map p, .map q] (by kernel_rfl) (by kernel_rfl) 33 #[.map none, .map none] hX2 (by kernel_rfl) rfl (by kernel_rfl) ?_; intro w4 hA4 hG4)
  have hm := kMaps hG4.out hX2
  refine bring_ret _ _ (w.heap.size + 1) p q _ (by first | rfl | simp) hA4.out ⟨p, q, rfl, HP.out.on hm, HQ.out.on hm, HB2.out.grown hG4.out HB2.out.size (fun j hj => by cases hj; exact Nat.le_succ _)⟩

set_option maxRecDepth 100000 in
set_option maxHeartbeats 4000000 in
theorem bring_2 (V : List (List UInt8)) (R : List (List TermL)) (hx : ∀ x ∈ V, (bs x).size ≤ maxLen) (hr : ∀ r ∈ R, r.length = V.length) (hl : V.length ≤ 32) (ta : Option Addr) (tn tc : Nat) (va : Option Addr) (vn vc : Nat) (ra : Option Addr) (rn rc : Nat) (fa : Option Addr) (fn fc : Nat) (m : List UInt8) (s : Bool) (v : Value) (w : World) (hV : TxtA w va vn vc V) (hR : RowA w ra rn rc R) :
    Calls Try.prog 27 #[.agg #[.int .i64 2, .slice ta tn tc, .slice va vn vc, .slice ra rn rc, .slice fa fn fc, .string (bs m), .bool s], v] w (TwoT w (vpart R V false [] V.length) (vpart R V true [] V.length)) := by
  have HC := Lib.hid (fun W h1 h2 => ofTable_calls V R hx hr hl va ra vn vc rn rc W h1 h2)
  have HV := Lib.hid hV
  have HR := Lib.hid hR
  have HBX := Lib.hid (two_box w (.cells #[.int .i64 2, .slice ta tn tc, .slice va vn vc, .slice ra rn rc, .slice fa fn fc, .string (bs m), .bool s] 50))
  have HBW := Lib.hid (show Below w.heap.size w ((w.alloc (.cells #[.int .i64 2, .slice ta tn tc, .slice va vn vc, .slice ra rn rc, .slice fa fn fc, .string (bs m), .bool s] 50)).alloc (.cells #[.map none, .map none] 33)) from (box_below w _).alloc (by simp) _)
  clear hx hl hr hV hR
  go_enter Try.func27, Try.ntmps27
  go_wp2_with fail
  refine (HC.out _ (HV.out.on HBW.out) (HR.out.on HBW.out)).mono ?_
  rintro e w2 ⟨p, q, rfl, hp, hq, hb2⟩
  have HP := Lib.hid hp
  have HQ := Lib.hid hq
  have hX2 := blk_on HBX.out.out hb2 (blk_lt HBX.out.out)
  have HB2 := Lib.hid (HBW.out.trans (hb2.mono HBW.out.size))
  clear hp hq hb2
  go_wp2_with (refine kWhole 33 (.tmp 4) (.tmp 17) ⟨rfl, rfl⟩ (w.heap.size + 1) #[.map p, .map q] (by kernel_rfl) (by kernel_rfl) 33 #[.map none, .map none] hX2 (by kernel_rfl) rfl (by kernel_rfl) ?_; intro w4 hA4 hG4)
  have hm := kMaps hG4.out hX2
  refine bring_ret _ _ (w.heap.size + 1) p q _ (by first | rfl | simp) hA4.out ⟨p, q, rfl, HP.out.on hm, HQ.out.on hm, HB2.out.grown hG4.out HB2.out.size (fun j hj => by cases hj; exact Nat.le_succ _)⟩

/- one needed, two needed -/
theorem need_1 {w : World} {a : Option Addr} {n c : Nat} {N : List ResL} (h : ResA w a n c N) (hn : N.length = 1) : ∃ (r : ResL) (g o : Nat) (p q : Option Nat), N = [r] ∧ n = 1 ∧ a = some ⟨g, o, none⟩ ∧ g < w.heap.size ∧ w.cell? ⟨g, o, none⟩ = some (.int .i64 r.f) ∧ w.cell? ⟨g, o + 1, none⟩ = some (.bool r.v) ∧ w.cell? ⟨g, o + 2, none⟩ = some (.map p) ∧ w.cell? ⟨g, o + 3, none⟩ = some (.map q) ∧ SetA w p r.sc ∧ SetA w q r.ct := by
  match N, hn with
  | [r], _ =>
    have hl := h.len
    obtain ⟨g, o, ha, hg, hc⟩ := h.cells (by rw [← hl]; exact Nat.one_pos)
    obtain ⟨p, q, c0, c1, c2, c3, h1, h2⟩ := hc 0 Nat.one_pos
    rw [Nat.zero_mul, Nat.add_zero] at c0 c1 c2 c3
    exact ⟨r, g, o, p, q, rfl, hl.symm, ha, hg, c0, c1, c2, c3, h1, h2⟩
theorem need_2r {w : World} {a : Option Addr} {n c : Nat} {N : List ResL} (h : ResA w a n c N) (hn : N.length = 2) : ∃ (r r' : ResL) (g o : Nat) (p q p' q' : Option Nat), N = [r, r'] ∧ n = 2 ∧ a = some ⟨g, o, none⟩ ∧ g < w.heap.size ∧ (w.cell? ⟨g, o, none⟩ = some (.int .i64 r.f) ∧ w.cell? ⟨g, o + 1, none⟩ = some (.bool r.v) ∧ w.cell? ⟨g, o + 2, none⟩ = some (.map p) ∧ w.cell? ⟨g, o + 3, none⟩ = some (.map q) ∧ SetA w p r.sc ∧ SetA w q r.ct) ∧
    (w.cell? ⟨g, o + 4, none⟩ = some (.int .i64 r'.f) ∧ w.cell? ⟨g, o + 5, none⟩ = some (.bool r'.v) ∧ w.cell? ⟨g, o + 6, none⟩ = some (.map p') ∧ w.cell? ⟨g, o + 7, none⟩ = some (.map q') ∧ SetA w p' r'.sc ∧ SetA w q' r'.ct) := by
  match N, hn with
  | [r, r'], _ =>
    have hl := h.len
    obtain ⟨g, o, ha, hg, hc⟩ := h.cells (by rw [← hl]; exact Nat.two_pos)
    obtain ⟨p, q, c0, c1, c2, c3, h1, h2⟩ := hc 0 Nat.two_pos
    rw [Nat.zero_mul, Nat.add_zero] at c0 c1 c2 c3
    obtain ⟨p', q', d0, d1, d2, d3, k1, k2⟩ := hc 1 (Nat.lt_succ_self 1)
    rw [Nat.one_mul] at d0 d1 d2 d3
    exact ⟨r, r', g, o, p, q, p', q', rfl, hl.symm, ha, hg, ⟨c0, c1, c2, c3, h1, h2⟩, ⟨d0, d1, d2, d3, k1, k2⟩⟩

theorem brought_calls (o : OpL) (A : OpS) (hr : rightO o = true) (hok : OpOk o) (N : List ResL) (hN : N.length = ndO o) (hb : ∀ r ∈ N, r.sc.length ≤ 1000000 ∧ r.ct.length ≤ 1000000) (a : Option Addr) (n c : Nat) (w : World) (hin : OpIn w o A) (hv : ResA w a n c N) :
    Calls Try.prog 27 #[o.v A, .slice a n c] w (TwoT w (scB o false (N.getD 0 noR).sc (N.getD 1 noR).sc) (scB o true (N.getD 0 noR).ct (N.getD 1 noR).ct)) := by
  have hk := right_kind hr
  have hv_ : o.v A = .agg #[.int .i64 o.k, .slice A.ta A.tn A.tc, .slice A.va A.vn A.vc, .slice A.ra A.rn A.rc, .slice A.fa A.fn A.fc, .string (bs o.m), .bool o.s] := rfl
  rw [hv_]
  rcases hk with hk | hk | hk | hk | hk | hk | hk | hk | hk
  · rw [scB_1 hr hk, scB_1 hr hk, hk]
    exact bring_1 o.T hok.t (right_1 hr hk).1 _ _ _ _ _ _ _ _ _ _ _ _ _ _ _ w hin.t
  · rw [scB_2 hr hk, scB_2 hr hk, hk]
    exact bring_2 o.V o.R hok.v (right_2 hr hk).2.2 (right_2 hr hk).2.1 _ _ _ _ _ _ _ _ _ _ _ _ _ _ _ w hin.v hin.r
  · rw [nd_of.2.2.2.2.2.1 hk] at hN
    obtain ⟨r, r', g, o', p, q, p', q', rfl, rfl, rfl, hg, ⟨c0, c1, c2, c3, h1, h2⟩, ⟨d0, d1, d2, d3, k1, k2⟩⟩ := need_2r hv hN
    have b1 := hb r List.mem_cons_self
    have b2 := hb r' (List.mem_cons_of_mem _ List.mem_cons_self)
    rw [scB_3 hk, scB_3 hk, hk]
    exact bring_3 _ _ _ _ _ _ _ _ _ _ _ _ _ _ g o' c p q r.sc r.ct p' q' r'.sc r'.ct w hg c2 c3 h1 h2 d2 d3 k1 k2 (by omega) (by omega)
  · rw [nd_of.2.2.2.2.2.2.1 hk] at hN
    obtain ⟨r, r', g, o', p, q, p', q', rfl, rfl, rfl, hg, ⟨c0, c1, c2, c3, h1, h2⟩, ⟨d0, d1, d2, d3, k1, k2⟩⟩ := need_2r hv hN
    have b1 := hb r List.mem_cons_self
    have b2 := hb r' (List.mem_cons_of_mem _ List.mem_cons_self)
    rw [scB_4f hk, scB_4t hk, hk]
    exact bring_4 _ _ _ _ _ _ _ _ _ _ _ _ _ _ g o' c p q r.sc r.ct p' q' r'.sc r'.ct w hg c2 c3 h1 h2 d2 d3 k1 k2 (by omega) (by omega)
  · rw [nd_of.2.2.2.2.2.2.2.1 hk] at hN
    obtain ⟨r, r', g, o', p, q, p', q', rfl, rfl, rfl, hg, ⟨c0, c1, c2, c3, h1, h2⟩, ⟨d0, d1, d2, d3, k1, k2⟩⟩ := need_2r hv hN
    have b1 := hb r List.mem_cons_self
    have b2 := hb r' (List.mem_cons_of_mem _ List.mem_cons_self)
    rw [scB_5f hk, scB_5t hk, hk]
    exact bring_5 _ _ _ _ _ _ _ _ _ _ _ _ _ _ g o' c p q r.sc r.ct p' q' r'.sc r'.ct w hg c2 c3 h1 h2 d2 d3 k1 k2 (by omega) (by omega)
  · rw [nd_of.2.2.2.2.2.2.2.2 hk] at hN
    obtain ⟨r, r', g, o', p, q, p', q', rfl, rfl, rfl, hg, ⟨c0, c1, c2, c3, h1, h2⟩, ⟨d0, d1, d2, d3, k1, k2⟩⟩ := need_2r hv hN
    have b1 := hb r List.mem_cons_self
    have b2 := hb r' (List.mem_cons_of_mem _ List.mem_cons_self)
    rw [scB_6 hk, scB_6 hk, hk]
    exact bring_6 _ _ _ _ _ _ _ _ _ _ _ _ _ _ g o' c p q r.sc r.ct p' q' r'.sc r'.ct w hg c2 c3 h1 h2 d2 d3 k1 k2 (by omega) (by omega)
  · rw [nd_of.2.2.1 hk] at hN
    obtain ⟨r, g, o', p, q, rfl, rfl, rfl, hg, c0, c1, c2, c3, h1, h2⟩ := need_1 hv hN
    rw [scB_7 hr hk, scB_7 hr hk, hk]
    exact bring_7 _ _ _ _ _ _ _ _ _ _ _ _ _ _ g o' c p q r.sc r.ct w hg c2 c3 h1 h2
  · rw [nd_of.2.2.2.1 hk] at hN
    obtain ⟨r, g, o', p, q, rfl, rfl, rfl, hg, c0, c1, c2, c3, h1, h2⟩ := need_1 hv hN
    have b1 := hb r List.mem_cons_self
    rw [scB_8f hk, scB_8t hr hk, hk]
    exact bring_8 _ _ _ _ _ _ _ _ _ _ _ _ _ _ g o' c p q r.sc r.ct w hg c2 c3 h1 h2 hok.m (by show r.sc.length ≤ _; omega)
  · rw [nd_of.2.2.2.2.1 hk] at hN
    obtain ⟨r, g, o', p, q, rfl, rfl, rfl, hg, c0, c1, c2, c3, h1, h2⟩ := need_1 hv hN
    rw [scB_9f hk, scB_9t hk, hk]
    cases hs : o.s with
    | false => exact bring_9f _ _ _ _ _ _ _ _ _ _ _ _ _ g o' c p q r.sc r.ct w hg c2 c3 h1 h2
    | true => exact bring_9t _ _ _ _ _ _ _ _ _ _ _ _ _ g o' c p q r.sc r.ct w hg c2 c3 h1 h2

end Go.Proofs.Ytiliobfgmelncaa
