/- A number's text and term are the document's, or there are none: the walk of the statement's function. -/
import Derived.Test.YtdoagbengfdcgaaDoorNumHelp
import Derived.Test.YtdoagbengfdcgaaDoorNumTerm
import Derived.Deep.RegionHeld3
namespace Go.Proofs.YtdoagbengfdcgaaDoor
open Go.RowKit

structure C4 (W : World) (b : Nat) (a x y z : Value) : Prop where
  c0 : W.cell? ⟨b, 0, none⟩ = some a
  c1 : W.cell? ⟨b, 1, none⟩ = some x
  c2 : W.cell? ⟨b, 2, none⟩ = some y
  c3 : W.cell? ⟨b, 3, none⟩ = some z
  lt : b < W.heap.size
theorem C4.on {W W' : World} {b : Nat} {a x y z : Value} (h : C4 W b a x y z) (hb : Below W.heap.size W W') : C4 W' b a x y z :=
  ⟨(hb.cell (p := ⟨b, 0, none⟩) h.lt).trans h.c0, (hb.cell (p := ⟨b, 1, none⟩) h.lt).trans h.c1, (hb.cell (p := ⟨b, 2, none⟩) h.lt).trans h.c2, (hb.cell (p := ⟨b, 3, none⟩) h.lt).trans h.c3, Nat.lt_of_lt_of_le h.lt hb.size⟩
theorem C4.drewN {W : World} {b : Nat} {a x y z : Value} (h : C4 W b a x y z) (n : Nat) : C4 (W.drewN n) b a x y z := h.on (below_drewN (Below.refl _ _) n)
theorem C4.fresh (W : World) (a x y z : Value) (t : TypeId) : C4 (W.alloc (.cells #[a, x, y, z] t)) W.heap.size a x y z :=
  ⟨by rw [World.cell?_alloc_at _ _ _ _ rfl]; rfl, by rw [World.cell?_alloc_at _ _ _ _ rfl]; rfl, by rw [World.cell?_alloc_at _ _ _ _ rfl]; rfl, by rw [World.cell?_alloc_at _ _ _ _ rfl]; rfl, by simp⟩

set_option maxRecDepth 100000 in
set_option maxHeartbeats 4000000 in
theorem numberTexts_yes (v : Int) (s : Nat) (d : Bool) (w : World) (hg : Good w) (hr : rightZ v s d = true) :
    Calls Tryd.prog 3 #[.agg #[.int .i64 v, .int .i64 s, .bool d]] w fun e w' => e = .returned (.bool true) ∧ Below w.heap.size w w' := by
  obtain ⟨⟨p1, p2⟩, ⟨p3, p4⟩, _⟩ := (rightZ_iff _ _ _).1 hr
  have HTx : Hid (∀ W, Good W → Calls Tryd.prog 9 #[.agg #[.int .i64 v, .int .i64 s, .bool d]] W fun e w' => e = .returned (.tuple #[.string (bs (textL v s d)), .int .i64 0]) ∧ Below W.heap.size W w') := Lib.hid fun W hW => Text_right v s d W hW hr (by omega) p1 p2
  have HTm : Hid (∀ W, Good W → Calls Tryd.prog 10 #[.agg #[.int .i64 v, .int .i64 s, .bool d]] W fun e w' => e = .returned (.tuple #[.agg #[.int .i64 2, .string (bs (textL v s d)), .string (tyOf d), .string ⟨#[]⟩], .int .i64 0]) ∧ Below W.heap.size W w') := Lib.hid fun W hW => Term_right v s d W hW hr (by omega) p1 p2
  have HTr : Hid (∀ W, Calls Tryd.prog 14 #[.agg #[.int .i64 v, .int .i64 s, .bool d]] W fun e w' => e = .returned (.string (bs (textL v s d))) ∧ Below W.heap.size W w') := Lib.hid fun W => rText_calls v s d W (by omega) p1 p2
  have HMr : Hid (∀ W, Calls Tryd.prog 15 #[.agg #[.int .i64 v, .int .i64 s, .bool d]] W fun e w' => e = .returned (.agg #[.int .i64 2, .string (bs (textL v s d)), .string (tyOf d), .string ⟨#[]⟩]) ∧ Below W.heap.size W w') := Lib.hid fun W => rTerm_calls v s d W (by omega) p1 p2
  have HCk : Hid (∀ W, Calls Tryd.prog 12 #[.agg #[.int .i64 v, .int .i64 s, .bool d]] W fun e w' => e = .returned (.int .i64 0) ∧ Below W.heap.size W w') := Lib.hid fun W => by
    have := Check_calls v s d W
    rw [hr] at this
    exact this
  have HR := Lib.hid hr
  generalize bs (textL v s d) = x at HTx HTm HTr HMr
  generalize tyOf d = y at HTm HMr
  have A : C3 (w.alloc (.cells #[.int .i64 v, .int .i64 s, .bool d] 23)) w.heap.size (.int .i64 v) (.int .i64 s) (.bool d) := C3.fresh w _ _ _ _
  have B := box_below w (.cells #[.int .i64 v, .int .i64 s, .bool d] 23)
  have G := hg.alloc (.cells #[.int .i64 v, .int .i64 s, .bool d] 23)
  clear hr hg p1 p2 p3 p4
  go_enter Tryd.func3, Tryd.ntmps3
  have A0 := A.c0; have A1 := A.c1; have A2 := A.c2; have A3 := A.lt
  go_wp2_with fail
  refine (HTx.out _ ?_).mono ?_
  · exact G
  rintro e w1 ⟨rfl, hb⟩
  clear A0 A1 A2 A3
  replace A := (A).on hb
  replace G := (G).on hb
  replace B := bnext B hb
  clear hb
  have A0 := A.c0; have A1 := A.c1; have A2 := A.c2; have A3 := A.lt
  go_wp2_with fail
  refine (HTm.out _ ?_).mono ?_
  · exact G
  rintro e w2 ⟨rfl, hb⟩
  clear A0 A1 A2 A3
  replace A := (A).on hb
  replace G := (G).on hb
  replace B := bnext B hb
  clear hb
  have A0 := A.c0; have A1 := A.c1; have A2 := A.c2; have A3 := A.lt
  go_wp2_with fail
  refine (rRight_calls _ _ _ _).mono ?_
  rintro e w3 ⟨rfl, hb⟩
  rw [HR.out]
  clear A0 A1 A2 A3
  replace A := (A.alloc _).on hb
  replace G := (G.alloc _).on hb
  have E := (C4.fresh w2 _ _ _ _ _).on hb
  replace B := bbox B hb
  clear hb
  have A0 := A.c0; have A1 := A.c1; have A2 := A.c2; have A3 := A.lt
  have E0 := E.c0; have E1 := E.c1; have E2 := E.c2; have E3 := E.c3; have E4 := E.lt
  go_wp2_with fail
  refine wp_region_held_drew (S := (fun W => W.cell? ⟨w.heap.size, 0, none⟩ = some (.int .i64 v) ∧ W.cell? ⟨w.heap.size, 1, none⟩ = some (.int .i64 s) ∧ W.cell? ⟨w.heap.size, 2, none⟩ = some (.bool d) ∧ W.cell? ⟨w2.heap.size, 0, none⟩ = some (.int .i64 2) ∧ W.cell? ⟨w2.heap.size, 1, none⟩ = some (.string x) ∧ W.cell? ⟨w2.heap.size, 2, none⟩ = some (.string y) ∧ W.cell? ⟨w2.heap.size, 3, none⟩ = some (.string ⟨#[]⟩))) (by kernel_rfl) ?_ (fun hHeld => ?_)
  · (try dsimp only); go_keep
  refine wpAnyH_take (i := 0) (v := ?_) rfl (by kernel_rfl) (by kernel_rfl) (by kernel_rfl) (fun _ _ _ h => h) (Or.inl ⟨by kernel_rfl, ?_⟩) (by assumption) ?_
  rotate_left
  · (intro ww hSw; (try dsimp only at hSw); go_simp); (try with_reducible rfl)
  (try simp only [Act.put])
  refine wpAnyH_ready (rs := [1]) (by kernel_rfl) (by simp) ?_
  refine AllReadyH.cons rfl (fun K hK => ?_) AllReadyH.nil
  go_simp
  refine (HCk.out _).mono ?_
  rintro e wn ⟨rfl, hbn⟩
  (first | replace A := A.on hbn | replace A := (A.drewN 1).on hbn)
  (first | replace E := E.on hbn | replace E := (E.drewN 1).on hbn)
  (first | replace G := G.on hbn | replace G := G.drew.on hbn)
  (first | replace B := bnext B hbn | replace B := bnext B.drew hbn)
  clear hbn A0 A1 A2 A3 E0 E1 E2 E3 E4
  have A0 := A.c0; have A1 := A.c1; have A2 := A.c2; have A3 := A.lt
  have E0 := E.c0; have E1 := E.c1; have E2 := E.c2; have E3 := E.c3; have E4 := E.lt
  go_wp2_with fail
  refine hK.out _ _ ?_ (fun hHeld => ?_)
  · (try dsimp only); go_keep
  clear hK K
  (try simp only [Act.put, List.setIfInBounds_toArray, List.set_cons_zero, List.set_cons_succ])
  refine wpAnyH_take (i := 2) (v := ?_) rfl (by kernel_rfl) (by kernel_rfl) (by kernel_rfl) (fun _ _ _ h => h) (Or.inl ⟨by kernel_rfl, ?_⟩) (by assumption) ?_
  rotate_left
  · (intro ww hSw; (try dsimp only at hSw); go_simp); (try with_reducible rfl)
  (try simp only [Act.put])
  refine wpAnyH_take (i := 3) (v := ?_) rfl (by kernel_rfl) (by kernel_rfl) (by kernel_rfl) (fun _ _ _ h => h) (Or.inl ⟨by kernel_rfl, ?_⟩) (by assumption) ?_
  rotate_left
  · (intro ww hSw; (try dsimp only at hSw); go_simp); (try with_reducible rfl)
  (try simp only [Act.put])
  refine wpAnyH_take (i := 4) (v := ?_) rfl (by kernel_rfl) (by kernel_rfl) (by kernel_rfl) (fun _ _ _ h => h) (Or.inl ⟨by kernel_rfl, ?_⟩) (by assumption) ?_
  rotate_left
  · (intro ww hSw; (try dsimp only at hSw); go_simp); (try with_reducible rfl)
  (try simp only [Act.put])
  refine wpAnyH_take (i := 5) (v := ?_) rfl (by kernel_rfl) (by kernel_rfl) (by kernel_rfl) (fun _ _ _ h => h) (Or.inl ⟨by kernel_rfl, ?_⟩) (by assumption) ?_
  rotate_left
  · (intro ww hSw; (try dsimp only at hSw); go_simp); (try with_reducible rfl)
  (try simp only [Act.put])
  refine wpAnyH_take (i := 6) (v := ?_) rfl (by kernel_rfl) (by kernel_rfl) (by kernel_rfl) (fun _ _ _ h => h) (Or.inl ⟨by kernel_rfl, ?_⟩) (by assumption) ?_
  rotate_left
  · (intro ww hSw; (try dsimp only at hSw); go_simp); (try with_reducible rfl)
  (try simp only [Act.put])
  refine wpAnyH_take (i := 7) (v := ?_) rfl (by kernel_rfl) (by kernel_rfl) (by kernel_rfl) (fun _ _ _ h => h) (Or.inl ⟨by kernel_rfl, ?_⟩) (by assumption) ?_
  rotate_left
  · (intro ww hSw; (try dsimp only at hSw); go_simp); (try with_reducible rfl)
  (try simp only [Act.put])
  refine wpAnyH_take (i := 8) (v := ?_) rfl (by kernel_rfl) (by kernel_rfl) (by kernel_rfl) (fun _ _ _ h => h) (Or.inl ⟨by kernel_rfl, ?_⟩) (by assumption) ?_
  rotate_left
  · (intro ww hSw; (try dsimp only at hSw); go_simp); (try with_reducible rfl)
  (try simp only [Act.put])
  refine wpAnyH_take (i := 9) (v := ?_) rfl (by kernel_rfl) (by kernel_rfl) (by kernel_rfl) (fun _ _ _ h => h) (Or.inl ⟨by kernel_rfl, ?_⟩) (by assumption) ?_
  rotate_left
  · (intro ww hSw; (try dsimp only at hSw); go_simp); (try with_reducible rfl)
  (try simp only [Act.put])
  refine wpAnyH_take (i := 10) (v := ?_) rfl (by kernel_rfl) (by kernel_rfl) (by kernel_rfl) (fun _ _ _ h => h) (Or.inl ⟨by kernel_rfl, ?_⟩) (by assumption) ?_
  rotate_left
  · (intro ww hSw; (try dsimp only at hSw); go_simp); (try with_reducible rfl)
  (try simp only [Act.put])
  refine wpAnyH_take (i := 11) (v := ?_) rfl (by kernel_rfl) (by kernel_rfl) (by kernel_rfl) (fun _ _ _ h => h) (Or.inl ⟨by kernel_rfl, ?_⟩) (by assumption) ?_
  rotate_left
  · (intro ww hSw; (try dsimp only at hSw); go_simp); (try with_reducible rfl)
  (try simp only [Act.put])
  refine wpAnyH_take (i := 12) (v := ?_) rfl (by kernel_rfl) (by kernel_rfl) (by kernel_rfl) (fun _ _ _ h => h) (Or.inl ⟨by kernel_rfl, ?_⟩) (by assumption) ?_
  rotate_left
  · (intro ww hSw; (try dsimp only at hSw); go_simp); (try with_reducible rfl)
  (try simp only [Act.put])
  refine wpAnyH_take (i := 13) (v := ?_) rfl (by kernel_rfl) (by kernel_rfl) (by kernel_rfl) (fun _ _ _ h => h) (Or.inl ⟨by kernel_rfl, ?_⟩) (by assumption) ?_
  rotate_left
  · (intro ww hSw; (try dsimp only at hSw); go_simp); (try with_reducible rfl)
  (try simp only [Act.put])
  refine wpAnyH_ready (rs := [14]) (by kernel_rfl) (by simp) ?_
  refine AllReadyH.cons rfl (fun K hK => ?_) AllReadyH.nil
  go_simp
  refine (HTr.out _).mono ?_
  rintro e wn ⟨rfl, hbn⟩
  (first | replace A := A.on hbn | replace A := (A.drewN 1).on hbn)
  (first | replace E := E.on hbn | replace E := (E.drewN 1).on hbn)
  (first | replace G := G.on hbn | replace G := G.drew.on hbn)
  (first | replace B := bnext B hbn | replace B := bnext B.drew hbn)
  clear hbn A0 A1 A2 A3 E0 E1 E2 E3 E4
  have A0 := A.c0; have A1 := A.c1; have A2 := A.c2; have A3 := A.lt
  have E0 := E.c0; have E1 := E.c1; have E2 := E.c2; have E3 := E.c3; have E4 := E.lt
  go_wp2_with fail
  refine hK.out _ _ ?_ (fun hHeld => ?_)
  · (try dsimp only); go_keep
  clear hK K
  (try simp only [Act.put, List.setIfInBounds_toArray, List.set_cons_zero, List.set_cons_succ])
  refine wpAnyH_take (i := 15) (v := ?_) rfl (by kernel_rfl) (by kernel_rfl) (by kernel_rfl) (fun _ _ _ h => h) (Or.inl ⟨by kernel_rfl, ?_⟩) (by assumption) ?_
  rotate_left
  · (intro ww hSw; (try dsimp only at hSw); go_simp); (try with_reducible rfl)
  (try simp only [Act.put])
  refine wpAnyH_take (i := 16) (v := ?_) rfl (by kernel_rfl) (by kernel_rfl) (by kernel_rfl) (fun _ _ _ h => h) (Or.inl ⟨by kernel_rfl, ?_⟩) (by assumption) ?_
  rotate_left
  · (intro ww hSw; (try dsimp only at hSw); go_simp); (try with_reducible rfl)
  (try simp only [Act.put])
  refine wpAnyH_take (i := 17) (v := ?_) rfl (by kernel_rfl) (by kernel_rfl) (by kernel_rfl) (fun _ _ _ h => h) (Or.inl ⟨by kernel_rfl, ?_⟩) (by assumption) ?_
  rotate_left
  · (intro ww hSw; (try dsimp only at hSw); go_simp); (try with_reducible rfl)
  (try simp only [Act.put])
  refine wpAnyH_take (i := 18) (v := ?_) rfl (by kernel_rfl) (by kernel_rfl) (by kernel_rfl) (fun _ _ _ h => h) (Or.inl ⟨by kernel_rfl, ?_⟩) (by assumption) ?_
  rotate_left
  · (intro ww hSw; (try dsimp only at hSw); go_simp); (try with_reducible rfl)
  (try simp only [Act.put])
  refine wpAnyH_take (i := 19) (v := ?_) rfl (by kernel_rfl) (by kernel_rfl) (by kernel_rfl) (fun _ _ _ h => h) (Or.inl ⟨by kernel_rfl, ?_⟩) (by assumption) ?_
  rotate_left
  · (intro ww hSw; (try dsimp only at hSw); go_simp); (try with_reducible rfl)
  (try simp only [Act.put])
  refine wpAnyH_ready (rs := [20]) (by kernel_rfl) (by simp) ?_
  refine AllReadyH.cons rfl (fun K hK => ?_) AllReadyH.nil
  go_simp
  refine (HMr.out _).mono ?_
  rintro e wn ⟨rfl, hbn⟩
  (first | replace A := A.on hbn | replace A := (A.drewN 1).on hbn)
  (first | replace E := E.on hbn | replace E := (E.drewN 1).on hbn)
  (first | replace G := G.on hbn | replace G := G.drew.on hbn)
  (first | replace B := bnext B hbn | replace B := bnext B.drew hbn)
  clear hbn A0 A1 A2 A3 E0 E1 E2 E3 E4
  have A0 := A.c0; have A1 := A.c1; have A2 := A.c2; have A3 := A.lt
  have E0 := E.c0; have E1 := E.c1; have E2 := E.c2; have E3 := E.c3; have E4 := E.lt
  go_wp2_with fail
  refine hK.out _ _ ?_ (fun hHeld => ?_)
  · (try dsimp only); go_keep
  clear hK K
  (try simp only [Act.put, List.setIfInBounds_toArray, List.set_cons_zero, List.set_cons_succ])
  refine wpAnyH_take (i := 21) (v := ?_) rfl (by kernel_rfl) (by kernel_rfl) (by kernel_rfl) (fun _ _ _ h => h) (Or.inl ⟨by kernel_rfl, ?_⟩) (by assumption) ?_
  rotate_left
  · (intro ww hSw; (try dsimp only at hSw); go_simp); (try with_reducible rfl)
  (try simp only [Act.put])
  refine wpAnyH_take (i := 22) (v := ?_) rfl (by kernel_rfl) (by kernel_rfl) (by kernel_rfl) (fun _ _ _ h => h) (Or.inl ⟨by kernel_rfl, ?_⟩) (by assumption) ?_
  rotate_left
  · (intro ww hSw; (try dsimp only at hSw); go_simp); (try with_reducible rfl)
  (try simp only [Act.put])
  refine wpAnyH_take (i := 23) (v := ?_) rfl (by kernel_rfl) (by kernel_rfl) (by kernel_rfl) (fun _ _ _ h => h) (Or.inl ⟨by kernel_rfl, ?_⟩) (by assumption) ?_
  rotate_left
  · (intro ww hSw; (try dsimp only at hSw); go_simp); (try with_reducible rfl)
  (try simp only [Act.put])
  refine wpAnyH_ready (rs := [24]) (by kernel_rfl) (by simp) ?_
  refine AllReadyH.cons rfl (fun K hK => ?_) AllReadyH.nil
  go_simp
  refine (awake_calls _ ?_).mono ?_
  · first | exact G | exact G.drew
  rintro e wn ⟨rfl, hbn⟩
  (first | replace A := A.on hbn | replace A := (A.drewN 1).on hbn)
  (first | replace E := E.on hbn | replace E := (E.drewN 1).on hbn)
  (first | replace G := G.on hbn | replace G := G.drew.on hbn)
  (first | replace B := bnext B hbn | replace B := bnext B.drew hbn)
  clear hbn A0 A1 A2 A3 E0 E1 E2 E3 E4
  have A0 := A.c0; have A1 := A.c1; have A2 := A.c2; have A3 := A.lt
  have E0 := E.c0; have E1 := E.c1; have E2 := E.c2; have E3 := E.c3; have E4 := E.lt
  go_wp2_with fail
  refine hK.out _ _ ?_ (fun hHeld => ?_)
  · (try dsimp only); go_keep
  clear hK K
  (try simp only [Act.put, List.setIfInBounds_toArray, List.set_cons_zero, List.set_cons_succ])
  refine wpAnyH_take (i := 25) (oi := ⟨some 68, _, _, _, _, _⟩) (v := ?_) rfl (by kernel_rfl) (by kernel_rfl) (by kernel_rfl) (fun _ _ _ h => h) (Or.inl ⟨by kernel_rfl, ?_⟩) (by assumption) ?_
  rotate_left
  · (intro ww hSw; (try dsimp only at hSw); go_simp); (try with_reducible rfl)
  (try simp only [Act.put])
  refine wpAnyH_take (i := 26) (oi := ⟨some 2, _, _, _, _, _⟩) (v := ?_) rfl (by kernel_rfl) (by kernel_rfl) (by kernel_rfl) (fun _ _ _ h => h) (Or.inl ⟨by kernel_rfl, ?_⟩) (by assumption) ?_
  rotate_left
  · (intro ww hSw; (try dsimp only at hSw); go_simp); (try with_reducible rfl)
  (try simp only [Act.put])
  refine wpAnyH_done (by kernel_rfl) ?_ _
  go_wp2
  go_ret
  exact ⟨rfl, B⟩

set_option maxRecDepth 100000 in
set_option maxHeartbeats 4000000 in
theorem numberTexts_no (v s : Int) (d : Bool) (w : World) (hg : Good w) (hr : rightZ v s d = false) :
    Calls Tryd.prog 3 #[.agg #[.int .i64 v, .int .i64 s, .bool d]] w fun e w' => e = .returned (.bool true) ∧ Below w.heap.size w w' := by
  have HTx : Hid (∀ W, Calls Tryd.prog 9 #[.agg #[.int .i64 v, .int .i64 s, .bool d]] W fun e w' => e = .returned (.tuple #[.string ⟨#[]⟩, .int .i64 2]) ∧ Below W.heap.size W w') := Lib.hid fun W => Text_wrong v s d W hr
  have HTm : Hid (∀ W, Calls Tryd.prog 10 #[.agg #[.int .i64 v, .int .i64 s, .bool d]] W fun e w' => e = .returned (.tuple #[.agg #[.int .i64 0, .string ⟨#[]⟩, .string ⟨#[]⟩, .string ⟨#[]⟩], .int .i64 2]) ∧ Below W.heap.size W w') := Lib.hid fun W => Term_wrong v s d W hr
  have HCk : Hid (∀ W, Calls Tryd.prog 12 #[.agg #[.int .i64 v, .int .i64 s, .bool d]] W fun e w' => e = .returned (.int .i64 2) ∧ Below W.heap.size W w') := Lib.hid fun W => by
    have := Check_calls v s d W
    rw [hr] at this
    exact this
  have HR := Lib.hid hr
  have A : C3 (w.alloc (.cells #[.int .i64 v, .int .i64 s, .bool d] 23)) w.heap.size (.int .i64 v) (.int .i64 s) (.bool d) := C3.fresh w _ _ _ _
  have B := box_below w (.cells #[.int .i64 v, .int .i64 s, .bool d] 23)
  have G := hg.alloc (.cells #[.int .i64 v, .int .i64 s, .bool d] 23)
  clear hr hg
  go_enter Tryd.func3, Tryd.ntmps3
  have A0 := A.c0; have A1 := A.c1; have A2 := A.c2; have A3 := A.lt
  go_wp2_with fail
  refine (HTx.out _).mono ?_
  rintro e w1 ⟨rfl, hb⟩
  clear A0 A1 A2 A3
  replace A := (A).on hb
  replace G := (G).on hb
  replace B := bnext B hb
  clear hb
  have A0 := A.c0; have A1 := A.c1; have A2 := A.c2; have A3 := A.lt
  go_wp2_with fail
  refine (HTm.out _).mono ?_
  rintro e w2 ⟨rfl, hb⟩
  clear A0 A1 A2 A3
  replace A := (A).on hb
  replace G := (G).on hb
  replace B := bnext B hb
  clear hb
  have A0 := A.c0; have A1 := A.c1; have A2 := A.c2; have A3 := A.lt
  go_wp2_with fail
  refine (rRight_calls _ _ _ _).mono ?_
  rintro e w3 ⟨rfl, hb⟩
  rw [HR.out]
  clear A0 A1 A2 A3
  replace A := (A.alloc _).on hb
  replace G := (G.alloc _).on hb
  have E := (C4.fresh w2 _ _ _ _ _).on hb
  replace B := bbox B hb
  clear hb
  have A0 := A.c0; have A1 := A.c1; have A2 := A.c2; have A3 := A.lt
  have E0 := E.c0; have E1 := E.c1; have E2 := E.c2; have E3 := E.c3; have E4 := E.lt
  go_wp2_with fail
  refine (HCk.out _).mono ?_
  rintro e w4 ⟨rfl, hb⟩
  clear A0 A1 A2 A3
  clear E0 E1 E2 E3 E4
  replace A := A.on hb
  replace E := E.on hb
  replace G := G.on hb
  replace B := bnext B hb
  clear hb
  have A0 := A.c0; have A1 := A.c1; have A2 := A.c2; have A3 := A.lt
  have E0 := E.c0; have E1 := E.c1; have E2 := E.c2; have E3 := E.c3; have E4 := E.lt
  go_wp2_with fail
  refine (awake_calls _ G).mono ?_
  rintro e w5 ⟨rfl, hb⟩
  clear A0 A1 A2 A3
  clear E0 E1 E2 E3 E4
  replace A := A.on hb
  replace E := E.on hb
  replace G := G.on hb
  replace B := bnext B hb
  clear hb
  have A0 := A.c0; have A1 := A.c1; have A2 := A.c2; have A3 := A.lt
  have E0 := E.c0; have E1 := E.c1; have E2 := E.c2; have E3 := E.c3; have E4 := E.lt
  go_wp2
  go_ret
  exact ⟨rfl, B⟩

theorem numberTexts_calls (v s : Int) (d : Bool) (w : World) (hg : Good w) :
    Calls Tryd.prog 3 #[.agg #[.int .i64 v, .int .i64 s, .bool d]] w fun e w' => e = .returned (.bool true) ∧ Below w.heap.size w w' := by
  cases hr : rightZ v s d with
  | false => exact numberTexts_no v s d w hg hr
  | true =>
    obtain ⟨k, rfl⟩ := Int.eq_ofNat_of_zero_le ((rightZ_iff _ _ _).1 hr).2.1.1
    exact numberTexts_yes v k d w hg hr

end Go.Proofs.YtdoagbengfdcgaaDoor
