/- Whether a triple has one term where a pattern has one: package store's alike. -/
import Derived.Test.YtnojdchodmogbaaGreatStoNears
namespace Go.Proofs.YtnojdchodmogbaaGreat
open Go.RowKit

/- at two places -/
def Cond (p x : TripL) (i j : Nat) : Prop := at3 p i = at3 p j → at3 x i = at3 x j
theorem alike_true {x p : TripL} (h : ∀ i, i < 3 → ∀ j, j < i → Cond p x i j) : alikeB x p = true := by
  have h1 := h 1 (by omega) 0 (by omega); have h2 := h 2 (by omega) 0 (by omega); have h3 := h 2 (by omega) 1 (by omega)
  unfold alikeB
  rw [Bool.and_eq_true, Bool.and_eq_true, decide_eq_true_eq, decide_eq_true_eq, decide_eq_true_eq]
  exact ⟨h1, h2, h3⟩
theorem alike_false {x p : TripL} {n m : Nat} (hn : n < 3) (hm : m < n) (h1 : at3 p n = at3 p m) (h2 : at3 x n ≠ at3 x m) : alikeB x p = false := by
  refine Bool.not_eq_true _ ▸ fun c => ?_
  unfold alikeB at c
  rw [Bool.and_eq_true, Bool.and_eq_true, decide_eq_true_eq, decide_eq_true_eq, decide_eq_true_eq] at c
  rcases (by omega : (n = 1 ∧ m = 0) ∨ (n = 2 ∧ m = 0) ∨ (n = 2 ∧ m = 1)) with ⟨rfl, rfl⟩ | ⟨rfl, rfl⟩ | ⟨rfl, rfl⟩
  · exact h2 (c.1 h1)
  · exact h2 (c.2.1 h1)
  · exact h2 (c.2.2 h1)

set_option maxRecDepth 100000 in
set_option maxHeartbeats 8000000 in
theorem alike_calls (a b : TripL) (w : World) :
    Calls Tryz.prog 48 #[a.v, b.v] w fun e w' => e = .returned (.bool (alikeB a b)) ∧ Below w.heap.size w w' := by
  obtain ⟨a0, ha0⟩ : ∃ a0, a0 = a := ⟨_, rfl⟩
  obtain ⟨b0, hb0'⟩ : ∃ b0, b0 = b := ⟨_, rfl⟩
  obtain ⟨C, hC⟩ : ∃ C, alikeB a b = C := ⟨_, rfl⟩
  rw [hC]
  rw [← ha0, ← hb0'] at hC
  obtain ⟨⟨ak, ax, ay, az⟩, ⟨bk, bx, by', bz⟩, ⟨ck, cx, cy, cz⟩⟩ := a
  obtain ⟨⟨ak2, ax2, ay2, az2⟩, ⟨bk2, bx2, by2, bz2⟩, ⟨ck2, cx2, cy2, cz2⟩⟩ := b
  have HA := Lib.hid ha0
  have HB := Lib.hid hb0'
  have HC := Lib.hid hC
  clear ha0 hb0' hC
  simp only [TripL.v]
  go_enter Tryz.func48, Tryz.ntmps48
  go_upto_region 1 with fail
  go_cut [5, 6] (fun a b wx => Placed w ⟨⟨ak, ax, ay, az⟩, ⟨bk, bx, by', bz⟩, ⟨ck, cx, cy, cz⟩⟩ ⟨⟨ak2, ax2, ay2, az2⟩, ⟨bk2, bx2, by2, bz2⟩, ⟨ck2, cx2, cy2, cz2⟩⟩ a b wx)
  case first =>
    obtain ⟨W0, hW0⟩ : ∃ W0, (w.alloc (.cells #[.int .i64 ak, .string (bs ax), .string (bs ay), .string (bs az), .int .i64 bk, .string (bs bx), .string (bs by'), .string (bs bz), .int .i64 ck, .string (bs cx), .string (bs cy), .string (bs cz)] 29)).alloc (.cells #[.int .i64 ak2, .string (bs ax2), .string (bs ay2), .string (bs az2), .int .i64 bk2, .string (bs bx2), .string (bs by2), .string (bs bz2), .int .i64 ck2, .string (bs cx2), .string (bs cy2), .string (bs cz2)] 29) = W0 := ⟨_, rfl⟩
    rw [hW0]
    obtain ⟨B0, hB0⟩ : ∃ B0, W0.heap.size = B0 := ⟨_, rfl⟩
    have hx0 := Lib.hid (show w.heap.size < B0 by rw [← hB0, ← hW0]; simp; omega)
    have hx1 := Lib.hid (show w.heap.size + 1 < B0 by rw [← hB0, ← hW0]; simp)
    have hBle := Lib.hid (show B0 ≤ W0.heap.size by omega)
    clear hB0
    have hb0 : Below w.heap.size w W0 := by rw [← hW0]; exact two_alloc _ _ _
    have HC0 := Lib.hid (show W0.cell? ⟨w.heap.size, 0, none⟩ = some (.int .i64 ak) by rw [← hW0]; simp [go_sem])
    have HC1 := Lib.hid (show W0.cell? ⟨w.heap.size, 1, none⟩ = some (.string (bs ax)) by rw [← hW0]; simp [go_sem])
    have HC2 := Lib.hid (show W0.cell? ⟨w.heap.size, 2, none⟩ = some (.string (bs ay)) by rw [← hW0]; simp [go_sem])
    have HC3 := Lib.hid (show W0.cell? ⟨w.heap.size, 3, none⟩ = some (.string (bs az)) by rw [← hW0]; simp [go_sem])
    have HC4 := Lib.hid (show W0.cell? ⟨w.heap.size, 4, none⟩ = some (.int .i64 bk) by rw [← hW0]; simp [go_sem])
    have HC5 := Lib.hid (show W0.cell? ⟨w.heap.size, 5, none⟩ = some (.string (bs bx)) by rw [← hW0]; simp [go_sem])
    have HC6 := Lib.hid (show W0.cell? ⟨w.heap.size, 6, none⟩ = some (.string (bs by')) by rw [← hW0]; simp [go_sem])
    have HC7 := Lib.hid (show W0.cell? ⟨w.heap.size, 7, none⟩ = some (.string (bs bz)) by rw [← hW0]; simp [go_sem])
    have HC8 := Lib.hid (show W0.cell? ⟨w.heap.size, 8, none⟩ = some (.int .i64 ck) by rw [← hW0]; simp [go_sem])
    have HC9 := Lib.hid (show W0.cell? ⟨w.heap.size, 9, none⟩ = some (.string (bs cx)) by rw [← hW0]; simp [go_sem])
    have HC10 := Lib.hid (show W0.cell? ⟨w.heap.size, 10, none⟩ = some (.string (bs cy)) by rw [← hW0]; simp [go_sem])
    have HC11 := Lib.hid (show W0.cell? ⟨w.heap.size, 11, none⟩ = some (.string (bs cz)) by rw [← hW0]; simp [go_sem])
    have HC12 := Lib.hid (show W0.cell? ⟨w.heap.size + 1, 0, none⟩ = some (.int .i64 ak2) by rw [← hW0]; simp [go_sem])
    have HC13 := Lib.hid (show W0.cell? ⟨w.heap.size + 1, 1, none⟩ = some (.string (bs ax2)) by rw [← hW0]; simp [go_sem])
    have HC14 := Lib.hid (show W0.cell? ⟨w.heap.size + 1, 2, none⟩ = some (.string (bs ay2)) by rw [← hW0]; simp [go_sem])
    have HC15 := Lib.hid (show W0.cell? ⟨w.heap.size + 1, 3, none⟩ = some (.string (bs az2)) by rw [← hW0]; simp [go_sem])
    have HC16 := Lib.hid (show W0.cell? ⟨w.heap.size + 1, 4, none⟩ = some (.int .i64 bk2) by rw [← hW0]; simp [go_sem])
    have HC17 := Lib.hid (show W0.cell? ⟨w.heap.size + 1, 5, none⟩ = some (.string (bs bx2)) by rw [← hW0]; simp [go_sem])
    have HC18 := Lib.hid (show W0.cell? ⟨w.heap.size + 1, 6, none⟩ = some (.string (bs by2)) by rw [← hW0]; simp [go_sem])
    have HC19 := Lib.hid (show W0.cell? ⟨w.heap.size + 1, 7, none⟩ = some (.string (bs bz2)) by rw [← hW0]; simp [go_sem])
    have HC20 := Lib.hid (show W0.cell? ⟨w.heap.size + 1, 8, none⟩ = some (.int .i64 ck2) by rw [← hW0]; simp [go_sem])
    have HC21 := Lib.hid (show W0.cell? ⟨w.heap.size + 1, 9, none⟩ = some (.string (bs cx2)) by rw [← hW0]; simp [go_sem])
    have HC22 := Lib.hid (show W0.cell? ⟨w.heap.size + 1, 10, none⟩ = some (.string (bs cy2)) by rw [← hW0]; simp [go_sem])
    have HC23 := Lib.hid (show W0.cell? ⟨w.heap.size + 1, 11, none⟩ = some (.string (bs cz2)) by rw [← hW0]; simp [go_sem])
    clear hW0
    have hbn : Below B0 W0 W0 := Below.refl _ _
    refine wp_region_held_drew (S := (fun W => Below B0 W0 W)) (by kernel_rfl) ?_ (fun hHeld => ?_)
    · (try dsimp only); first | exact hbn | exact hbn.drew
    refine wpAnyH_take (i := 0) (v := ?_) rfl (by kernel_rfl) (by kernel_rfl) (by kernel_rfl) (fun _ _ _ h => h) (Or.inl ⟨by kernel_rfl, ?_⟩) (by assumption) ?_
    rotate_left
    · (intro ww hSw; (try dsimp only at hSw); have c0 := keptC HC0.out hSw hx0.out; have c1 := keptC HC1.out hSw hx0.out; have c2 := keptC HC2.out hSw hx0.out; have c3 := keptC HC3.out hSw hx0.out; have c4 := keptC HC4.out hSw hx0.out; have c5 := keptC HC5.out hSw hx0.out; have c6 := keptC HC6.out hSw hx0.out; have c7 := keptC HC7.out hSw hx0.out; have c8 := keptC HC8.out hSw hx0.out; have c9 := keptC HC9.out hSw hx0.out; have c10 := keptC HC10.out hSw hx0.out; have c11 := keptC HC11.out hSw hx0.out; go_simp); (try with_reducible rfl)
    (try simp only [Act.put])
    refine wpAnyH_take (i := 2) (v := ?_) rfl (by kernel_rfl) (by kernel_rfl) (by kernel_rfl) (fun _ _ _ h => h) (Or.inl ⟨by kernel_rfl, ?_⟩) (by assumption) ?_
    rotate_left
    · (intro ww hSw; (try dsimp only at hSw); have c0 := keptC HC12.out hSw hx1.out; have c1 := keptC HC13.out hSw hx1.out; have c2 := keptC HC14.out hSw hx1.out; have c3 := keptC HC15.out hSw hx1.out; have c4 := keptC HC16.out hSw hx1.out; have c5 := keptC HC17.out hSw hx1.out; have c6 := keptC HC18.out hSw hx1.out; have c7 := keptC HC19.out hSw hx1.out; have c8 := keptC HC20.out hSw hx1.out; have c9 := keptC HC21.out hSw hx1.out; have c10 := keptC HC22.out hSw hx1.out; have c11 := keptC HC23.out hSw hx1.out; go_simp); (try with_reducible rfl)
    (try simp only [Act.put])
    apply fork (Hyp := fun W X Y => Blk W X 99 (cells12 noTrip) ∧ Blk W Y 99 (cells12 noTrip) ∧ X ≠ Y ∧ B0 ≤ X ∧ B0 ≤ Y ∧ Below B0 W0 W)
    case main =>
      intro KEY
      refine wpAnyH_ready (rs := [1, 4, 5]) (by kernel_rfl) (by simp) ?_
      refine AllReadyH.cons rfl (fun K hK => ?_) (AllReadyH.cons rfl (fun K hK => ?_) (AllReadyH.cons rfl (fun K hK => ?_) AllReadyH.nil))
      · go_simp
        refine (sterms_calls _ _ _ _ _ _ _ _ _ _ _ _ _).mono ?_
        rintro e wn1 ⟨rfl, hbv⟩
        (try replace hbv := from_drew hbv)
        replace hbn := fb2 hbn hbv hBle.out
        clear hbv
        go_wp2_with fail
        refine hK.out _ _ ?_ (fun hHeld => ?_)
        · (try dsimp only); (first | exact hbn | exact hbn.drew)
        clear hK K
        (try simp only [Act.put, List.setIfInBounds_toArray, List.set_cons_zero, List.set_cons_succ])
        refine wpAnyH_ready (rs := [3, 4, 5]) (by kernel_rfl) (by simp) ?_
        refine AllReadyH.cons rfl (fun K hK => ?_) (AllReadyH.cons rfl (fun K hK => ?_) (AllReadyH.cons rfl (fun K hK => ?_) AllReadyH.nil))
        · go_simp
          refine (sterms_calls _ _ _ _ _ _ _ _ _ _ _ _ _).mono ?_
          rintro e wn2 ⟨rfl, hbv⟩
          (try replace hbv := from_drew hbv)
          replace hbn := fb2 hbn hbv hBle.out
          clear hbv
          go_wp2_with fail
          refine hK.out _ _ ?_ (fun hHeld => ?_)
          · (try dsimp only); (first | exact hbn | exact hbn.drew)
          clear hK K
          (try simp only [Act.put, List.setIfInBounds_toArray, List.set_cons_zero, List.set_cons_succ])
          refine wpAnyH_ready (rs := [4, 5]) (by kernel_rfl) (by simp) ?_
          refine AllReadyH.cons rfl (fun K hK => ?_) (AllReadyH.cons rfl (fun K hK => ?_) AllReadyH.nil)
          · go_simp
            obtain ⟨X, hXe⟩ : ∃ X, (wn2).heap.size = X := ⟨_, rfl⟩
            have hX : Blk ((wn2).alloc (.cells (cells12 noTrip) 99)) X 99 (cells12 noTrip) := by rw [← hXe]; exact blk_new _ _ _
            have hXle : B0 ≤ X := by rw [← hXe]; exact Nat.le_trans hBle.out hbn.size
            replace hbn := hbn.alloc (Nat.le_trans hBle.out hbn.size) (.cells (cells12 noTrip) 99)
            (try simp only [World.size_alloc] at hXe)
            have HXE := Lib.hid hXe
            clear hXe
            refine hK.out _ _ ?_ (fun hHeld => ?_)
            · (try dsimp only); (first | exact hbn | exact hbn.drew)
            clear hK K
            (try rw [HXE.out])
            (try simp only [Act.put, List.setIfInBounds_toArray, List.set_cons_zero, List.set_cons_succ])
            refine wpAnyH_ready (rs := [5]) (by kernel_rfl) (by simp) ?_
            refine AllReadyH.cons rfl (fun K hK => ?_) AllReadyH.nil
            · go_simp
              obtain ⟨Y, hYe⟩ : ∃ Y, (((wn2).alloc (.cells (cells12 noTrip) 99))).heap.size = Y := ⟨_, rfl⟩
              have hY : Blk ((((wn2).alloc (.cells (cells12 noTrip) 99))).alloc (.cells (cells12 noTrip) 99)) Y 99 (cells12 noTrip) := by rw [← hYe]; exact blk_new _ _ _
              have hYle : B0 ≤ Y := by rw [← hYe]; exact Nat.le_trans hBle.out hbn.size
              have hne : X ≠ Y := by have := blk_lt hX; rw [hYe] at this; omega
              replace hX := blk_on hX (box_below _ (.cells (cells12 noTrip) 99)) (blk_lt hX)
              replace hbn := hbn.alloc (Nat.le_trans hBle.out hbn.size) (.cells (cells12 noTrip) 99)
              (try simp only [World.size_alloc] at hYe)
              have HYE := Lib.hid hYe
              clear hYe
              refine hK.out _ _ ?_ (fun hHeld => ?_)
              · (try dsimp only); (first | exact hbn | exact hbn.drew)
              clear hK K
              (try rw [HYE.out])
              (try simp only [Act.put, List.setIfInBounds_toArray, List.set_cons_zero, List.set_cons_succ])
              first
                | (obtain ⟨WW, hWW⟩ : ∃ WW, ((((((wn2).alloc (.cells #[.int .i64 0, .string ⟨#[]⟩, .string ⟨#[]⟩, .string ⟨#[]⟩, .int .i64 0, .string ⟨#[]⟩, .string ⟨#[]⟩, .string ⟨#[]⟩, .int .i64 0, .string ⟨#[]⟩, .string ⟨#[]⟩, .string ⟨#[]⟩] 99))).alloc (.cells #[.int .i64 0, .string ⟨#[]⟩, .string ⟨#[]⟩, .string ⟨#[]⟩, .int .i64 0, .string ⟨#[]⟩, .string ⟨#[]⟩, .string ⟨#[]⟩, .int .i64 0, .string ⟨#[]⟩, .string ⟨#[]⟩, .string ⟨#[]⟩] 99))).drewN 3) = WW := ⟨_, rfl⟩; rw [hWW]; have hX' : Blk WW X 99 (cells12 noTrip) := (by rw [← hWW]; exact hX); have hY' : Blk WW Y 99 (cells12 noTrip) := (by rw [← hWW]; exact hY); have hb' : Below B0 W0 WW := (by rw [← hWW]; exact drewN_below hbn 3); exact KEY WW X Y ⟨hX', hY', hne, hXle, hYle, hb'⟩)
                | (obtain ⟨WW, hWW⟩ : ∃ WW, ((((((wn2).alloc (.cells #[.int .i64 0, .string ⟨#[]⟩, .string ⟨#[]⟩, .string ⟨#[]⟩, .int .i64 0, .string ⟨#[]⟩, .string ⟨#[]⟩, .string ⟨#[]⟩, .int .i64 0, .string ⟨#[]⟩, .string ⟨#[]⟩, .string ⟨#[]⟩] 99))).alloc (.cells #[.int .i64 0, .string ⟨#[]⟩, .string ⟨#[]⟩, .string ⟨#[]⟩, .int .i64 0, .string ⟨#[]⟩, .string ⟨#[]⟩, .string ⟨#[]⟩, .int .i64 0, .string ⟨#[]⟩, .string ⟨#[]⟩, .string ⟨#[]⟩] 99))).drewN 2) = WW := ⟨_, rfl⟩; rw [hWW]; have hX' : Blk WW X 99 (cells12 noTrip) := (by rw [← hWW]; exact hX); have hY' : Blk WW Y 99 (cells12 noTrip) := (by rw [← hWW]; exact hY); have hb' : Below B0 W0 WW := (by rw [← hWW]; exact drewN_below hbn 2); exact KEY WW X Y ⟨hX', hY', hne, hXle, hYle, hb'⟩)
                | (obtain ⟨WW, hWW⟩ : ∃ WW, ((((((wn2).alloc (.cells #[.int .i64 0, .string ⟨#[]⟩, .string ⟨#[]⟩, .string ⟨#[]⟩, .int .i64 0, .string ⟨#[]⟩, .string ⟨#[]⟩, .string ⟨#[]⟩, .int .i64 0, .string ⟨#[]⟩, .string ⟨#[]⟩, .string ⟨#[]⟩] 99))).alloc (.cells #[.int .i64 0, .string ⟨#[]⟩, .string ⟨#[]⟩, .string ⟨#[]⟩, .int .i64 0, .string ⟨#[]⟩, .string ⟨#[]⟩, .string ⟨#[]⟩, .int .i64 0, .string ⟨#[]⟩, .string ⟨#[]⟩, .string ⟨#[]⟩] 99))).drew.drew) = WW := ⟨_, rfl⟩; rw [hWW]; have hX' : Blk WW X 99 (cells12 noTrip) := (by rw [← hWW]; exact hX); have hY' : Blk WW Y 99 (cells12 noTrip) := (by rw [← hWW]; exact hY); have hb' : Below B0 W0 WW := (by rw [← hWW]; exact hbn.drew.drew); exact KEY WW X Y ⟨hX', hY', hne, hXle, hYle, hb'⟩)
                | (obtain ⟨WW, hWW⟩ : ∃ WW, ((((((wn2).alloc (.cells #[.int .i64 0, .string ⟨#[]⟩, .string ⟨#[]⟩, .string ⟨#[]⟩, .int .i64 0, .string ⟨#[]⟩, .string ⟨#[]⟩, .string ⟨#[]⟩, .int .i64 0, .string ⟨#[]⟩, .string ⟨#[]⟩, .string ⟨#[]⟩] 99))).alloc (.cells #[.int .i64 0, .string ⟨#[]⟩, .string ⟨#[]⟩, .string ⟨#[]⟩, .int .i64 0, .string ⟨#[]⟩, .string ⟨#[]⟩, .string ⟨#[]⟩, .int .i64 0, .string ⟨#[]⟩, .string ⟨#[]⟩, .string ⟨#[]⟩] 99))).drew) = WW := ⟨_, rfl⟩; rw [hWW]; have hX' : Blk WW X 99 (cells12 noTrip) := (by rw [← hWW]; exact hX); have hY' : Blk WW Y 99 (cells12 noTrip) := (by rw [← hWW]; exact hY); have hb' : Below B0 W0 WW := (by rw [← hWW]; exact hbn.drew); exact KEY WW X Y ⟨hX', hY', hne, hXle, hYle, hb'⟩)
                | (obtain ⟨WW, hWW⟩ : ∃ WW, (((((wn2).alloc (.cells #[.int .i64 0, .string ⟨#[]⟩, .string ⟨#[]⟩, .string ⟨#[]⟩, .int .i64 0, .string ⟨#[]⟩, .string ⟨#[]⟩, .string ⟨#[]⟩, .int .i64 0, .string ⟨#[]⟩, .string ⟨#[]⟩, .string ⟨#[]⟩] 99))).alloc (.cells #[.int .i64 0, .string ⟨#[]⟩, .string ⟨#[]⟩, .string ⟨#[]⟩, .int .i64 0, .string ⟨#[]⟩, .string ⟨#[]⟩, .string ⟨#[]⟩, .int .i64 0, .string ⟨#[]⟩, .string ⟨#[]⟩, .string ⟨#[]⟩] 99))) = WW := ⟨_, rfl⟩; rw [hWW]; have hX' : Blk WW X 99 (cells12 noTrip) := (by rw [← hWW]; exact hX); have hY' : Blk WW Y 99 (cells12 noTrip) := (by rw [← hWW]; exact hY); have hb' : Below B0 W0 WW := (by rw [← hWW]; exact hbn); exact KEY WW X Y ⟨hX', hY', hne, hXle, hYle, hb'⟩)
          · go_simp
            obtain ⟨Y, hYe⟩ : ∃ Y, (wn2).heap.size = Y := ⟨_, rfl⟩
            have hY : Blk ((wn2).alloc (.cells (cells12 noTrip) 99)) Y 99 (cells12 noTrip) := by rw [← hYe]; exact blk_new _ _ _
            have hYle : B0 ≤ Y := by rw [← hYe]; exact Nat.le_trans hBle.out hbn.size
            replace hbn := hbn.alloc (Nat.le_trans hBle.out hbn.size) (.cells (cells12 noTrip) 99)
            (try simp only [World.size_alloc] at hYe)
            have HYE := Lib.hid hYe
            clear hYe
            refine hK.out _ _ ?_ (fun hHeld => ?_)
            · (try dsimp only); (first | exact hbn | exact hbn.drew)
            clear hK K
            (try rw [HYE.out])
            (try simp only [Act.put, List.setIfInBounds_toArray, List.set_cons_zero, List.set_cons_succ])
            refine wpAnyH_ready (rs := [4]) (by kernel_rfl) (by simp) ?_
            refine AllReadyH.cons rfl (fun K hK => ?_) AllReadyH.nil
            · go_simp
              obtain ⟨X, hXe⟩ : ∃ X, (((wn2).alloc (.cells (cells12 noTrip) 99))).heap.size = X := ⟨_, rfl⟩
              have hX : Blk ((((wn2).alloc (.cells (cells12 noTrip) 99))).alloc (.cells (cells12 noTrip) 99)) X 99 (cells12 noTrip) := by rw [← hXe]; exact blk_new _ _ _
              have hXle : B0 ≤ X := by rw [← hXe]; exact Nat.le_trans hBle.out hbn.size
              have hne : X ≠ Y := by have := blk_lt hY; rw [hXe] at this; omega
              replace hY := blk_on hY (box_below _ (.cells (cells12 noTrip) 99)) (blk_lt hY)
              replace hbn := hbn.alloc (Nat.le_trans hBle.out hbn.size) (.cells (cells12 noTrip) 99)
              (try simp only [World.size_alloc] at hXe)
              have HXE := Lib.hid hXe
              clear hXe
              refine hK.out _ _ ?_ (fun hHeld => ?_)
              · (try dsimp only); (first | exact hbn | exact hbn.drew)
              clear hK K
              (try rw [HXE.out])
              (try simp only [Act.put, List.setIfInBounds_toArray, List.set_cons_zero, List.set_cons_succ])
              first
                | (obtain ⟨WW, hWW⟩ : ∃ WW, ((((((wn2).alloc (.cells #[.int .i64 0, .string ⟨#[]⟩, .string ⟨#[]⟩, .string ⟨#[]⟩, .int .i64 0, .string ⟨#[]⟩, .string ⟨#[]⟩, .string ⟨#[]⟩, .int .i64 0, .string ⟨#[]⟩, .string ⟨#[]⟩, .string ⟨#[]⟩] 99))).alloc (.cells #[.int .i64 0, .string ⟨#[]⟩, .string ⟨#[]⟩, .string ⟨#[]⟩, .int .i64 0, .string ⟨#[]⟩, .string ⟨#[]⟩, .string ⟨#[]⟩, .int .i64 0, .string ⟨#[]⟩, .string ⟨#[]⟩, .string ⟨#[]⟩] 99))).drewN 3) = WW := ⟨_, rfl⟩; rw [hWW]; have hX' : Blk WW X 99 (cells12 noTrip) := (by rw [← hWW]; exact hX); have hY' : Blk WW Y 99 (cells12 noTrip) := (by rw [← hWW]; exact hY); have hb' : Below B0 W0 WW := (by rw [← hWW]; exact drewN_below hbn 3); exact Eq.mp (by kernel_rfl) (KEY WW X Y ⟨hX', hY', hne, hXle, hYle, hb'⟩))
                | (obtain ⟨WW, hWW⟩ : ∃ WW, ((((((wn2).alloc (.cells #[.int .i64 0, .string ⟨#[]⟩, .string ⟨#[]⟩, .string ⟨#[]⟩, .int .i64 0, .string ⟨#[]⟩, .string ⟨#[]⟩, .string ⟨#[]⟩, .int .i64 0, .string ⟨#[]⟩, .string ⟨#[]⟩, .string ⟨#[]⟩] 99))).alloc (.cells #[.int .i64 0, .string ⟨#[]⟩, .string ⟨#[]⟩, .string ⟨#[]⟩, .int .i64 0, .string ⟨#[]⟩, .string ⟨#[]⟩, .string ⟨#[]⟩, .int .i64 0, .string ⟨#[]⟩, .string ⟨#[]⟩, .string ⟨#[]⟩] 99))).drewN 2) = WW := ⟨_, rfl⟩; rw [hWW]; have hX' : Blk WW X 99 (cells12 noTrip) := (by rw [← hWW]; exact hX); have hY' : Blk WW Y 99 (cells12 noTrip) := (by rw [← hWW]; exact hY); have hb' : Below B0 W0 WW := (by rw [← hWW]; exact drewN_below hbn 2); exact Eq.mp (by kernel_rfl) (KEY WW X Y ⟨hX', hY', hne, hXle, hYle, hb'⟩))
                | (obtain ⟨WW, hWW⟩ : ∃ WW, ((((((wn2).alloc (.cells #[.int .i64 0, .string ⟨#[]⟩, .string ⟨#[]⟩, .string ⟨#[]⟩, .int .i64 0, .string ⟨#[]⟩, .string ⟨#[]⟩, .string ⟨#[]⟩, .int .i64 0, .string ⟨#[]⟩, .string ⟨#[]⟩, .string ⟨#[]⟩] 99))).alloc (.cells #[.int .i64 0, .string ⟨#[]⟩, .string ⟨#[]⟩, .string ⟨#[]⟩, .int .i64 0, .string ⟨#[]⟩, .string ⟨#[]⟩, .string ⟨#[]⟩, .int .i64 0, .string ⟨#[]⟩, .string ⟨#[]⟩, .string ⟨#[]⟩] 99))).drew.drew) = WW := ⟨_, rfl⟩; rw [hWW]; have hX' : Blk WW X 99 (cells12 noTrip) := (by rw [← hWW]; exact hX); have hY' : Blk WW Y 99 (cells12 noTrip) := (by rw [← hWW]; exact hY); have hb' : Below B0 W0 WW := (by rw [← hWW]; exact hbn.drew.drew); exact Eq.mp (by kernel_rfl) (KEY WW X Y ⟨hX', hY', hne, hXle, hYle, hb'⟩))
                | (obtain ⟨WW, hWW⟩ : ∃ WW, ((((((wn2).alloc (.cells #[.int .i64 0, .string ⟨#[]⟩, .string ⟨#[]⟩, .string ⟨#[]⟩, .int .i64 0, .string ⟨#[]⟩, .string ⟨#[]⟩, .string ⟨#[]⟩, .int .i64 0, .string ⟨#[]⟩, .string ⟨#[]⟩, .string ⟨#[]⟩] 99))).alloc (.cells #[.int .i64 0, .string ⟨#[]⟩, .string ⟨#[]⟩, .string ⟨#[]⟩, .int .i64 0, .string ⟨#[]⟩, .string ⟨#[]⟩, .string ⟨#[]⟩, .int .i64 0, .string ⟨#[]⟩, .string ⟨#[]⟩, .string ⟨#[]⟩] 99))).drew) = WW := ⟨_, rfl⟩; rw [hWW]; have hX' : Blk WW X 99 (cells12 noTrip) := (by rw [← hWW]; exact hX); have hY' : Blk WW Y 99 (cells12 noTrip) := (by rw [← hWW]; exact hY); have hb' : Below B0 W0 WW := (by rw [← hWW]; exact hbn.drew); exact Eq.mp (by kernel_rfl) (KEY WW X Y ⟨hX', hY', hne, hXle, hYle, hb'⟩))
                | (obtain ⟨WW, hWW⟩ : ∃ WW, (((((wn2).alloc (.cells #[.int .i64 0, .string ⟨#[]⟩, .string ⟨#[]⟩, .string ⟨#[]⟩, .int .i64 0, .string ⟨#[]⟩, .string ⟨#[]⟩, .string ⟨#[]⟩, .int .i64 0, .string ⟨#[]⟩, .string ⟨#[]⟩, .string ⟨#[]⟩] 99))).alloc (.cells #[.int .i64 0, .string ⟨#[]⟩, .string ⟨#[]⟩, .string ⟨#[]⟩, .int .i64 0, .string ⟨#[]⟩, .string ⟨#[]⟩, .string ⟨#[]⟩, .int .i64 0, .string ⟨#[]⟩, .string ⟨#[]⟩, .string ⟨#[]⟩] 99))) = WW := ⟨_, rfl⟩; rw [hWW]; have hX' : Blk WW X 99 (cells12 noTrip) := (by rw [← hWW]; exact hX); have hY' : Blk WW Y 99 (cells12 noTrip) := (by rw [← hWW]; exact hY); have hb' : Below B0 W0 WW := (by rw [← hWW]; exact hbn); exact Eq.mp (by kernel_rfl) (KEY WW X Y ⟨hX', hY', hne, hXle, hYle, hb'⟩))
        · go_simp
          obtain ⟨X, hXe⟩ : ∃ X, (wn1).heap.size = X := ⟨_, rfl⟩
          have hX : Blk ((wn1).alloc (.cells (cells12 noTrip) 99)) X 99 (cells12 noTrip) := by rw [← hXe]; exact blk_new _ _ _
          have hXle : B0 ≤ X := by rw [← hXe]; exact Nat.le_trans hBle.out hbn.size
          replace hbn := hbn.alloc (Nat.le_trans hBle.out hbn.size) (.cells (cells12 noTrip) 99)
          (try simp only [World.size_alloc] at hXe)
          have HXE := Lib.hid hXe
          clear hXe
          refine hK.out _ _ ?_ (fun hHeld => ?_)
          · (try dsimp only); (first | exact hbn | exact hbn.drew)
          clear hK K
          (try rw [HXE.out])
          (try simp only [Act.put, List.setIfInBounds_toArray, List.set_cons_zero, List.set_cons_succ])
          refine wpAnyH_ready (rs := [3, 5]) (by kernel_rfl) (by simp) ?_
          refine AllReadyH.cons rfl (fun K hK => ?_) (AllReadyH.cons rfl (fun K hK => ?_) AllReadyH.nil)
          · go_simp
            refine (sterms_calls _ _ _ _ _ _ _ _ _ _ _ _ _).mono ?_
            rintro e wn8 ⟨rfl, hbv⟩
            (try replace hbv := from_drew hbv)
            replace hbn := fb2 hbn hbv hBle.out
            replace hX := blk_on hX hbv (blk_lt hX)
            clear hbv
            go_wp2_with fail
            refine hK.out _ _ ?_ (fun hHeld => ?_)
            · (try dsimp only); (first | exact hbn | exact hbn.drew)
            clear hK K
            (try simp only [Act.put, List.setIfInBounds_toArray, List.set_cons_zero, List.set_cons_succ])
            refine wpAnyH_ready (rs := [5]) (by kernel_rfl) (by simp) ?_
            refine AllReadyH.cons rfl (fun K hK => ?_) AllReadyH.nil
            · go_simp
              obtain ⟨Y, hYe⟩ : ∃ Y, (wn8).heap.size = Y := ⟨_, rfl⟩
              have hY : Blk ((wn8).alloc (.cells (cells12 noTrip) 99)) Y 99 (cells12 noTrip) := by rw [← hYe]; exact blk_new _ _ _
              have hYle : B0 ≤ Y := by rw [← hYe]; exact Nat.le_trans hBle.out hbn.size
              have hne : X ≠ Y := by have := blk_lt hX; rw [hYe] at this; omega
              replace hX := blk_on hX (box_below _ (.cells (cells12 noTrip) 99)) (blk_lt hX)
              replace hbn := hbn.alloc (Nat.le_trans hBle.out hbn.size) (.cells (cells12 noTrip) 99)
              (try simp only [World.size_alloc] at hYe)
              have HYE := Lib.hid hYe
              clear hYe
              refine hK.out _ _ ?_ (fun hHeld => ?_)
              · (try dsimp only); (first | exact hbn | exact hbn.drew)
              clear hK K
              (try rw [HYE.out])
              (try simp only [Act.put, List.setIfInBounds_toArray, List.set_cons_zero, List.set_cons_succ])
              first
                | (obtain ⟨WW, hWW⟩ : ∃ WW, ((((wn8).alloc (.cells #[.int .i64 0, .string ⟨#[]⟩, .string ⟨#[]⟩, .string ⟨#[]⟩, .int .i64 0, .string ⟨#[]⟩, .string ⟨#[]⟩, .string ⟨#[]⟩, .int .i64 0, .string ⟨#[]⟩, .string ⟨#[]⟩, .string ⟨#[]⟩] 99))).drewN 3) = WW := ⟨_, rfl⟩; rw [hWW]; have hX' : Blk WW X 99 (cells12 noTrip) := (by rw [← hWW]; exact hX); have hY' : Blk WW Y 99 (cells12 noTrip) := (by rw [← hWW]; exact hY); have hb' : Below B0 W0 WW := (by rw [← hWW]; exact drewN_below hbn 3); exact Eq.mp (by kernel_rfl) (KEY WW X Y ⟨hX', hY', hne, hXle, hYle, hb'⟩))
                | (obtain ⟨WW, hWW⟩ : ∃ WW, ((((wn8).alloc (.cells #[.int .i64 0, .string ⟨#[]⟩, .string ⟨#[]⟩, .string ⟨#[]⟩, .int .i64 0, .string ⟨#[]⟩, .string ⟨#[]⟩, .string ⟨#[]⟩, .int .i64 0, .string ⟨#[]⟩, .string ⟨#[]⟩, .string ⟨#[]⟩] 99))).drewN 2) = WW := ⟨_, rfl⟩; rw [hWW]; have hX' : Blk WW X 99 (cells12 noTrip) := (by rw [← hWW]; exact hX); have hY' : Blk WW Y 99 (cells12 noTrip) := (by rw [← hWW]; exact hY); have hb' : Below B0 W0 WW := (by rw [← hWW]; exact drewN_below hbn 2); exact Eq.mp (by kernel_rfl) (KEY WW X Y ⟨hX', hY', hne, hXle, hYle, hb'⟩))
                | (obtain ⟨WW, hWW⟩ : ∃ WW, ((((wn8).alloc (.cells #[.int .i64 0, .string ⟨#[]⟩, .string ⟨#[]⟩, .string ⟨#[]⟩, .int .i64 0, .string ⟨#[]⟩, .string ⟨#[]⟩, .string ⟨#[]⟩, .int .i64 0, .string ⟨#[]⟩, .string ⟨#[]⟩, .string ⟨#[]⟩] 99))).drew.drew) = WW := ⟨_, rfl⟩; rw [hWW]; have hX' : Blk WW X 99 (cells12 noTrip) := (by rw [← hWW]; exact hX); have hY' : Blk WW Y 99 (cells12 noTrip) := (by rw [← hWW]; exact hY); have hb' : Below B0 W0 WW := (by rw [← hWW]; exact hbn.drew.drew); exact Eq.mp (by kernel_rfl) (KEY WW X Y ⟨hX', hY', hne, hXle, hYle, hb'⟩))
                | (obtain ⟨WW, hWW⟩ : ∃ WW, ((((wn8).alloc (.cells #[.int .i64 0, .string ⟨#[]⟩, .string ⟨#[]⟩, .string ⟨#[]⟩, .int .i64 0, .string ⟨#[]⟩, .string ⟨#[]⟩, .string ⟨#[]⟩, .int .i64 0, .string ⟨#[]⟩, .string ⟨#[]⟩, .string ⟨#[]⟩] 99))).drew) = WW := ⟨_, rfl⟩; rw [hWW]; have hX' : Blk WW X 99 (cells12 noTrip) := (by rw [← hWW]; exact hX); have hY' : Blk WW Y 99 (cells12 noTrip) := (by rw [← hWW]; exact hY); have hb' : Below B0 W0 WW := (by rw [← hWW]; exact hbn.drew); exact Eq.mp (by kernel_rfl) (KEY WW X Y ⟨hX', hY', hne, hXle, hYle, hb'⟩))
                | (obtain ⟨WW, hWW⟩ : ∃ WW, (((wn8).alloc (.cells #[.int .i64 0, .string ⟨#[]⟩, .string ⟨#[]⟩, .string ⟨#[]⟩, .int .i64 0, .string ⟨#[]⟩, .string ⟨#[]⟩, .string ⟨#[]⟩, .int .i64 0, .string ⟨#[]⟩, .string ⟨#[]⟩, .string ⟨#[]⟩] 99))) = WW := ⟨_, rfl⟩; rw [hWW]; have hX' : Blk WW X 99 (cells12 noTrip) := (by rw [← hWW]; exact hX); have hY' : Blk WW Y 99 (cells12 noTrip) := (by rw [← hWW]; exact hY); have hb' : Below B0 W0 WW := (by rw [← hWW]; exact hbn); exact Eq.mp (by kernel_rfl) (KEY WW X Y ⟨hX', hY', hne, hXle, hYle, hb'⟩))
          · go_simp
            obtain ⟨Y, hYe⟩ : ∃ Y, (((wn1).alloc (.cells (cells12 noTrip) 99))).heap.size = Y := ⟨_, rfl⟩
            have hY : Blk ((((wn1).alloc (.cells (cells12 noTrip) 99))).alloc (.cells (cells12 noTrip) 99)) Y 99 (cells12 noTrip) := by rw [← hYe]; exact blk_new _ _ _
            have hYle : B0 ≤ Y := by rw [← hYe]; exact Nat.le_trans hBle.out hbn.size
            have hne : X ≠ Y := by have := blk_lt hX; rw [hYe] at this; omega
            replace hX := blk_on hX (box_below _ (.cells (cells12 noTrip) 99)) (blk_lt hX)
            replace hbn := hbn.alloc (Nat.le_trans hBle.out hbn.size) (.cells (cells12 noTrip) 99)
            (try simp only [World.size_alloc] at hYe)
            have HYE := Lib.hid hYe
            clear hYe
            refine hK.out _ _ ?_ (fun hHeld => ?_)
            · (try dsimp only); (first | exact hbn | exact hbn.drew)
            clear hK K
            (try rw [HYE.out])
            (try simp only [Act.put, List.setIfInBounds_toArray, List.set_cons_zero, List.set_cons_succ])
            refine wpAnyH_ready (rs := [3]) (by kernel_rfl) (by simp) ?_
            refine AllReadyH.cons rfl (fun K hK => ?_) AllReadyH.nil
            · go_simp
              refine (sterms_calls _ _ _ _ _ _ _ _ _ _ _ _ _).mono ?_
              rintro e wn11 ⟨rfl, hbv⟩
              (try replace hbv := from_drew hbv)
              replace hbn := fb2 hbn hbv hBle.out
              replace hX := blk_on hX hbv (blk_lt hX)
              replace hY := blk_on hY hbv (blk_lt hY)
              clear hbv
              go_wp2_with fail
              refine hK.out _ _ ?_ (fun hHeld => ?_)
              · (try dsimp only); (first | exact hbn | exact hbn.drew)
              clear hK K
              (try simp only [Act.put, List.setIfInBounds_toArray, List.set_cons_zero, List.set_cons_succ])
              first
                | (obtain ⟨WW, hWW⟩ : ∃ WW, ((wn11).drewN 3) = WW := ⟨_, rfl⟩; rw [hWW]; have hX' : Blk WW X 99 (cells12 noTrip) := (by rw [← hWW]; exact hX); have hY' : Blk WW Y 99 (cells12 noTrip) := (by rw [← hWW]; exact hY); have hb' : Below B0 W0 WW := (by rw [← hWW]; exact drewN_below hbn 3); exact Eq.mp (by kernel_rfl) (KEY WW X Y ⟨hX', hY', hne, hXle, hYle, hb'⟩))
                | (obtain ⟨WW, hWW⟩ : ∃ WW, ((wn11).drewN 2) = WW := ⟨_, rfl⟩; rw [hWW]; have hX' : Blk WW X 99 (cells12 noTrip) := (by rw [← hWW]; exact hX); have hY' : Blk WW Y 99 (cells12 noTrip) := (by rw [← hWW]; exact hY); have hb' : Below B0 W0 WW := (by rw [← hWW]; exact drewN_below hbn 2); exact Eq.mp (by kernel_rfl) (KEY WW X Y ⟨hX', hY', hne, hXle, hYle, hb'⟩))
                | (obtain ⟨WW, hWW⟩ : ∃ WW, ((wn11).drew.drew) = WW := ⟨_, rfl⟩; rw [hWW]; have hX' : Blk WW X 99 (cells12 noTrip) := (by rw [← hWW]; exact hX); have hY' : Blk WW Y 99 (cells12 noTrip) := (by rw [← hWW]; exact hY); have hb' : Below B0 W0 WW := (by rw [← hWW]; exact hbn.drew.drew); exact Eq.mp (by kernel_rfl) (KEY WW X Y ⟨hX', hY', hne, hXle, hYle, hb'⟩))
                | (obtain ⟨WW, hWW⟩ : ∃ WW, ((wn11).drew) = WW := ⟨_, rfl⟩; rw [hWW]; have hX' : Blk WW X 99 (cells12 noTrip) := (by rw [← hWW]; exact hX); have hY' : Blk WW Y 99 (cells12 noTrip) := (by rw [← hWW]; exact hY); have hb' : Below B0 W0 WW := (by rw [← hWW]; exact hbn.drew); exact Eq.mp (by kernel_rfl) (KEY WW X Y ⟨hX', hY', hne, hXle, hYle, hb'⟩))
                | (obtain ⟨WW, hWW⟩ : ∃ WW, (wn11) = WW := ⟨_, rfl⟩; rw [hWW]; have hX' : Blk WW X 99 (cells12 noTrip) := (by rw [← hWW]; exact hX); have hY' : Blk WW Y 99 (cells12 noTrip) := (by rw [← hWW]; exact hY); have hb' : Below B0 W0 WW := (by rw [← hWW]; exact hbn); exact Eq.mp (by kernel_rfl) (KEY WW X Y ⟨hX', hY', hne, hXle, hYle, hb'⟩))
        · go_simp
          obtain ⟨Y, hYe⟩ : ∃ Y, (wn1).heap.size = Y := ⟨_, rfl⟩
          have hY : Blk ((wn1).alloc (.cells (cells12 noTrip) 99)) Y 99 (cells12 noTrip) := by rw [← hYe]; exact blk_new _ _ _
          have hYle : B0 ≤ Y := by rw [← hYe]; exact Nat.le_trans hBle.out hbn.size
          replace hbn := hbn.alloc (Nat.le_trans hBle.out hbn.size) (.cells (cells12 noTrip) 99)
          (try simp only [World.size_alloc] at hYe)
          have HYE := Lib.hid hYe
          clear hYe
          refine hK.out _ _ ?_ (fun hHeld => ?_)
          · (try dsimp only); (first | exact hbn | exact hbn.drew)
          clear hK K
          (try rw [HYE.out])
          (try simp only [Act.put, List.setIfInBounds_toArray, List.set_cons_zero, List.set_cons_succ])
          refine wpAnyH_ready (rs := [3, 4]) (by kernel_rfl) (by simp) ?_
          refine AllReadyH.cons rfl (fun K hK => ?_) (AllReadyH.cons rfl (fun K hK => ?_) AllReadyH.nil)
          · go_simp
            refine (sterms_calls _ _ _ _ _ _ _ _ _ _ _ _ _).mono ?_
            rintro e wn13 ⟨rfl, hbv⟩
            (try replace hbv := from_drew hbv)
            replace hbn := fb2 hbn hbv hBle.out
            replace hY := blk_on hY hbv (blk_lt hY)
            clear hbv
            go_wp2_with fail
            refine hK.out _ _ ?_ (fun hHeld => ?_)
            · (try dsimp only); (first | exact hbn | exact hbn.drew)
            clear hK K
            (try simp only [Act.put, List.setIfInBounds_toArray, List.set_cons_zero, List.set_cons_succ])
            refine wpAnyH_ready (rs := [4]) (by kernel_rfl) (by simp) ?_
            refine AllReadyH.cons rfl (fun K hK => ?_) AllReadyH.nil
            · go_simp
              obtain ⟨X, hXe⟩ : ∃ X, (wn13).heap.size = X := ⟨_, rfl⟩
              have hX : Blk ((wn13).alloc (.cells (cells12 noTrip) 99)) X 99 (cells12 noTrip) := by rw [← hXe]; exact blk_new _ _ _
              have hXle : B0 ≤ X := by rw [← hXe]; exact Nat.le_trans hBle.out hbn.size
              have hne : X ≠ Y := by have := blk_lt hY; rw [hXe] at this; omega
              replace hY := blk_on hY (box_below _ (.cells (cells12 noTrip) 99)) (blk_lt hY)
              replace hbn := hbn.alloc (Nat.le_trans hBle.out hbn.size) (.cells (cells12 noTrip) 99)
              (try simp only [World.size_alloc] at hXe)
              have HXE := Lib.hid hXe
              clear hXe
              refine hK.out _ _ ?_ (fun hHeld => ?_)
              · (try dsimp only); (first | exact hbn | exact hbn.drew)
              clear hK K
              (try rw [HXE.out])
              (try simp only [Act.put, List.setIfInBounds_toArray, List.set_cons_zero, List.set_cons_succ])
              first
                | (obtain ⟨WW, hWW⟩ : ∃ WW, ((((wn13).alloc (.cells #[.int .i64 0, .string ⟨#[]⟩, .string ⟨#[]⟩, .string ⟨#[]⟩, .int .i64 0, .string ⟨#[]⟩, .string ⟨#[]⟩, .string ⟨#[]⟩, .int .i64 0, .string ⟨#[]⟩, .string ⟨#[]⟩, .string ⟨#[]⟩] 99))).drewN 3) = WW := ⟨_, rfl⟩; rw [hWW]; have hX' : Blk WW X 99 (cells12 noTrip) := (by rw [← hWW]; exact hX); have hY' : Blk WW Y 99 (cells12 noTrip) := (by rw [← hWW]; exact hY); have hb' : Below B0 W0 WW := (by rw [← hWW]; exact drewN_below hbn 3); exact Eq.mp (by kernel_rfl) (KEY WW X Y ⟨hX', hY', hne, hXle, hYle, hb'⟩))
                | (obtain ⟨WW, hWW⟩ : ∃ WW, ((((wn13).alloc (.cells #[.int .i64 0, .string ⟨#[]⟩, .string ⟨#[]⟩, .string ⟨#[]⟩, .int .i64 0, .string ⟨#[]⟩, .string ⟨#[]⟩, .string ⟨#[]⟩, .int .i64 0, .string ⟨#[]⟩, .string ⟨#[]⟩, .string ⟨#[]⟩] 99))).drewN 2) = WW := ⟨_, rfl⟩; rw [hWW]; have hX' : Blk WW X 99 (cells12 noTrip) := (by rw [← hWW]; exact hX); have hY' : Blk WW Y 99 (cells12 noTrip) := (by rw [← hWW]; exact hY); have hb' : Below B0 W0 WW := (by rw [← hWW]; exact drewN_below hbn 2); exact Eq.mp (by kernel_rfl) (KEY WW X Y ⟨hX', hY', hne, hXle, hYle, hb'⟩))
                | (obtain ⟨WW, hWW⟩ : ∃ WW, ((((wn13).alloc (.cells #[.int .i64 0, .string ⟨#[]⟩, .string ⟨#[]⟩, .string ⟨#[]⟩, .int .i64 0, .string ⟨#[]⟩, .string ⟨#[]⟩, .string ⟨#[]⟩, .int .i64 0, .string ⟨#[]⟩, .string ⟨#[]⟩, .string ⟨#[]⟩] 99))).drew.drew) = WW := ⟨_, rfl⟩; rw [hWW]; have hX' : Blk WW X 99 (cells12 noTrip) := (by rw [← hWW]; exact hX); have hY' : Blk WW Y 99 (cells12 noTrip) := (by rw [← hWW]; exact hY); have hb' : Below B0 W0 WW := (by rw [← hWW]; exact hbn.drew.drew); exact Eq.mp (by kernel_rfl) (KEY WW X Y ⟨hX', hY', hne, hXle, hYle, hb'⟩))
                | (obtain ⟨WW, hWW⟩ : ∃ WW, ((((wn13).alloc (.cells #[.int .i64 0, .string ⟨#[]⟩, .string ⟨#[]⟩, .string ⟨#[]⟩, .int .i64 0, .string ⟨#[]⟩, .string ⟨#[]⟩, .string ⟨#[]⟩, .int .i64 0, .string ⟨#[]⟩, .string ⟨#[]⟩, .string ⟨#[]⟩] 99))).drew) = WW := ⟨_, rfl⟩; rw [hWW]; have hX' : Blk WW X 99 (cells12 noTrip) := (by rw [← hWW]; exact hX); have hY' : Blk WW Y 99 (cells12 noTrip) := (by rw [← hWW]; exact hY); have hb' : Below B0 W0 WW := (by rw [← hWW]; exact hbn.drew); exact Eq.mp (by kernel_rfl) (KEY WW X Y ⟨hX', hY', hne, hXle, hYle, hb'⟩))
                | (obtain ⟨WW, hWW⟩ : ∃ WW, (((wn13).alloc (.cells #[.int .i64 0, .string ⟨#[]⟩, .string ⟨#[]⟩, .string ⟨#[]⟩, .int .i64 0, .string ⟨#[]⟩, .string ⟨#[]⟩, .string ⟨#[]⟩, .int .i64 0, .string ⟨#[]⟩, .string ⟨#[]⟩, .string ⟨#[]⟩] 99))) = WW := ⟨_, rfl⟩; rw [hWW]; have hX' : Blk WW X 99 (cells12 noTrip) := (by rw [← hWW]; exact hX); have hY' : Blk WW Y 99 (cells12 noTrip) := (by rw [← hWW]; exact hY); have hb' : Below B0 W0 WW := (by rw [← hWW]; exact hbn); exact Eq.mp (by kernel_rfl) (KEY WW X Y ⟨hX', hY', hne, hXle, hYle, hb'⟩))
          · go_simp
            obtain ⟨X, hXe⟩ : ∃ X, (((wn1).alloc (.cells (cells12 noTrip) 99))).heap.size = X := ⟨_, rfl⟩
            have hX : Blk ((((wn1).alloc (.cells (cells12 noTrip) 99))).alloc (.cells (cells12 noTrip) 99)) X 99 (cells12 noTrip) := by rw [← hXe]; exact blk_new _ _ _
            have hXle : B0 ≤ X := by rw [← hXe]; exact Nat.le_trans hBle.out hbn.size
            have hne : X ≠ Y := by have := blk_lt hY; rw [hXe] at this; omega
            replace hY := blk_on hY (box_below _ (.cells (cells12 noTrip) 99)) (blk_lt hY)
            replace hbn := hbn.alloc (Nat.le_trans hBle.out hbn.size) (.cells (cells12 noTrip) 99)
            (try simp only [World.size_alloc] at hXe)
            have HXE := Lib.hid hXe
            clear hXe
            refine hK.out _ _ ?_ (fun hHeld => ?_)
            · (try dsimp only); (first | exact hbn | exact hbn.drew)
            clear hK K
            (try rw [HXE.out])
            (try simp only [Act.put, List.setIfInBounds_toArray, List.set_cons_zero, List.set_cons_succ])
            refine wpAnyH_ready (rs := [3]) (by kernel_rfl) (by simp) ?_
            refine AllReadyH.cons rfl (fun K hK => ?_) AllReadyH.nil
            · go_simp
              refine (sterms_calls _ _ _ _ _ _ _ _ _ _ _ _ _).mono ?_
              rintro e wn16 ⟨rfl, hbv⟩
              (try replace hbv := from_drew hbv)
              replace hbn := fb2 hbn hbv hBle.out
              replace hX := blk_on hX hbv (blk_lt hX)
              replace hY := blk_on hY hbv (blk_lt hY)
              clear hbv
              go_wp2_with fail
              refine hK.out _ _ ?_ (fun hHeld => ?_)
              · (try dsimp only); (first | exact hbn | exact hbn.drew)
              clear hK K
              (try simp only [Act.put, List.setIfInBounds_toArray, List.set_cons_zero, List.set_cons_succ])
              first
                | (obtain ⟨WW, hWW⟩ : ∃ WW, ((wn16).drewN 3) = WW := ⟨_, rfl⟩; rw [hWW]; have hX' : Blk WW X 99 (cells12 noTrip) := (by rw [← hWW]; exact hX); have hY' : Blk WW Y 99 (cells12 noTrip) := (by rw [← hWW]; exact hY); have hb' : Below B0 W0 WW := (by rw [← hWW]; exact drewN_below hbn 3); exact Eq.mp (by kernel_rfl) (KEY WW X Y ⟨hX', hY', hne, hXle, hYle, hb'⟩))
                | (obtain ⟨WW, hWW⟩ : ∃ WW, ((wn16).drewN 2) = WW := ⟨_, rfl⟩; rw [hWW]; have hX' : Blk WW X 99 (cells12 noTrip) := (by rw [← hWW]; exact hX); have hY' : Blk WW Y 99 (cells12 noTrip) := (by rw [← hWW]; exact hY); have hb' : Below B0 W0 WW := (by rw [← hWW]; exact drewN_below hbn 2); exact Eq.mp (by kernel_rfl) (KEY WW X Y ⟨hX', hY', hne, hXle, hYle, hb'⟩))
                | (obtain ⟨WW, hWW⟩ : ∃ WW, ((wn16).drew.drew) = WW := ⟨_, rfl⟩; rw [hWW]; have hX' : Blk WW X 99 (cells12 noTrip) := (by rw [← hWW]; exact hX); have hY' : Blk WW Y 99 (cells12 noTrip) := (by rw [← hWW]; exact hY); have hb' : Below B0 W0 WW := (by rw [← hWW]; exact hbn.drew.drew); exact Eq.mp (by kernel_rfl) (KEY WW X Y ⟨hX', hY', hne, hXle, hYle, hb'⟩))
                | (obtain ⟨WW, hWW⟩ : ∃ WW, ((wn16).drew) = WW := ⟨_, rfl⟩; rw [hWW]; have hX' : Blk WW X 99 (cells12 noTrip) := (by rw [← hWW]; exact hX); have hY' : Blk WW Y 99 (cells12 noTrip) := (by rw [← hWW]; exact hY); have hb' : Below B0 W0 WW := (by rw [← hWW]; exact hbn.drew); exact Eq.mp (by kernel_rfl) (KEY WW X Y ⟨hX', hY', hne, hXle, hYle, hb'⟩))
                | (obtain ⟨WW, hWW⟩ : ∃ WW, (wn16) = WW := ⟨_, rfl⟩; rw [hWW]; have hX' : Blk WW X 99 (cells12 noTrip) := (by rw [← hWW]; exact hX); have hY' : Blk WW Y 99 (cells12 noTrip) := (by rw [← hWW]; exact hY); have hb' : Below B0 W0 WW := (by rw [← hWW]; exact hbn); exact Eq.mp (by kernel_rfl) (KEY WW X Y ⟨hX', hY', hne, hXle, hYle, hb'⟩))
      · go_simp
        obtain ⟨X, hXe⟩ : ∃ X, (W0).heap.size = X := ⟨_, rfl⟩
        have hX : Blk ((W0).alloc (.cells (cells12 noTrip) 99)) X 99 (cells12 noTrip) := by rw [← hXe]; exact blk_new _ _ _
        have hXle : B0 ≤ X := by rw [← hXe]; exact Nat.le_trans hBle.out hbn.size
        replace hbn := hbn.alloc (Nat.le_trans hBle.out hbn.size) (.cells (cells12 noTrip) 99)
        (try simp only [World.size_alloc] at hXe)
        have HXE := Lib.hid hXe
        clear hXe
        refine hK.out _ _ ?_ (fun hHeld => ?_)
        · (try dsimp only); (first | exact hbn | exact hbn.drew)
        clear hK K
        (try rw [HXE.out])
        (try simp only [Act.put, List.setIfInBounds_toArray, List.set_cons_zero, List.set_cons_succ])
        refine wpAnyH_ready (rs := [1, 5]) (by kernel_rfl) (by simp) ?_
        refine AllReadyH.cons rfl (fun K hK => ?_) (AllReadyH.cons rfl (fun K hK => ?_) AllReadyH.nil)
        · go_simp
          refine (sterms_calls _ _ _ _ _ _ _ _ _ _ _ _ _).mono ?_
          rintro e wn18 ⟨rfl, hbv⟩
          (try replace hbv := from_drew hbv)
          replace hbn := fb2 hbn hbv hBle.out
          replace hX := blk_on hX hbv (blk_lt hX)
          clear hbv
          go_wp2_with fail
          refine hK.out _ _ ?_ (fun hHeld => ?_)
          · (try dsimp only); (first | exact hbn | exact hbn.drew)
          clear hK K
          (try simp only [Act.put, List.setIfInBounds_toArray, List.set_cons_zero, List.set_cons_succ])
          refine wpAnyH_ready (rs := [3, 5]) (by kernel_rfl) (by simp) ?_
          refine AllReadyH.cons rfl (fun K hK => ?_) (AllReadyH.cons rfl (fun K hK => ?_) AllReadyH.nil)
          · go_simp
            refine (sterms_calls _ _ _ _ _ _ _ _ _ _ _ _ _).mono ?_
            rintro e wn19 ⟨rfl, hbv⟩
            (try replace hbv := from_drew hbv)
            replace hbn := fb2 hbn hbv hBle.out
            replace hX := blk_on hX hbv (blk_lt hX)
            clear hbv
            go_wp2_with fail
            refine hK.out _ _ ?_ (fun hHeld => ?_)
            · (try dsimp only); (first | exact hbn | exact hbn.drew)
            clear hK K
            (try simp only [Act.put, List.setIfInBounds_toArray, List.set_cons_zero, List.set_cons_succ])
            refine wpAnyH_ready (rs := [5]) (by kernel_rfl) (by simp) ?_
            refine AllReadyH.cons rfl (fun K hK => ?_) AllReadyH.nil
            · go_simp
              obtain ⟨Y, hYe⟩ : ∃ Y, (wn19).heap.size = Y := ⟨_, rfl⟩
              have hY : Blk ((wn19).alloc (.cells (cells12 noTrip) 99)) Y 99 (cells12 noTrip) := by rw [← hYe]; exact blk_new _ _ _
              have hYle : B0 ≤ Y := by rw [← hYe]; exact Nat.le_trans hBle.out hbn.size
              have hne : X ≠ Y := by have := blk_lt hX; rw [hYe] at this; omega
              replace hX := blk_on hX (box_below _ (.cells (cells12 noTrip) 99)) (blk_lt hX)
              replace hbn := hbn.alloc (Nat.le_trans hBle.out hbn.size) (.cells (cells12 noTrip) 99)
              (try simp only [World.size_alloc] at hYe)
              have HYE := Lib.hid hYe
              clear hYe
              refine hK.out _ _ ?_ (fun hHeld => ?_)
              · (try dsimp only); (first | exact hbn | exact hbn.drew)
              clear hK K
              (try rw [HYE.out])
              (try simp only [Act.put, List.setIfInBounds_toArray, List.set_cons_zero, List.set_cons_succ])
              first
                | (obtain ⟨WW, hWW⟩ : ∃ WW, ((((wn19).alloc (.cells #[.int .i64 0, .string ⟨#[]⟩, .string ⟨#[]⟩, .string ⟨#[]⟩, .int .i64 0, .string ⟨#[]⟩, .string ⟨#[]⟩, .string ⟨#[]⟩, .int .i64 0, .string ⟨#[]⟩, .string ⟨#[]⟩, .string ⟨#[]⟩] 99))).drewN 3) = WW := ⟨_, rfl⟩; rw [hWW]; have hX' : Blk WW X 99 (cells12 noTrip) := (by rw [← hWW]; exact hX); have hY' : Blk WW Y 99 (cells12 noTrip) := (by rw [← hWW]; exact hY); have hb' : Below B0 W0 WW := (by rw [← hWW]; exact drewN_below hbn 3); exact Eq.mp (by kernel_rfl) (KEY WW X Y ⟨hX', hY', hne, hXle, hYle, hb'⟩))
                | (obtain ⟨WW, hWW⟩ : ∃ WW, ((((wn19).alloc (.cells #[.int .i64 0, .string ⟨#[]⟩, .string ⟨#[]⟩, .string ⟨#[]⟩, .int .i64 0, .string ⟨#[]⟩, .string ⟨#[]⟩, .string ⟨#[]⟩, .int .i64 0, .string ⟨#[]⟩, .string ⟨#[]⟩, .string ⟨#[]⟩] 99))).drewN 2) = WW := ⟨_, rfl⟩; rw [hWW]; have hX' : Blk WW X 99 (cells12 noTrip) := (by rw [← hWW]; exact hX); have hY' : Blk WW Y 99 (cells12 noTrip) := (by rw [← hWW]; exact hY); have hb' : Below B0 W0 WW := (by rw [← hWW]; exact drewN_below hbn 2); exact Eq.mp (by kernel_rfl) (KEY WW X Y ⟨hX', hY', hne, hXle, hYle, hb'⟩))
                | (obtain ⟨WW, hWW⟩ : ∃ WW, ((((wn19).alloc (.cells #[.int .i64 0, .string ⟨#[]⟩, .string ⟨#[]⟩, .string ⟨#[]⟩, .int .i64 0, .string ⟨#[]⟩, .string ⟨#[]⟩, .string ⟨#[]⟩, .int .i64 0, .string ⟨#[]⟩, .string ⟨#[]⟩, .string ⟨#[]⟩] 99))).drew.drew) = WW := ⟨_, rfl⟩; rw [hWW]; have hX' : Blk WW X 99 (cells12 noTrip) := (by rw [← hWW]; exact hX); have hY' : Blk WW Y 99 (cells12 noTrip) := (by rw [← hWW]; exact hY); have hb' : Below B0 W0 WW := (by rw [← hWW]; exact hbn.drew.drew); exact Eq.mp (by kernel_rfl) (KEY WW X Y ⟨hX', hY', hne, hXle, hYle, hb'⟩))
                | (obtain ⟨WW, hWW⟩ : ∃ WW, ((((wn19).alloc (.cells #[.int .i64 0, .string ⟨#[]⟩, .string ⟨#[]⟩, .string ⟨#[]⟩, .int .i64 0, .string ⟨#[]⟩, .string ⟨#[]⟩, .string ⟨#[]⟩, .int .i64 0, .string ⟨#[]⟩, .string ⟨#[]⟩, .string ⟨#[]⟩] 99))).drew) = WW := ⟨_, rfl⟩; rw [hWW]; have hX' : Blk WW X 99 (cells12 noTrip) := (by rw [← hWW]; exact hX); have hY' : Blk WW Y 99 (cells12 noTrip) := (by rw [← hWW]; exact hY); have hb' : Below B0 W0 WW := (by rw [← hWW]; exact hbn.drew); exact Eq.mp (by kernel_rfl) (KEY WW X Y ⟨hX', hY', hne, hXle, hYle, hb'⟩))
                | (obtain ⟨WW, hWW⟩ : ∃ WW, (((wn19).alloc (.cells #[.int .i64 0, .string ⟨#[]⟩, .string ⟨#[]⟩, .string ⟨#[]⟩, .int .i64 0, .string ⟨#[]⟩, .string ⟨#[]⟩, .string ⟨#[]⟩, .int .i64 0, .string ⟨#[]⟩, .string ⟨#[]⟩, .string ⟨#[]⟩] 99))) = WW := ⟨_, rfl⟩; rw [hWW]; have hX' : Blk WW X 99 (cells12 noTrip) := (by rw [← hWW]; exact hX); have hY' : Blk WW Y 99 (cells12 noTrip) := (by rw [← hWW]; exact hY); have hb' : Below B0 W0 WW := (by rw [← hWW]; exact hbn); exact Eq.mp (by kernel_rfl) (KEY WW X Y ⟨hX', hY', hne, hXle, hYle, hb'⟩))
          · go_simp
            obtain ⟨Y, hYe⟩ : ∃ Y, (wn18).heap.size = Y := ⟨_, rfl⟩
            have hY : Blk ((wn18).alloc (.cells (cells12 noTrip) 99)) Y 99 (cells12 noTrip) := by rw [← hYe]; exact blk_new _ _ _
            have hYle : B0 ≤ Y := by rw [← hYe]; exact Nat.le_trans hBle.out hbn.size
            have hne : X ≠ Y := by have := blk_lt hX; rw [hYe] at this; omega
            replace hX := blk_on hX (box_below _ (.cells (cells12 noTrip) 99)) (blk_lt hX)
            replace hbn := hbn.alloc (Nat.le_trans hBle.out hbn.size) (.cells (cells12 noTrip) 99)
            (try simp only [World.size_alloc] at hYe)
            have HYE := Lib.hid hYe
            clear hYe
            refine hK.out _ _ ?_ (fun hHeld => ?_)
            · (try dsimp only); (first | exact hbn | exact hbn.drew)
            clear hK K
            (try rw [HYE.out])
            (try simp only [Act.put, List.setIfInBounds_toArray, List.set_cons_zero, List.set_cons_succ])
            refine wpAnyH_ready (rs := [3]) (by kernel_rfl) (by simp) ?_
            refine AllReadyH.cons rfl (fun K hK => ?_) AllReadyH.nil
            · go_simp
              refine (sterms_calls _ _ _ _ _ _ _ _ _ _ _ _ _).mono ?_
              rintro e wn22 ⟨rfl, hbv⟩
              (try replace hbv := from_drew hbv)
              replace hbn := fb2 hbn hbv hBle.out
              replace hX := blk_on hX hbv (blk_lt hX)
              replace hY := blk_on hY hbv (blk_lt hY)
              clear hbv
              go_wp2_with fail
              refine hK.out _ _ ?_ (fun hHeld => ?_)
              · (try dsimp only); (first | exact hbn | exact hbn.drew)
              clear hK K
              (try simp only [Act.put, List.setIfInBounds_toArray, List.set_cons_zero, List.set_cons_succ])
              first
                | (obtain ⟨WW, hWW⟩ : ∃ WW, ((wn22).drewN 3) = WW := ⟨_, rfl⟩; rw [hWW]; have hX' : Blk WW X 99 (cells12 noTrip) := (by rw [← hWW]; exact hX); have hY' : Blk WW Y 99 (cells12 noTrip) := (by rw [← hWW]; exact hY); have hb' : Below B0 W0 WW := (by rw [← hWW]; exact drewN_below hbn 3); exact Eq.mp (by kernel_rfl) (KEY WW X Y ⟨hX', hY', hne, hXle, hYle, hb'⟩))
                | (obtain ⟨WW, hWW⟩ : ∃ WW, ((wn22).drewN 2) = WW := ⟨_, rfl⟩; rw [hWW]; have hX' : Blk WW X 99 (cells12 noTrip) := (by rw [← hWW]; exact hX); have hY' : Blk WW Y 99 (cells12 noTrip) := (by rw [← hWW]; exact hY); have hb' : Below B0 W0 WW := (by rw [← hWW]; exact drewN_below hbn 2); exact Eq.mp (by kernel_rfl) (KEY WW X Y ⟨hX', hY', hne, hXle, hYle, hb'⟩))
                | (obtain ⟨WW, hWW⟩ : ∃ WW, ((wn22).drew.drew) = WW := ⟨_, rfl⟩; rw [hWW]; have hX' : Blk WW X 99 (cells12 noTrip) := (by rw [← hWW]; exact hX); have hY' : Blk WW Y 99 (cells12 noTrip) := (by rw [← hWW]; exact hY); have hb' : Below B0 W0 WW := (by rw [← hWW]; exact hbn.drew.drew); exact Eq.mp (by kernel_rfl) (KEY WW X Y ⟨hX', hY', hne, hXle, hYle, hb'⟩))
                | (obtain ⟨WW, hWW⟩ : ∃ WW, ((wn22).drew) = WW := ⟨_, rfl⟩; rw [hWW]; have hX' : Blk WW X 99 (cells12 noTrip) := (by rw [← hWW]; exact hX); have hY' : Blk WW Y 99 (cells12 noTrip) := (by rw [← hWW]; exact hY); have hb' : Below B0 W0 WW := (by rw [← hWW]; exact hbn.drew); exact Eq.mp (by kernel_rfl) (KEY WW X Y ⟨hX', hY', hne, hXle, hYle, hb'⟩))
                | (obtain ⟨WW, hWW⟩ : ∃ WW, (wn22) = WW := ⟨_, rfl⟩; rw [hWW]; have hX' : Blk WW X 99 (cells12 noTrip) := (by rw [← hWW]; exact hX); have hY' : Blk WW Y 99 (cells12 noTrip) := (by rw [← hWW]; exact hY); have hb' : Below B0 W0 WW := (by rw [← hWW]; exact hbn); exact Eq.mp (by kernel_rfl) (KEY WW X Y ⟨hX', hY', hne, hXle, hYle, hb'⟩))
        · go_simp
          obtain ⟨Y, hYe⟩ : ∃ Y, (((W0).alloc (.cells (cells12 noTrip) 99))).heap.size = Y := ⟨_, rfl⟩
          have hY : Blk ((((W0).alloc (.cells (cells12 noTrip) 99))).alloc (.cells (cells12 noTrip) 99)) Y 99 (cells12 noTrip) := by rw [← hYe]; exact blk_new _ _ _
          have hYle : B0 ≤ Y := by rw [← hYe]; exact Nat.le_trans hBle.out hbn.size
          have hne : X ≠ Y := by have := blk_lt hX; rw [hYe] at this; omega
          replace hX := blk_on hX (box_below _ (.cells (cells12 noTrip) 99)) (blk_lt hX)
          replace hbn := hbn.alloc (Nat.le_trans hBle.out hbn.size) (.cells (cells12 noTrip) 99)
          (try simp only [World.size_alloc] at hYe)
          have HYE := Lib.hid hYe
          clear hYe
          refine hK.out _ _ ?_ (fun hHeld => ?_)
          · (try dsimp only); (first | exact hbn | exact hbn.drew)
          clear hK K
          (try rw [HYE.out])
          (try simp only [Act.put, List.setIfInBounds_toArray, List.set_cons_zero, List.set_cons_succ])
          refine wpAnyH_ready (rs := [1]) (by kernel_rfl) (by simp) ?_
          refine AllReadyH.cons rfl (fun K hK => ?_) AllReadyH.nil
          · go_simp
            refine (sterms_calls _ _ _ _ _ _ _ _ _ _ _ _ _).mono ?_
            rintro e wn24 ⟨rfl, hbv⟩
            (try replace hbv := from_drew hbv)
            replace hbn := fb2 hbn hbv hBle.out
            replace hX := blk_on hX hbv (blk_lt hX)
            replace hY := blk_on hY hbv (blk_lt hY)
            clear hbv
            go_wp2_with fail
            refine hK.out _ _ ?_ (fun hHeld => ?_)
            · (try dsimp only); (first | exact hbn | exact hbn.drew)
            clear hK K
            (try simp only [Act.put, List.setIfInBounds_toArray, List.set_cons_zero, List.set_cons_succ])
            refine wpAnyH_ready (rs := [3]) (by kernel_rfl) (by simp) ?_
            refine AllReadyH.cons rfl (fun K hK => ?_) AllReadyH.nil
            · go_simp
              refine (sterms_calls _ _ _ _ _ _ _ _ _ _ _ _ _).mono ?_
              rintro e wn25 ⟨rfl, hbv⟩
              (try replace hbv := from_drew hbv)
              replace hbn := fb2 hbn hbv hBle.out
              replace hX := blk_on hX hbv (blk_lt hX)
              replace hY := blk_on hY hbv (blk_lt hY)
              clear hbv
              go_wp2_with fail
              refine hK.out _ _ ?_ (fun hHeld => ?_)
              · (try dsimp only); (first | exact hbn | exact hbn.drew)
              clear hK K
              (try simp only [Act.put, List.setIfInBounds_toArray, List.set_cons_zero, List.set_cons_succ])
              first
                | (obtain ⟨WW, hWW⟩ : ∃ WW, ((wn25).drewN 3) = WW := ⟨_, rfl⟩; rw [hWW]; have hX' : Blk WW X 99 (cells12 noTrip) := (by rw [← hWW]; exact hX); have hY' : Blk WW Y 99 (cells12 noTrip) := (by rw [← hWW]; exact hY); have hb' : Below B0 W0 WW := (by rw [← hWW]; exact drewN_below hbn 3); exact Eq.mp (by kernel_rfl) (KEY WW X Y ⟨hX', hY', hne, hXle, hYle, hb'⟩))
                | (obtain ⟨WW, hWW⟩ : ∃ WW, ((wn25).drewN 2) = WW := ⟨_, rfl⟩; rw [hWW]; have hX' : Blk WW X 99 (cells12 noTrip) := (by rw [← hWW]; exact hX); have hY' : Blk WW Y 99 (cells12 noTrip) := (by rw [← hWW]; exact hY); have hb' : Below B0 W0 WW := (by rw [← hWW]; exact drewN_below hbn 2); exact Eq.mp (by kernel_rfl) (KEY WW X Y ⟨hX', hY', hne, hXle, hYle, hb'⟩))
                | (obtain ⟨WW, hWW⟩ : ∃ WW, ((wn25).drew.drew) = WW := ⟨_, rfl⟩; rw [hWW]; have hX' : Blk WW X 99 (cells12 noTrip) := (by rw [← hWW]; exact hX); have hY' : Blk WW Y 99 (cells12 noTrip) := (by rw [← hWW]; exact hY); have hb' : Below B0 W0 WW := (by rw [← hWW]; exact hbn.drew.drew); exact Eq.mp (by kernel_rfl) (KEY WW X Y ⟨hX', hY', hne, hXle, hYle, hb'⟩))
                | (obtain ⟨WW, hWW⟩ : ∃ WW, ((wn25).drew) = WW := ⟨_, rfl⟩; rw [hWW]; have hX' : Blk WW X 99 (cells12 noTrip) := (by rw [← hWW]; exact hX); have hY' : Blk WW Y 99 (cells12 noTrip) := (by rw [← hWW]; exact hY); have hb' : Below B0 W0 WW := (by rw [← hWW]; exact hbn.drew); exact Eq.mp (by kernel_rfl) (KEY WW X Y ⟨hX', hY', hne, hXle, hYle, hb'⟩))
                | (obtain ⟨WW, hWW⟩ : ∃ WW, (wn25) = WW := ⟨_, rfl⟩; rw [hWW]; have hX' : Blk WW X 99 (cells12 noTrip) := (by rw [← hWW]; exact hX); have hY' : Blk WW Y 99 (cells12 noTrip) := (by rw [← hWW]; exact hY); have hb' : Below B0 W0 WW := (by rw [← hWW]; exact hbn); exact Eq.mp (by kernel_rfl) (KEY WW X Y ⟨hX', hY', hne, hXle, hYle, hb'⟩))
      · go_simp
        obtain ⟨Y, hYe⟩ : ∃ Y, (W0).heap.size = Y := ⟨_, rfl⟩
        have hY : Blk ((W0).alloc (.cells (cells12 noTrip) 99)) Y 99 (cells12 noTrip) := by rw [← hYe]; exact blk_new _ _ _
        have hYle : B0 ≤ Y := by rw [← hYe]; exact Nat.le_trans hBle.out hbn.size
        replace hbn := hbn.alloc (Nat.le_trans hBle.out hbn.size) (.cells (cells12 noTrip) 99)
        (try simp only [World.size_alloc] at hYe)
        have HYE := Lib.hid hYe
        clear hYe
        refine hK.out _ _ ?_ (fun hHeld => ?_)
        · (try dsimp only); (first | exact hbn | exact hbn.drew)
        clear hK K
        (try rw [HYE.out])
        (try simp only [Act.put, List.setIfInBounds_toArray, List.set_cons_zero, List.set_cons_succ])
        refine wpAnyH_ready (rs := [1, 4]) (by kernel_rfl) (by simp) ?_
        refine AllReadyH.cons rfl (fun K hK => ?_) (AllReadyH.cons rfl (fun K hK => ?_) AllReadyH.nil)
        · go_simp
          refine (sterms_calls _ _ _ _ _ _ _ _ _ _ _ _ _).mono ?_
          rintro e wn27 ⟨rfl, hbv⟩
          (try replace hbv := from_drew hbv)
          replace hbn := fb2 hbn hbv hBle.out
          replace hY := blk_on hY hbv (blk_lt hY)
          clear hbv
          go_wp2_with fail
          refine hK.out _ _ ?_ (fun hHeld => ?_)
          · (try dsimp only); (first | exact hbn | exact hbn.drew)
          clear hK K
          (try simp only [Act.put, List.setIfInBounds_toArray, List.set_cons_zero, List.set_cons_succ])
          refine wpAnyH_ready (rs := [3, 4]) (by kernel_rfl) (by simp) ?_
          refine AllReadyH.cons rfl (fun K hK => ?_) (AllReadyH.cons rfl (fun K hK => ?_) AllReadyH.nil)
          · go_simp
            refine (sterms_calls _ _ _ _ _ _ _ _ _ _ _ _ _).mono ?_
            rintro e wn28 ⟨rfl, hbv⟩
            (try replace hbv := from_drew hbv)
            replace hbn := fb2 hbn hbv hBle.out
            replace hY := blk_on hY hbv (blk_lt hY)
            clear hbv
            go_wp2_with fail
            refine hK.out _ _ ?_ (fun hHeld => ?_)
            · (try dsimp only); (first | exact hbn | exact hbn.drew)
            clear hK K
            (try simp only [Act.put, List.setIfInBounds_toArray, List.set_cons_zero, List.set_cons_succ])
            refine wpAnyH_ready (rs := [4]) (by kernel_rfl) (by simp) ?_
            refine AllReadyH.cons rfl (fun K hK => ?_) AllReadyH.nil
            · go_simp
              obtain ⟨X, hXe⟩ : ∃ X, (wn28).heap.size = X := ⟨_, rfl⟩
              have hX : Blk ((wn28).alloc (.cells (cells12 noTrip) 99)) X 99 (cells12 noTrip) := by rw [← hXe]; exact blk_new _ _ _
              have hXle : B0 ≤ X := by rw [← hXe]; exact Nat.le_trans hBle.out hbn.size
              have hne : X ≠ Y := by have := blk_lt hY; rw [hXe] at this; omega
              replace hY := blk_on hY (box_below _ (.cells (cells12 noTrip) 99)) (blk_lt hY)
              replace hbn := hbn.alloc (Nat.le_trans hBle.out hbn.size) (.cells (cells12 noTrip) 99)
              (try simp only [World.size_alloc] at hXe)
              have HXE := Lib.hid hXe
              clear hXe
              refine hK.out _ _ ?_ (fun hHeld => ?_)
              · (try dsimp only); (first | exact hbn | exact hbn.drew)
              clear hK K
              (try rw [HXE.out])
              (try simp only [Act.put, List.setIfInBounds_toArray, List.set_cons_zero, List.set_cons_succ])
              first
                | (obtain ⟨WW, hWW⟩ : ∃ WW, ((((wn28).alloc (.cells #[.int .i64 0, .string ⟨#[]⟩, .string ⟨#[]⟩, .string ⟨#[]⟩, .int .i64 0, .string ⟨#[]⟩, .string ⟨#[]⟩, .string ⟨#[]⟩, .int .i64 0, .string ⟨#[]⟩, .string ⟨#[]⟩, .string ⟨#[]⟩] 99))).drewN 3) = WW := ⟨_, rfl⟩; rw [hWW]; have hX' : Blk WW X 99 (cells12 noTrip) := (by rw [← hWW]; exact hX); have hY' : Blk WW Y 99 (cells12 noTrip) := (by rw [← hWW]; exact hY); have hb' : Below B0 W0 WW := (by rw [← hWW]; exact drewN_below hbn 3); exact Eq.mp (by kernel_rfl) (KEY WW X Y ⟨hX', hY', hne, hXle, hYle, hb'⟩))
                | (obtain ⟨WW, hWW⟩ : ∃ WW, ((((wn28).alloc (.cells #[.int .i64 0, .string ⟨#[]⟩, .string ⟨#[]⟩, .string ⟨#[]⟩, .int .i64 0, .string ⟨#[]⟩, .string ⟨#[]⟩, .string ⟨#[]⟩, .int .i64 0, .string ⟨#[]⟩, .string ⟨#[]⟩, .string ⟨#[]⟩] 99))).drewN 2) = WW := ⟨_, rfl⟩; rw [hWW]; have hX' : Blk WW X 99 (cells12 noTrip) := (by rw [← hWW]; exact hX); have hY' : Blk WW Y 99 (cells12 noTrip) := (by rw [← hWW]; exact hY); have hb' : Below B0 W0 WW := (by rw [← hWW]; exact drewN_below hbn 2); exact Eq.mp (by kernel_rfl) (KEY WW X Y ⟨hX', hY', hne, hXle, hYle, hb'⟩))
                | (obtain ⟨WW, hWW⟩ : ∃ WW, ((((wn28).alloc (.cells #[.int .i64 0, .string ⟨#[]⟩, .string ⟨#[]⟩, .string ⟨#[]⟩, .int .i64 0, .string ⟨#[]⟩, .string ⟨#[]⟩, .string ⟨#[]⟩, .int .i64 0, .string ⟨#[]⟩, .string ⟨#[]⟩, .string ⟨#[]⟩] 99))).drew.drew) = WW := ⟨_, rfl⟩; rw [hWW]; have hX' : Blk WW X 99 (cells12 noTrip) := (by rw [← hWW]; exact hX); have hY' : Blk WW Y 99 (cells12 noTrip) := (by rw [← hWW]; exact hY); have hb' : Below B0 W0 WW := (by rw [← hWW]; exact hbn.drew.drew); exact Eq.mp (by kernel_rfl) (KEY WW X Y ⟨hX', hY', hne, hXle, hYle, hb'⟩))
                | (obtain ⟨WW, hWW⟩ : ∃ WW, ((((wn28).alloc (.cells #[.int .i64 0, .string ⟨#[]⟩, .string ⟨#[]⟩, .string ⟨#[]⟩, .int .i64 0, .string ⟨#[]⟩, .string ⟨#[]⟩, .string ⟨#[]⟩, .int .i64 0, .string ⟨#[]⟩, .string ⟨#[]⟩, .string ⟨#[]⟩] 99))).drew) = WW := ⟨_, rfl⟩; rw [hWW]; have hX' : Blk WW X 99 (cells12 noTrip) := (by rw [← hWW]; exact hX); have hY' : Blk WW Y 99 (cells12 noTrip) := (by rw [← hWW]; exact hY); have hb' : Below B0 W0 WW := (by rw [← hWW]; exact hbn.drew); exact Eq.mp (by kernel_rfl) (KEY WW X Y ⟨hX', hY', hne, hXle, hYle, hb'⟩))
                | (obtain ⟨WW, hWW⟩ : ∃ WW, (((wn28).alloc (.cells #[.int .i64 0, .string ⟨#[]⟩, .string ⟨#[]⟩, .string ⟨#[]⟩, .int .i64 0, .string ⟨#[]⟩, .string ⟨#[]⟩, .string ⟨#[]⟩, .int .i64 0, .string ⟨#[]⟩, .string ⟨#[]⟩, .string ⟨#[]⟩] 99))) = WW := ⟨_, rfl⟩; rw [hWW]; have hX' : Blk WW X 99 (cells12 noTrip) := (by rw [← hWW]; exact hX); have hY' : Blk WW Y 99 (cells12 noTrip) := (by rw [← hWW]; exact hY); have hb' : Below B0 W0 WW := (by rw [← hWW]; exact hbn); exact Eq.mp (by kernel_rfl) (KEY WW X Y ⟨hX', hY', hne, hXle, hYle, hb'⟩))
          · go_simp
            obtain ⟨X, hXe⟩ : ∃ X, (wn27).heap.size = X := ⟨_, rfl⟩
            have hX : Blk ((wn27).alloc (.cells (cells12 noTrip) 99)) X 99 (cells12 noTrip) := by rw [← hXe]; exact blk_new _ _ _
            have hXle : B0 ≤ X := by rw [← hXe]; exact Nat.le_trans hBle.out hbn.size
            have hne : X ≠ Y := by have := blk_lt hY; rw [hXe] at this; omega
            replace hY := blk_on hY (box_below _ (.cells (cells12 noTrip) 99)) (blk_lt hY)
            replace hbn := hbn.alloc (Nat.le_trans hBle.out hbn.size) (.cells (cells12 noTrip) 99)
            (try simp only [World.size_alloc] at hXe)
            have HXE := Lib.hid hXe
            clear hXe
            refine hK.out _ _ ?_ (fun hHeld => ?_)
            · (try dsimp only); (first | exact hbn | exact hbn.drew)
            clear hK K
            (try rw [HXE.out])
            (try simp only [Act.put, List.setIfInBounds_toArray, List.set_cons_zero, List.set_cons_succ])
            refine wpAnyH_ready (rs := [3]) (by kernel_rfl) (by simp) ?_
            refine AllReadyH.cons rfl (fun K hK => ?_) AllReadyH.nil
            · go_simp
              refine (sterms_calls _ _ _ _ _ _ _ _ _ _ _ _ _).mono ?_
              rintro e wn31 ⟨rfl, hbv⟩
              (try replace hbv := from_drew hbv)
              replace hbn := fb2 hbn hbv hBle.out
              replace hX := blk_on hX hbv (blk_lt hX)
              replace hY := blk_on hY hbv (blk_lt hY)
              clear hbv
              go_wp2_with fail
              refine hK.out _ _ ?_ (fun hHeld => ?_)
              · (try dsimp only); (first | exact hbn | exact hbn.drew)
              clear hK K
              (try simp only [Act.put, List.setIfInBounds_toArray, List.set_cons_zero, List.set_cons_succ])
              first
                | (obtain ⟨WW, hWW⟩ : ∃ WW, ((wn31).drewN 3) = WW := ⟨_, rfl⟩; rw [hWW]; have hX' : Blk WW X 99 (cells12 noTrip) := (by rw [← hWW]; exact hX); have hY' : Blk WW Y 99 (cells12 noTrip) := (by rw [← hWW]; exact hY); have hb' : Below B0 W0 WW := (by rw [← hWW]; exact drewN_below hbn 3); exact Eq.mp (by kernel_rfl) (KEY WW X Y ⟨hX', hY', hne, hXle, hYle, hb'⟩))
                | (obtain ⟨WW, hWW⟩ : ∃ WW, ((wn31).drewN 2) = WW := ⟨_, rfl⟩; rw [hWW]; have hX' : Blk WW X 99 (cells12 noTrip) := (by rw [← hWW]; exact hX); have hY' : Blk WW Y 99 (cells12 noTrip) := (by rw [← hWW]; exact hY); have hb' : Below B0 W0 WW := (by rw [← hWW]; exact drewN_below hbn 2); exact Eq.mp (by kernel_rfl) (KEY WW X Y ⟨hX', hY', hne, hXle, hYle, hb'⟩))
                | (obtain ⟨WW, hWW⟩ : ∃ WW, ((wn31).drew.drew) = WW := ⟨_, rfl⟩; rw [hWW]; have hX' : Blk WW X 99 (cells12 noTrip) := (by rw [← hWW]; exact hX); have hY' : Blk WW Y 99 (cells12 noTrip) := (by rw [← hWW]; exact hY); have hb' : Below B0 W0 WW := (by rw [← hWW]; exact hbn.drew.drew); exact Eq.mp (by kernel_rfl) (KEY WW X Y ⟨hX', hY', hne, hXle, hYle, hb'⟩))
                | (obtain ⟨WW, hWW⟩ : ∃ WW, ((wn31).drew) = WW := ⟨_, rfl⟩; rw [hWW]; have hX' : Blk WW X 99 (cells12 noTrip) := (by rw [← hWW]; exact hX); have hY' : Blk WW Y 99 (cells12 noTrip) := (by rw [← hWW]; exact hY); have hb' : Below B0 W0 WW := (by rw [← hWW]; exact hbn.drew); exact Eq.mp (by kernel_rfl) (KEY WW X Y ⟨hX', hY', hne, hXle, hYle, hb'⟩))
                | (obtain ⟨WW, hWW⟩ : ∃ WW, (wn31) = WW := ⟨_, rfl⟩; rw [hWW]; have hX' : Blk WW X 99 (cells12 noTrip) := (by rw [← hWW]; exact hX); have hY' : Blk WW Y 99 (cells12 noTrip) := (by rw [← hWW]; exact hY); have hb' : Below B0 W0 WW := (by rw [← hWW]; exact hbn); exact Eq.mp (by kernel_rfl) (KEY WW X Y ⟨hX', hY', hne, hXle, hYle, hb'⟩))
        · go_simp
          obtain ⟨X, hXe⟩ : ∃ X, (((W0).alloc (.cells (cells12 noTrip) 99))).heap.size = X := ⟨_, rfl⟩
          have hX : Blk ((((W0).alloc (.cells (cells12 noTrip) 99))).alloc (.cells (cells12 noTrip) 99)) X 99 (cells12 noTrip) := by rw [← hXe]; exact blk_new _ _ _
          have hXle : B0 ≤ X := by rw [← hXe]; exact Nat.le_trans hBle.out hbn.size
          have hne : X ≠ Y := by have := blk_lt hY; rw [hXe] at this; omega
          replace hY := blk_on hY (box_below _ (.cells (cells12 noTrip) 99)) (blk_lt hY)
          replace hbn := hbn.alloc (Nat.le_trans hBle.out hbn.size) (.cells (cells12 noTrip) 99)
          (try simp only [World.size_alloc] at hXe)
          have HXE := Lib.hid hXe
          clear hXe
          refine hK.out _ _ ?_ (fun hHeld => ?_)
          · (try dsimp only); (first | exact hbn | exact hbn.drew)
          clear hK K
          (try rw [HXE.out])
          (try simp only [Act.put, List.setIfInBounds_toArray, List.set_cons_zero, List.set_cons_succ])
          refine wpAnyH_ready (rs := [1]) (by kernel_rfl) (by simp) ?_
          refine AllReadyH.cons rfl (fun K hK => ?_) AllReadyH.nil
          · go_simp
            refine (sterms_calls _ _ _ _ _ _ _ _ _ _ _ _ _).mono ?_
            rintro e wn33 ⟨rfl, hbv⟩
            (try replace hbv := from_drew hbv)
            replace hbn := fb2 hbn hbv hBle.out
            replace hX := blk_on hX hbv (blk_lt hX)
            replace hY := blk_on hY hbv (blk_lt hY)
            clear hbv
            go_wp2_with fail
            refine hK.out _ _ ?_ (fun hHeld => ?_)
            · (try dsimp only); (first | exact hbn | exact hbn.drew)
            clear hK K
            (try simp only [Act.put, List.setIfInBounds_toArray, List.set_cons_zero, List.set_cons_succ])
            refine wpAnyH_ready (rs := [3]) (by kernel_rfl) (by simp) ?_
            refine AllReadyH.cons rfl (fun K hK => ?_) AllReadyH.nil
            · go_simp
              refine (sterms_calls _ _ _ _ _ _ _ _ _ _ _ _ _).mono ?_
              rintro e wn34 ⟨rfl, hbv⟩
              (try replace hbv := from_drew hbv)
              replace hbn := fb2 hbn hbv hBle.out
              replace hX := blk_on hX hbv (blk_lt hX)
              replace hY := blk_on hY hbv (blk_lt hY)
              clear hbv
              go_wp2_with fail
              refine hK.out _ _ ?_ (fun hHeld => ?_)
              · (try dsimp only); (first | exact hbn | exact hbn.drew)
              clear hK K
              (try simp only [Act.put, List.setIfInBounds_toArray, List.set_cons_zero, List.set_cons_succ])
              first
                | (obtain ⟨WW, hWW⟩ : ∃ WW, ((wn34).drewN 3) = WW := ⟨_, rfl⟩; rw [hWW]; have hX' : Blk WW X 99 (cells12 noTrip) := (by rw [← hWW]; exact hX); have hY' : Blk WW Y 99 (cells12 noTrip) := (by rw [← hWW]; exact hY); have hb' : Below B0 W0 WW := (by rw [← hWW]; exact drewN_below hbn 3); exact Eq.mp (by kernel_rfl) (KEY WW X Y ⟨hX', hY', hne, hXle, hYle, hb'⟩))
                | (obtain ⟨WW, hWW⟩ : ∃ WW, ((wn34).drewN 2) = WW := ⟨_, rfl⟩; rw [hWW]; have hX' : Blk WW X 99 (cells12 noTrip) := (by rw [← hWW]; exact hX); have hY' : Blk WW Y 99 (cells12 noTrip) := (by rw [← hWW]; exact hY); have hb' : Below B0 W0 WW := (by rw [← hWW]; exact drewN_below hbn 2); exact Eq.mp (by kernel_rfl) (KEY WW X Y ⟨hX', hY', hne, hXle, hYle, hb'⟩))
                | (obtain ⟨WW, hWW⟩ : ∃ WW, ((wn34).drew.drew) = WW := ⟨_, rfl⟩; rw [hWW]; have hX' : Blk WW X 99 (cells12 noTrip) := (by rw [← hWW]; exact hX); have hY' : Blk WW Y 99 (cells12 noTrip) := (by rw [← hWW]; exact hY); have hb' : Below B0 W0 WW := (by rw [← hWW]; exact hbn.drew.drew); exact Eq.mp (by kernel_rfl) (KEY WW X Y ⟨hX', hY', hne, hXle, hYle, hb'⟩))
                | (obtain ⟨WW, hWW⟩ : ∃ WW, ((wn34).drew) = WW := ⟨_, rfl⟩; rw [hWW]; have hX' : Blk WW X 99 (cells12 noTrip) := (by rw [← hWW]; exact hX); have hY' : Blk WW Y 99 (cells12 noTrip) := (by rw [← hWW]; exact hY); have hb' : Below B0 W0 WW := (by rw [← hWW]; exact hbn.drew); exact Eq.mp (by kernel_rfl) (KEY WW X Y ⟨hX', hY', hne, hXle, hYle, hb'⟩))
                | (obtain ⟨WW, hWW⟩ : ∃ WW, (wn34) = WW := ⟨_, rfl⟩; rw [hWW]; have hX' : Blk WW X 99 (cells12 noTrip) := (by rw [← hWW]; exact hX); have hY' : Blk WW Y 99 (cells12 noTrip) := (by rw [← hWW]; exact hY); have hb' : Below B0 W0 WW := (by rw [← hWW]; exact hbn); exact Eq.mp (by kernel_rfl) (KEY WW X Y ⟨hX', hY', hne, hXle, hYle, hb'⟩))
    case key =>
      rintro W X Y ⟨hX, hY, hne, hXle, hYle, hbn⟩
      refine wpAnyH_ready (rs := [6]) (by kernel_rfl) (by simp) ?_
      refine AllReadyH.cons rfl (fun K hK => ?_) AllReadyH.nil
      refine wp_store_row 99 (.tmp 5) (.tmp 10) rfl X #[.int .i64 ak, .string (bs ax), .string (bs ay), .string (bs az), .int .i64 bk, .string (bs bx), .string (bs by'), .string (bs bz), .int .i64 ck, .string (bs cx), .string (bs cy), .string (bs cz)] (by kernel_rfl) (by kernel_rfl) 99 (cells12 noTrip) (hX) (by kernel_rfl) rfl (by kernel_rfl) ?_
      replace hY := blk_row_other hY hne.symm #[.int .i64 ak, .string (bs ax), .string (bs ay), .string (bs az), .int .i64 bk, .string (bs bx), .string (bs by'), .string (bs bz), .int .i64 ck, .string (bs cx), .string (bs cy), .string (bs cz)]
      replace hX := blk_row hX #[.int .i64 ak, .string (bs ax), .string (bs ay), .string (bs az), .int .i64 bk, .string (bs bx), .string (bs by'), .string (bs bz), .int .i64 ck, .string (bs cx), .string (bs cy), .string (bs cz)]
      replace hbn := below_row hbn hXle #[.int .i64 ak, .string (bs ax), .string (bs ay), .string (bs az), .int .i64 bk, .string (bs bx), .string (bs by'), .string (bs bz), .int .i64 ck, .string (bs cx), .string (bs cy), .string (bs cz)]
      (try simp only [Act.put])
      refine hK.out _ _ ?_ (fun hHeld => ?_)
      · (try dsimp only); first | exact hbn | exact hbn.drew
      clear hK K
      refine wpAnyH_ready (rs := [7]) (by kernel_rfl) (by simp) ?_
      refine AllReadyH.cons rfl (fun K hK => ?_) AllReadyH.nil
      refine wp_store_row 99 (.tmp 6) (.tmp 12) rfl Y #[.int .i64 ak2, .string (bs ax2), .string (bs ay2), .string (bs az2), .int .i64 bk2, .string (bs bx2), .string (bs by2), .string (bs bz2), .int .i64 ck2, .string (bs cx2), .string (bs cy2), .string (bs cz2)] (by kernel_rfl) (by kernel_rfl) 99 (cells12 noTrip) (hY) (by kernel_rfl) rfl (by kernel_rfl) ?_
      replace hX := blk_row_other hX hne #[.int .i64 ak2, .string (bs ax2), .string (bs ay2), .string (bs az2), .int .i64 bk2, .string (bs bx2), .string (bs by2), .string (bs bz2), .int .i64 ck2, .string (bs cx2), .string (bs cy2), .string (bs cz2)]
      replace hY := blk_row hY #[.int .i64 ak2, .string (bs ax2), .string (bs ay2), .string (bs az2), .int .i64 bk2, .string (bs bx2), .string (bs by2), .string (bs bz2), .int .i64 ck2, .string (bs cx2), .string (bs cy2), .string (bs cz2)]
      replace hbn := below_row hbn hYle #[.int .i64 ak2, .string (bs ax2), .string (bs ay2), .string (bs az2), .int .i64 bk2, .string (bs bx2), .string (bs by2), .string (bs bz2), .int .i64 ck2, .string (bs cx2), .string (bs cy2), .string (bs cz2)]
      (try simp only [Act.put])
      refine hK.out _ _ ?_ (fun hHeld => ?_)
      · (try dsimp only); first | exact hbn | exact hbn.drew
      clear hK K
      refine wpAnyH_done (by kernel_rfl) ?_ _
      go_wp2_with fail
      go_meet
      exact ⟨X, Y, rfl, rfl, hX, hY, hb0.trans (by first | exact hbn.mono (by have := hx1.out; omega) | exact (hbn.mono (by have := hx1.out; omega)).drew)⟩
  case rest =>
    obtain ⟨X, Y, rfl, rfl, hX, hY, hb⟩ := hcut
    rw [← HA.out] at hX
    rw [← HB.out] at hY
    have HX := Lib.hid hX
    have HY := Lib.hid hY
    clear hX hY
    go_wp2
    go_loopw [13] (fun i wr => ∃ n : Nat, n ≤ 3 ∧ i = .int .i64 n ∧ Below wc.heap.size wc wr ∧ Hid (∀ i, i < n → ∀ j, j < i → Cond b0 a0 i j)) (fun i _ => 3 - (intOf i).toNat)
    case atStart => exact ⟨0, Nat.zero_le _, rfl, Below.refl _ _, (show ∀ i, i < 0 → ∀ j, j < i → Cond b0 a0 i j from fun i hi => absurd hi (Nat.not_lt_zero _))⟩
    case round =>
      obtain ⟨n, hn, rfl, hbw, hK⟩ := hrel
      obtain ⟨W1, hW1⟩ : ∃ W1, W1 = wr := ⟨_, rfl⟩
      subst hW1
      by_cases hlt : n < 3
      · have g2 : (n : Int) < 3 := by omega
        go_wp2
        go_loopw [17] (fun j wr => ∃ m : Nat, m ≤ n ∧ j = .int .i64 m ∧ Below wc.heap.size wc wr ∧ Hid (∀ j, j < m → Cond b0 a0 n j)) (fun j _ => n - (intOf j).toNat)
        case atStart => exact ⟨0, Nat.zero_le _, rfl, hbw, (show ∀ j, j < 0 → Cond b0 a0 n j from fun j hj => absurd hj (Nat.not_lt_zero _))⟩
        case round =>
          obtain ⟨m, hm, rfl, hbw2, hM⟩ := hrel
          by_cases hmn : m < n
          · have k2 : (m : Int) < (n : Int) := by omega
            have k3 : (m : Int) < 3 := by omega
            have k0 : (0 : Int) ≤ (m : Int) := by omega
            have k1 : (0 : Int) ≤ (n : Int) := by omega
            have hX2 := blk_on HX.out hbw2 (blk_lt HX.out)
            have hY2 := blk_on HY.out hbw2 (blk_lt HY.out)
            have hpx := blk_lt hX2
            have hpy := blk_lt hY2
            have XN := Lib.hid (blk_at3 hX2 n hlt)
            have XM := Lib.hid (blk_at3 hX2 m (by omega))
            have YN := Lib.hid (blk_at3 hY2 n hlt)
            have YM := Lib.hid (blk_at3 hY2 m (by omega))
            have CC : (at3 b0 n = at3 b0 m → at3 a0 n = at3 a0 m) → Hid (∀ j, j < m + 1 → Cond b0 a0 n j) := fun c j hj => by
              by_cases e : j = m
              · rw [e]; exact c
              · exact hM.out j (by omega)
            have FF := alike_false (x := a0) (p := b0) hlt hmn
            clear hX2 hY2
            generalize at3 a0 n = xn at XN CC FF
            generalize at3 a0 m = xm at XM CC FF
            generalize at3 b0 n = yn at YN CC FF
            generalize at3 b0 m = ym at YM CC FF
            have CCH := Lib.hid CC
            have FFH := Lib.hid FF
            clear CC FF
            by_cases hy : yn = ym
            · have heq : ∀ W, (binOp .eql 27 (.agg #[.int .i64 yn.k, .string (bs yn.x), .string (bs yn.y), .string (bs yn.z)]) (.agg #[.int .i64 ym.k, .string (bs ym.x), .string (bs ym.y), .string (bs ym.z)])).run Tryz.prog W = .ok (.bool true) W := fun W => by
                have := eql_term yn ym W; rw [hy, teq_self] at this; rw [hy]; exact this
              by_cases hx : xn = xm
              · have hne : ∀ W, (binOp .neq 27 (.agg #[.int .i64 xn.k, .string (bs xn.x), .string (bs xn.y), .string (bs xn.z)]) (.agg #[.int .i64 xm.k, .string (bs xm.x), .string (bs xm.y), .string (bs xm.z)])).run Tryz.prog W = .ok (.bool false) W := fun W => by
                  have := neq_term xn xm W; rw [hx, teq_self] at this; rw [hx]; exact this
                have hnext := CCH.out (fun _ => hx)
                clear hy hx
                go_wp2_with fail
                refine wp_region_held_drew (S := (fun W => Below wr.heap.size wr W)) (by kernel_rfl) ?_ (fun hHeld => ?_)
                · (try dsimp only); first | exact Below.refl _ _ | exact (Below.refl _ _).drew | exact drewN_below (Below.refl _ _) _
                refine wpAnyH_take (i := 0) (oi := ⟨some 20, _, _, _, _, _⟩) (v := ?_) rfl (by kernel_rfl) (by kernel_rfl) (by kernel_rfl) (fun _ _ _ h => h) (Or.inl ⟨by kernel_rfl, ?_⟩) (by assumption) ?_
                rotate_left
                · (intro ww hSw; (try dsimp only at hSw); go_simp); (try with_reducible rfl)
                (try simp only [Act.put, List.setIfInBounds_toArray, List.set_cons_zero, List.set_cons_succ])
                refine wpAnyH_take (i := 1) (oi := ⟨some 21, _, _, _, _, _⟩) (v := ?_) rfl (by kernel_rfl) (by kernel_rfl) (by kernel_rfl) (fun _ _ _ h => h) (Or.inl ⟨by kernel_rfl, ?_⟩) (by assumption) ?_
                rotate_left
                · (intro ww hSw; (try dsimp only at hSw); go_simp); (try with_reducible rfl)
                (try simp only [Act.put, List.setIfInBounds_toArray, List.set_cons_zero, List.set_cons_succ])
                refine wpAnyH_take (i := 2) (oi := ⟨some 22, _, _, _, _, _⟩) (v := ?_) rfl (by kernel_rfl) (by kernel_rfl) (by kernel_rfl) (fun _ _ _ h => h) (Or.inl ⟨by kernel_rfl, ?_⟩) (by assumption) ?_
                rotate_left
                · (intro ww hSw; (try dsimp only at hSw); obtain ⟨c0, c1, c2, c3⟩ := YN.out; replace c0 := keptC c0 hSw hpy; replace c1 := keptC c1 hSw hpy; replace c2 := keptC c2 hSw hpy; replace c3 := keptC c3 hSw hpy; go_simp); (try with_reducible rfl)
                (try simp only [Act.put, List.setIfInBounds_toArray, List.set_cons_zero, List.set_cons_succ])
                refine wpAnyH_take (i := 3) (oi := ⟨some 23, _, _, _, _, _⟩) (v := ?_) rfl (by kernel_rfl) (by kernel_rfl) (by kernel_rfl) (fun _ _ _ h => h) (Or.inl ⟨by kernel_rfl, ?_⟩) (by assumption) ?_
                rotate_left
                · (intro ww hSw; (try dsimp only at hSw); go_simp); (try with_reducible rfl)
                (try simp only [Act.put, List.setIfInBounds_toArray, List.set_cons_zero, List.set_cons_succ])
                refine wpAnyH_take (i := 4) (oi := ⟨some 24, _, _, _, _, _⟩) (v := ?_) rfl (by kernel_rfl) (by kernel_rfl) (by kernel_rfl) (fun _ _ _ h => h) (Or.inl ⟨by kernel_rfl, ?_⟩) (by assumption) ?_
                rotate_left
                · (intro ww hSw; (try dsimp only at hSw); go_simp); (try with_reducible rfl)
                (try simp only [Act.put, List.setIfInBounds_toArray, List.set_cons_zero, List.set_cons_succ])
                refine wpAnyH_take (i := 5) (oi := ⟨some 25, _, _, _, _, _⟩) (v := ?_) rfl (by kernel_rfl) (by kernel_rfl) (by kernel_rfl) (fun _ _ _ h => h) (Or.inl ⟨by kernel_rfl, ?_⟩) (by assumption) ?_
                rotate_left
                · (intro ww hSw; (try dsimp only at hSw); obtain ⟨c0, c1, c2, c3⟩ := YM.out; replace c0 := keptC c0 hSw hpy; replace c1 := keptC c1 hSw hpy; replace c2 := keptC c2 hSw hpy; replace c3 := keptC c3 hSw hpy; go_simp); (try with_reducible rfl)
                (try simp only [Act.put, List.setIfInBounds_toArray, List.set_cons_zero, List.set_cons_succ])
                refine wpAnyH_take (i := 6) (oi := ⟨some 26, _, _, _, _, _⟩) (v := ?_) rfl (by kernel_rfl) (by kernel_rfl) (by kernel_rfl) (fun _ _ _ h => h) (Or.inl ⟨by kernel_rfl, ?_⟩) (by assumption) ?_
                rotate_left
                · (intro ww hSw; (try dsimp only at hSw); go_simp); (try with_reducible rfl)
                (try simp only [Act.put, List.setIfInBounds_toArray, List.set_cons_zero, List.set_cons_succ])
                refine wpAnyH_take (i := 7) (oi := ⟨some 27, _, _, _, _, _⟩) (v := ?_) rfl (by kernel_rfl) (by kernel_rfl) (by kernel_rfl) (fun _ _ _ h => h) (Or.inl ⟨by kernel_rfl, ?_⟩) (by assumption) ?_
                rotate_left
                · (intro ww hSw; (try dsimp only at hSw); go_simp); (try with_reducible rfl)
                (try simp only [Act.put, List.setIfInBounds_toArray, List.set_cons_zero, List.set_cons_succ])
                refine wpAnyH_take (i := 8) (oi := ⟨some 28, _, _, _, _, _⟩) (v := ?_) rfl (by kernel_rfl) (by kernel_rfl) (by kernel_rfl) (fun _ _ _ h => h) (Or.inl ⟨by kernel_rfl, ?_⟩) (by assumption) ?_
                rotate_left
                · (intro ww hSw; (try dsimp only at hSw); go_simp); (try with_reducible rfl)
                (try simp only [Act.put, List.setIfInBounds_toArray, List.set_cons_zero, List.set_cons_succ])
                refine wpAnyH_take (i := 9) (oi := ⟨some 29, _, _, _, _, _⟩) (v := ?_) rfl (by kernel_rfl) (by kernel_rfl) (by kernel_rfl) (fun _ _ _ h => h) (Or.inl ⟨by kernel_rfl, ?_⟩) (by assumption) ?_
                rotate_left
                · (intro ww hSw; (try dsimp only at hSw); go_simp); (try with_reducible rfl)
                (try simp only [Act.put, List.setIfInBounds_toArray, List.set_cons_zero, List.set_cons_succ])
                refine wpAnyH_take (i := 10) (oi := ⟨some 30, _, _, _, _, _⟩) (v := ?_) rfl (by kernel_rfl) (by kernel_rfl) (by kernel_rfl) (fun _ _ _ h => h) (Or.inl ⟨by kernel_rfl, ?_⟩) (by assumption) ?_
                rotate_left
                · (intro ww hSw; (try dsimp only at hSw); obtain ⟨c0, c1, c2, c3⟩ := XN.out; replace c0 := keptC c0 hSw hpx; replace c1 := keptC c1 hSw hpx; replace c2 := keptC c2 hSw hpx; replace c3 := keptC c3 hSw hpx; go_simp); (try with_reducible rfl)
                (try simp only [Act.put, List.setIfInBounds_toArray, List.set_cons_zero, List.set_cons_succ])
                refine wpAnyH_take (i := 11) (oi := ⟨some 31, _, _, _, _, _⟩) (v := ?_) rfl (by kernel_rfl) (by kernel_rfl) (by kernel_rfl) (fun _ _ _ h => h) (Or.inl ⟨by kernel_rfl, ?_⟩) (by assumption) ?_
                rotate_left
                · (intro ww hSw; (try dsimp only at hSw); go_simp); (try with_reducible rfl)
                (try simp only [Act.put, List.setIfInBounds_toArray, List.set_cons_zero, List.set_cons_succ])
                refine wpAnyH_take (i := 12) (oi := ⟨some 32, _, _, _, _, _⟩) (v := ?_) rfl (by kernel_rfl) (by kernel_rfl) (by kernel_rfl) (fun _ _ _ h => h) (Or.inl ⟨by kernel_rfl, ?_⟩) (by assumption) ?_
                rotate_left
                · (intro ww hSw; (try dsimp only at hSw); go_simp); (try with_reducible rfl)
                (try simp only [Act.put, List.setIfInBounds_toArray, List.set_cons_zero, List.set_cons_succ])
                refine wpAnyH_take (i := 13) (oi := ⟨some 33, _, _, _, _, _⟩) (v := ?_) rfl (by kernel_rfl) (by kernel_rfl) (by kernel_rfl) (fun _ _ _ h => h) (Or.inl ⟨by kernel_rfl, ?_⟩) (by assumption) ?_
                rotate_left
                · (intro ww hSw; (try dsimp only at hSw); obtain ⟨c0, c1, c2, c3⟩ := XM.out; replace c0 := keptC c0 hSw hpx; replace c1 := keptC c1 hSw hpx; replace c2 := keptC c2 hSw hpx; replace c3 := keptC c3 hSw hpx; go_simp); (try with_reducible rfl)
                (try simp only [Act.put, List.setIfInBounds_toArray, List.set_cons_zero, List.set_cons_succ])
                refine wpAnyH_take (i := 14) (oi := ⟨some 34, _, _, _, _, _⟩) (v := ?_) rfl (by kernel_rfl) (by kernel_rfl) (by kernel_rfl) (fun _ _ _ h => h) (Or.inl ⟨by kernel_rfl, ?_⟩) (by assumption) ?_
                rotate_left
                · (intro ww hSw; (try dsimp only at hSw); go_simp); (try with_reducible rfl)
                (try simp only [Act.put, List.setIfInBounds_toArray, List.set_cons_zero, List.set_cons_succ])
                refine wpAnyH_take (i := 15) (oi := ⟨some 35, _, _, _, _, _⟩) (v := ?_) rfl (by kernel_rfl) (by kernel_rfl) (by kernel_rfl) (fun _ _ _ h => h) (Or.inl ⟨by kernel_rfl, ?_⟩) (by assumption) ?_
                rotate_left
                · (intro ww hSw; (try dsimp only at hSw); go_simp); (try with_reducible rfl)
                (try simp only [Act.put, List.setIfInBounds_toArray, List.set_cons_zero, List.set_cons_succ])
                refine wpAnyH_done (by kernel_rfl) ?_ _
                go_wp2
                go_roundw
                case rel => exact ⟨m + 1, by omega, by go_num, by first | exact hbw2 | exact hbw2.drew | exact drewN_below hbw2 _, hnext⟩
                case measure => simp [intOf]; omega
              · have hne : ∀ W, (binOp .neq 27 (.agg #[.int .i64 xn.k, .string (bs xn.x), .string (bs xn.y), .string (bs xn.z)]) (.agg #[.int .i64 xm.k, .string (bs xm.x), .string (bs xm.y), .string (bs xm.z)])).run Tryz.prog W = .ok (.bool true) W := fun W => by
                  have := neq_term xn xm W; rw [teq_ne hx] at this; exact this
                have hend := Lib.hid (FFH.out hy hx)
                clear hy hx
                go_wp2_with fail
                refine wp_region_held_drew (S := (fun W => Below wr.heap.size wr W)) (by kernel_rfl) ?_ (fun hHeld => ?_)
                · (try dsimp only); first | exact Below.refl _ _ | exact (Below.refl _ _).drew | exact drewN_below (Below.refl _ _) _
                refine wpAnyH_take (i := 0) (oi := ⟨some 20, _, _, _, _, _⟩) (v := ?_) rfl (by kernel_rfl) (by kernel_rfl) (by kernel_rfl) (fun _ _ _ h => h) (Or.inl ⟨by kernel_rfl, ?_⟩) (by assumption) ?_
                rotate_left
                · (intro ww hSw; (try dsimp only at hSw); go_simp); (try with_reducible rfl)
                (try simp only [Act.put, List.setIfInBounds_toArray, List.set_cons_zero, List.set_cons_succ])
                refine wpAnyH_take (i := 1) (oi := ⟨some 21, _, _, _, _, _⟩) (v := ?_) rfl (by kernel_rfl) (by kernel_rfl) (by kernel_rfl) (fun _ _ _ h => h) (Or.inl ⟨by kernel_rfl, ?_⟩) (by assumption) ?_
                rotate_left
                · (intro ww hSw; (try dsimp only at hSw); go_simp); (try with_reducible rfl)
                (try simp only [Act.put, List.setIfInBounds_toArray, List.set_cons_zero, List.set_cons_succ])
                refine wpAnyH_take (i := 2) (oi := ⟨some 22, _, _, _, _, _⟩) (v := ?_) rfl (by kernel_rfl) (by kernel_rfl) (by kernel_rfl) (fun _ _ _ h => h) (Or.inl ⟨by kernel_rfl, ?_⟩) (by assumption) ?_
                rotate_left
                · (intro ww hSw; (try dsimp only at hSw); obtain ⟨c0, c1, c2, c3⟩ := YN.out; replace c0 := keptC c0 hSw hpy; replace c1 := keptC c1 hSw hpy; replace c2 := keptC c2 hSw hpy; replace c3 := keptC c3 hSw hpy; go_simp); (try with_reducible rfl)
                (try simp only [Act.put, List.setIfInBounds_toArray, List.set_cons_zero, List.set_cons_succ])
                refine wpAnyH_take (i := 3) (oi := ⟨some 23, _, _, _, _, _⟩) (v := ?_) rfl (by kernel_rfl) (by kernel_rfl) (by kernel_rfl) (fun _ _ _ h => h) (Or.inl ⟨by kernel_rfl, ?_⟩) (by assumption) ?_
                rotate_left
                · (intro ww hSw; (try dsimp only at hSw); go_simp); (try with_reducible rfl)
                (try simp only [Act.put, List.setIfInBounds_toArray, List.set_cons_zero, List.set_cons_succ])
                refine wpAnyH_take (i := 4) (oi := ⟨some 24, _, _, _, _, _⟩) (v := ?_) rfl (by kernel_rfl) (by kernel_rfl) (by kernel_rfl) (fun _ _ _ h => h) (Or.inl ⟨by kernel_rfl, ?_⟩) (by assumption) ?_
                rotate_left
                · (intro ww hSw; (try dsimp only at hSw); go_simp); (try with_reducible rfl)
                (try simp only [Act.put, List.setIfInBounds_toArray, List.set_cons_zero, List.set_cons_succ])
                refine wpAnyH_take (i := 5) (oi := ⟨some 25, _, _, _, _, _⟩) (v := ?_) rfl (by kernel_rfl) (by kernel_rfl) (by kernel_rfl) (fun _ _ _ h => h) (Or.inl ⟨by kernel_rfl, ?_⟩) (by assumption) ?_
                rotate_left
                · (intro ww hSw; (try dsimp only at hSw); obtain ⟨c0, c1, c2, c3⟩ := YM.out; replace c0 := keptC c0 hSw hpy; replace c1 := keptC c1 hSw hpy; replace c2 := keptC c2 hSw hpy; replace c3 := keptC c3 hSw hpy; go_simp); (try with_reducible rfl)
                (try simp only [Act.put, List.setIfInBounds_toArray, List.set_cons_zero, List.set_cons_succ])
                refine wpAnyH_take (i := 6) (oi := ⟨some 26, _, _, _, _, _⟩) (v := ?_) rfl (by kernel_rfl) (by kernel_rfl) (by kernel_rfl) (fun _ _ _ h => h) (Or.inl ⟨by kernel_rfl, ?_⟩) (by assumption) ?_
                rotate_left
                · (intro ww hSw; (try dsimp only at hSw); go_simp); (try with_reducible rfl)
                (try simp only [Act.put, List.setIfInBounds_toArray, List.set_cons_zero, List.set_cons_succ])
                refine wpAnyH_take (i := 7) (oi := ⟨some 27, _, _, _, _, _⟩) (v := ?_) rfl (by kernel_rfl) (by kernel_rfl) (by kernel_rfl) (fun _ _ _ h => h) (Or.inl ⟨by kernel_rfl, ?_⟩) (by assumption) ?_
                rotate_left
                · (intro ww hSw; (try dsimp only at hSw); go_simp); (try with_reducible rfl)
                (try simp only [Act.put, List.setIfInBounds_toArray, List.set_cons_zero, List.set_cons_succ])
                refine wpAnyH_take (i := 8) (oi := ⟨some 28, _, _, _, _, _⟩) (v := ?_) rfl (by kernel_rfl) (by kernel_rfl) (by kernel_rfl) (fun _ _ _ h => h) (Or.inl ⟨by kernel_rfl, ?_⟩) (by assumption) ?_
                rotate_left
                · (intro ww hSw; (try dsimp only at hSw); go_simp); (try with_reducible rfl)
                (try simp only [Act.put, List.setIfInBounds_toArray, List.set_cons_zero, List.set_cons_succ])
                refine wpAnyH_take (i := 9) (oi := ⟨some 29, _, _, _, _, _⟩) (v := ?_) rfl (by kernel_rfl) (by kernel_rfl) (by kernel_rfl) (fun _ _ _ h => h) (Or.inl ⟨by kernel_rfl, ?_⟩) (by assumption) ?_
                rotate_left
                · (intro ww hSw; (try dsimp only at hSw); go_simp); (try with_reducible rfl)
                (try simp only [Act.put, List.setIfInBounds_toArray, List.set_cons_zero, List.set_cons_succ])
                refine wpAnyH_take (i := 10) (oi := ⟨some 30, _, _, _, _, _⟩) (v := ?_) rfl (by kernel_rfl) (by kernel_rfl) (by kernel_rfl) (fun _ _ _ h => h) (Or.inl ⟨by kernel_rfl, ?_⟩) (by assumption) ?_
                rotate_left
                · (intro ww hSw; (try dsimp only at hSw); obtain ⟨c0, c1, c2, c3⟩ := XN.out; replace c0 := keptC c0 hSw hpx; replace c1 := keptC c1 hSw hpx; replace c2 := keptC c2 hSw hpx; replace c3 := keptC c3 hSw hpx; go_simp); (try with_reducible rfl)
                (try simp only [Act.put, List.setIfInBounds_toArray, List.set_cons_zero, List.set_cons_succ])
                refine wpAnyH_take (i := 11) (oi := ⟨some 31, _, _, _, _, _⟩) (v := ?_) rfl (by kernel_rfl) (by kernel_rfl) (by kernel_rfl) (fun _ _ _ h => h) (Or.inl ⟨by kernel_rfl, ?_⟩) (by assumption) ?_
                rotate_left
                · (intro ww hSw; (try dsimp only at hSw); go_simp); (try with_reducible rfl)
                (try simp only [Act.put, List.setIfInBounds_toArray, List.set_cons_zero, List.set_cons_succ])
                refine wpAnyH_take (i := 12) (oi := ⟨some 32, _, _, _, _, _⟩) (v := ?_) rfl (by kernel_rfl) (by kernel_rfl) (by kernel_rfl) (fun _ _ _ h => h) (Or.inl ⟨by kernel_rfl, ?_⟩) (by assumption) ?_
                rotate_left
                · (intro ww hSw; (try dsimp only at hSw); go_simp); (try with_reducible rfl)
                (try simp only [Act.put, List.setIfInBounds_toArray, List.set_cons_zero, List.set_cons_succ])
                refine wpAnyH_take (i := 13) (oi := ⟨some 33, _, _, _, _, _⟩) (v := ?_) rfl (by kernel_rfl) (by kernel_rfl) (by kernel_rfl) (fun _ _ _ h => h) (Or.inl ⟨by kernel_rfl, ?_⟩) (by assumption) ?_
                rotate_left
                · (intro ww hSw; (try dsimp only at hSw); obtain ⟨c0, c1, c2, c3⟩ := XM.out; replace c0 := keptC c0 hSw hpx; replace c1 := keptC c1 hSw hpx; replace c2 := keptC c2 hSw hpx; replace c3 := keptC c3 hSw hpx; go_simp); (try with_reducible rfl)
                (try simp only [Act.put, List.setIfInBounds_toArray, List.set_cons_zero, List.set_cons_succ])
                refine wpAnyH_take (i := 14) (oi := ⟨some 34, _, _, _, _, _⟩) (v := ?_) rfl (by kernel_rfl) (by kernel_rfl) (by kernel_rfl) (fun _ _ _ h => h) (Or.inl ⟨by kernel_rfl, ?_⟩) (by assumption) ?_
                rotate_left
                · (intro ww hSw; (try dsimp only at hSw); go_simp); (try with_reducible rfl)
                (try simp only [Act.put, List.setIfInBounds_toArray, List.set_cons_zero, List.set_cons_succ])
                refine wpAnyH_take (i := 15) (oi := ⟨some 35, _, _, _, _, _⟩) (v := ?_) rfl (by kernel_rfl) (by kernel_rfl) (by kernel_rfl) (fun _ _ _ h => h) (Or.inl ⟨by kernel_rfl, ?_⟩) (by assumption) ?_
                rotate_left
                · (intro ww hSw; (try dsimp only at hSw); go_simp); (try with_reducible rfl)
                (try simp only [Act.put, List.setIfInBounds_toArray, List.set_cons_zero, List.set_cons_succ])
                refine wpAnyH_done (by kernel_rfl) ?_ _
                go_wp2
                go_ret
                exact ⟨by rw [← HC.out, hend.out]; rfl, by first | exact first_below hb hbw2 | exact (first_below hb hbw2).drew | exact drewN_below (first_below hb hbw2) _⟩
            · have heq : ∀ W, (binOp .eql 27 (.agg #[.int .i64 yn.k, .string (bs yn.x), .string (bs yn.y), .string (bs yn.z)]) (.agg #[.int .i64 ym.k, .string (bs ym.x), .string (bs ym.y), .string (bs ym.z)])).run Tryz.prog W = .ok (.bool false) W := fun W => by
                have := eql_term yn ym W; rw [teq_ne hy] at this; exact this
              have hnext := CCH.out (fun c => absurd c hy)
              clear hy
              go_wp2_with fail
              refine wp_region_held_drew (S := (fun W => Below wr.heap.size wr W)) (by kernel_rfl) ?_ (fun hHeld => ?_)
              · (try dsimp only); first | exact Below.refl _ _ | exact (Below.refl _ _).drew | exact drewN_below (Below.refl _ _) _
              refine wpAnyH_take (i := 0) (oi := ⟨some 20, _, _, _, _, _⟩) (v := ?_) rfl (by kernel_rfl) (by kernel_rfl) (by kernel_rfl) (fun _ _ _ h => h) (Or.inl ⟨by kernel_rfl, ?_⟩) (by assumption) ?_
              rotate_left
              · (intro ww hSw; (try dsimp only at hSw); go_simp); (try with_reducible rfl)
              (try simp only [Act.put, List.setIfInBounds_toArray, List.set_cons_zero, List.set_cons_succ])
              refine wpAnyH_take (i := 1) (oi := ⟨some 21, _, _, _, _, _⟩) (v := ?_) rfl (by kernel_rfl) (by kernel_rfl) (by kernel_rfl) (fun _ _ _ h => h) (Or.inl ⟨by kernel_rfl, ?_⟩) (by assumption) ?_
              rotate_left
              · (intro ww hSw; (try dsimp only at hSw); go_simp); (try with_reducible rfl)
              (try simp only [Act.put, List.setIfInBounds_toArray, List.set_cons_zero, List.set_cons_succ])
              refine wpAnyH_take (i := 2) (oi := ⟨some 22, _, _, _, _, _⟩) (v := ?_) rfl (by kernel_rfl) (by kernel_rfl) (by kernel_rfl) (fun _ _ _ h => h) (Or.inl ⟨by kernel_rfl, ?_⟩) (by assumption) ?_
              rotate_left
              · (intro ww hSw; (try dsimp only at hSw); obtain ⟨c0, c1, c2, c3⟩ := YN.out; replace c0 := keptC c0 hSw hpy; replace c1 := keptC c1 hSw hpy; replace c2 := keptC c2 hSw hpy; replace c3 := keptC c3 hSw hpy; go_simp); (try with_reducible rfl)
              (try simp only [Act.put, List.setIfInBounds_toArray, List.set_cons_zero, List.set_cons_succ])
              refine wpAnyH_take (i := 3) (oi := ⟨some 23, _, _, _, _, _⟩) (v := ?_) rfl (by kernel_rfl) (by kernel_rfl) (by kernel_rfl) (fun _ _ _ h => h) (Or.inl ⟨by kernel_rfl, ?_⟩) (by assumption) ?_
              rotate_left
              · (intro ww hSw; (try dsimp only at hSw); go_simp); (try with_reducible rfl)
              (try simp only [Act.put, List.setIfInBounds_toArray, List.set_cons_zero, List.set_cons_succ])
              refine wpAnyH_take (i := 4) (oi := ⟨some 24, _, _, _, _, _⟩) (v := ?_) rfl (by kernel_rfl) (by kernel_rfl) (by kernel_rfl) (fun _ _ _ h => h) (Or.inl ⟨by kernel_rfl, ?_⟩) (by assumption) ?_
              rotate_left
              · (intro ww hSw; (try dsimp only at hSw); go_simp); (try with_reducible rfl)
              (try simp only [Act.put, List.setIfInBounds_toArray, List.set_cons_zero, List.set_cons_succ])
              refine wpAnyH_take (i := 5) (oi := ⟨some 25, _, _, _, _, _⟩) (v := ?_) rfl (by kernel_rfl) (by kernel_rfl) (by kernel_rfl) (fun _ _ _ h => h) (Or.inl ⟨by kernel_rfl, ?_⟩) (by assumption) ?_
              rotate_left
              · (intro ww hSw; (try dsimp only at hSw); obtain ⟨c0, c1, c2, c3⟩ := YM.out; replace c0 := keptC c0 hSw hpy; replace c1 := keptC c1 hSw hpy; replace c2 := keptC c2 hSw hpy; replace c3 := keptC c3 hSw hpy; go_simp); (try with_reducible rfl)
              (try simp only [Act.put, List.setIfInBounds_toArray, List.set_cons_zero, List.set_cons_succ])
              refine wpAnyH_take (i := 6) (oi := ⟨some 26, _, _, _, _, _⟩) (v := ?_) rfl (by kernel_rfl) (by kernel_rfl) (by kernel_rfl) (fun _ _ _ h => h) (Or.inl ⟨by kernel_rfl, ?_⟩) (by assumption) ?_
              rotate_left
              · (intro ww hSw; (try dsimp only at hSw); go_simp); (try with_reducible rfl)
              (try simp only [Act.put, List.setIfInBounds_toArray, List.set_cons_zero, List.set_cons_succ])
              refine wpAnyH_take (i := 7) (oi := ⟨some 27, _, _, _, _, _⟩) (v := ?_) rfl (by kernel_rfl) (by kernel_rfl) (by kernel_rfl) (fun _ _ _ h => h) (Or.inl ⟨by kernel_rfl, ?_⟩) (by assumption) ?_
              rotate_left
              · (intro ww hSw; (try dsimp only at hSw); go_simp); (try with_reducible rfl)
              (try simp only [Act.put, List.setIfInBounds_toArray, List.set_cons_zero, List.set_cons_succ])
              refine wpAnyH_take (i := 8) (oi := ⟨some 28, _, _, _, _, _⟩) (v := undef) rfl (by kernel_rfl) (by kernel_rfl) (by kernel_rfl) (fun _ _ _ h => h) (Or.inr ⟨by kernel_rfl, rfl⟩) (by assumption) ?_
              (try simp only [Act.put, List.setIfInBounds_toArray, List.set_cons_zero, List.set_cons_succ])
              refine wpAnyH_take (i := 9) (oi := ⟨some 29, _, _, _, _, _⟩) (v := undef) rfl (by kernel_rfl) (by kernel_rfl) (by kernel_rfl) (fun _ _ _ h => h) (Or.inr ⟨by kernel_rfl, rfl⟩) (by assumption) ?_
              (try simp only [Act.put, List.setIfInBounds_toArray, List.set_cons_zero, List.set_cons_succ])
              refine wpAnyH_take (i := 10) (oi := ⟨some 30, _, _, _, _, _⟩) (v := undef) rfl (by kernel_rfl) (by kernel_rfl) (by kernel_rfl) (fun _ _ _ h => h) (Or.inr ⟨by kernel_rfl, rfl⟩) (by assumption) ?_
              (try simp only [Act.put, List.setIfInBounds_toArray, List.set_cons_zero, List.set_cons_succ])
              refine wpAnyH_take (i := 11) (oi := ⟨some 31, _, _, _, _, _⟩) (v := undef) rfl (by kernel_rfl) (by kernel_rfl) (by kernel_rfl) (fun _ _ _ h => h) (Or.inr ⟨by kernel_rfl, rfl⟩) (by assumption) ?_
              (try simp only [Act.put, List.setIfInBounds_toArray, List.set_cons_zero, List.set_cons_succ])
              refine wpAnyH_take (i := 12) (oi := ⟨some 32, _, _, _, _, _⟩) (v := undef) rfl (by kernel_rfl) (by kernel_rfl) (by kernel_rfl) (fun _ _ _ h => h) (Or.inr ⟨by kernel_rfl, rfl⟩) (by assumption) ?_
              (try simp only [Act.put, List.setIfInBounds_toArray, List.set_cons_zero, List.set_cons_succ])
              refine wpAnyH_take (i := 13) (oi := ⟨some 33, _, _, _, _, _⟩) (v := undef) rfl (by kernel_rfl) (by kernel_rfl) (by kernel_rfl) (fun _ _ _ h => h) (Or.inr ⟨by kernel_rfl, rfl⟩) (by assumption) ?_
              (try simp only [Act.put, List.setIfInBounds_toArray, List.set_cons_zero, List.set_cons_succ])
              refine wpAnyH_take (i := 14) (oi := ⟨some 34, _, _, _, _, _⟩) (v := undef) rfl (by kernel_rfl) (by kernel_rfl) (by kernel_rfl) (fun _ _ _ h => h) (Or.inr ⟨by kernel_rfl, rfl⟩) (by assumption) ?_
              (try simp only [Act.put, List.setIfInBounds_toArray, List.set_cons_zero, List.set_cons_succ])
              refine wpAnyH_take (i := 15) (oi := ⟨some 35, _, _, _, _, _⟩) (v := ?_) rfl (by kernel_rfl) (by kernel_rfl) (by kernel_rfl) (fun _ _ _ h => h) (Or.inl ⟨by kernel_rfl, ?_⟩) (by assumption) ?_
              rotate_left
              · (intro ww hSw; (try dsimp only at hSw); go_simp); (try with_reducible rfl)
              (try simp only [Act.put, List.setIfInBounds_toArray, List.set_cons_zero, List.set_cons_succ])
              refine wpAnyH_done (by kernel_rfl) ?_ _
              go_wp2
              go_roundw
              case rel => exact ⟨m + 1, by omega, by go_num, by first | exact hbw2 | exact hbw2.drew | exact drewN_below hbw2 _, hnext⟩
              case measure => simp [intOf]; omega
          · obtain rfl : m = n := by omega
            go_wp2
            go_roundw
            case rel =>
              have hN : Hid (∀ i, i < m + 1 → ∀ j, j < i → Cond b0 a0 i j) := fun i hi j hj => by
                by_cases e : i = m
                · subst e; exact hM.out j hj
                · exact hK.out i (by omega) j hj
              exact ⟨m + 1, by omega, by go_num, hbw2, hN⟩
            case measure => simp [intOf]; omega
      · obtain rfl : n = 3 := by omega
        have hend := Lib.hid (alike_true hK.out)
        go_wp2
        go_ret
        exact ⟨by rw [← HC.out, hend.out]; rfl, first_below hb hbw⟩

end Go.Proofs.YtnojdchodmogbaaGreat
