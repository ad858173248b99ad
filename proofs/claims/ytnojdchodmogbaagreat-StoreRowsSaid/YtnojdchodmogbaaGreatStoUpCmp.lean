/- Which of two triples is ahead: package triples' Compare, over the relation with draws. -/
import Derived.Test.YtnojdchodmogbaaGreatStoUp
import Derived.Test.YtnojdchodmogbaaGreatTripEql
import Derived.Deep.RegionHeld3
import Derived.Deep.DeepCutAuto
namespace Go.Proofs.YtnojdchodmogbaaGreat
def teqs (t u : TripL) : Bool := teq t.s u.s && (teq t.p u.p && teq t.o u.o)
theorem teqs_cmp {t u : TripL} (h : teqs t u = true) : tripCmp t u = 0 := by
  unfold teqs at h
  simp only [Bool.and_eq_true] at h
  obtain ⟨h0, h1, h2⟩ := h
  unfold tripCmp
  rw [teq_true h0, teq_true h1, teq_true h2, cmp_self, cmp_self, cmp_self]; simp
end Go.Proofs.YtnojdchodmogbaaGreat
namespace Go.Proofs.YtnojdchodmogbaaGreat.Up
open Go.RowKit

/- where the two arrays stand -/
def Placed (w : World) (t u : TripL) (a b : Value) (wx : World) : Prop := ∃ X Y : Nat, a = .pointer (some ⟨X, 0, none⟩) ∧ b = .pointer (some ⟨Y, 0, none⟩) ∧ Blk wx X 99 (cells12 t) ∧ Blk wx Y 99 (cells12 u) ∧ Below w.heap.size w wx

set_option maxRecDepth 100000 in
set_option maxHeartbeats 8000000 in
theorem tCompare_calls (t u : TripL) (w : World) :
    Calls Tryz.prog 64 #[t.v, u.v] w fun e w' => e = .returned (.int .i64 (tripCmp t u)) ∧ Below w.heap.size w w' := by
  obtain ⟨⟨ak, ax, ay, az⟩, ⟨bk, bx, by', bz⟩, ⟨ck, cx, cy, cz⟩⟩ := t
  obtain ⟨⟨ak2, ax2, ay2, az2⟩, ⟨bk2, bx2, by2, bz2⟩, ⟨ck2, cx2, cy2, cz2⟩⟩ := u
  simp only [TripL.v]
  go_enter Tryz.func64, Tryz.ntmps64
  go_upto_region 1 with fail
  go_cut [5, 6] (fun a b wx => Placed w ⟨⟨ak, ax, ay, az⟩, ⟨bk, bx, by', bz⟩, ⟨ck, cx, cy, cz⟩⟩ ⟨⟨ak2, ax2, ay2, az2⟩, ⟨bk2, bx2, by2, bz2⟩, ⟨ck2, cx2, cy2, cz2⟩⟩ a b wx)
  case first =>
    obtain ⟨W0, hW0⟩ : ∃ W0, (w.alloc (.cells #[.int .i64 ak, .string (bs ax), .string (bs ay), .string (bs az), .int .i64 bk, .string (bs bx), .string (bs by'), .string (bs bz), .int .i64 ck, .string (bs cx), .string (bs cy), .string (bs cz)] 29)).alloc (.cells #[.int .i64 ak2, .string (bs ax2), .string (bs ay2), .string (bs az2), .int .i64 bk2, .string (bs bx2), .string (bs by2), .string (bs bz2), .int .i64 ck2, .string (bs cx2), .string (bs cy2), .string (bs cz2)] 29) = W0 := ⟨_, rfl⟩
    rw [hW0]
    obtain ⟨B0, hB0⟩ : ∃ B0, W0.heap.size = B0 := ⟨_, rfl⟩
    have hx0 := Lib.hid (show w.heap.size < B0 by rw [← hB0, ← hW0]; simp; omega)
    have hx1 := Lib.hid (show w.heap.size + 1 < B0 by rw [← hB0, ← hW0]; simp)
    have hBle := Lib.hid (show B0 ≤ W0.heap.size by omega)
    clear hB0
    have hb0 : Below w.heap.size w W0 := by rw [← hW0]; exact two_alloc _ _ _
    have HC0 := Lib.hid (show W0.cell? ⟨w.heap.size, 0, none⟩ = some (.int .i64 ak) by rw [← hW0]; simp [go_sem])
    have HC1 := Lib.hid (show W0.cell? ⟨w.heap.size, 1, none⟩ = some (.string (bs ax)) by rw [← hW0]; simp [go_sem])
    have HC2 := Lib.hid (show W0.cell? ⟨w.heap.size, 2, none⟩ = some (.string (bs ay)) by rw [← hW0]; simp [go_sem])
    have HC3 := Lib.hid (show W0.cell? ⟨w.heap.size, 3, none⟩ = some (.string (bs az)) by rw [← hW0]; simp [go_sem])
    have HC4 := Lib.hid (show W0.cell? ⟨w.heap.size, 4, none⟩ = some (.int .i64 bk) by rw [← hW0]; simp [go_sem])
    have HC5 := Lib.hid (show W0.cell? ⟨w.heap.size, 5, none⟩ = some (.string (bs bx)) by rw [← hW0]; simp [go_sem])
    have HC6 := Lib.hid (show W0.cell? ⟨w.heap.size, 6, none⟩ = some (.string (bs by')) by rw [← hW0]; simp [go_sem])
    have HC7 := Lib.hid (show W0.cell? ⟨w.heap.size, 7, none⟩ = some (.string (bs bz)) by rw [← hW0]; simp [go_sem])
    have HC8 := Lib.hid (show W0.cell? ⟨w.heap.size, 8, none⟩ = some (.int .i64 ck) by rw [← hW0]; simp [go_sem])
    have HC9 := Lib.hid (show W0.cell? ⟨w.heap.size, 9, none⟩ = some (.string (bs cx)) by rw [← hW0]; simp [go_sem])
    have HC10 := Lib.hid (show W0.cell? ⟨w.heap.size, 10, none⟩ = some (.string (bs cy)) by rw [← hW0]; simp [go_sem])
    have HC11 := Lib.hid (show W0.cell? ⟨w.heap.size, 11, none⟩ = some (.string (bs cz)) by rw [← hW0]; simp [go_sem])
    have HC12 := Lib.hid (show W0.cell? ⟨w.heap.size + 1, 0, none⟩ = some (.int .i64 ak2) by rw [← hW0]; simp [go_sem])
    have HC13 := Lib.hid (show W0.cell? ⟨w.heap.size + 1, 1, none⟩ = some (.string (bs ax2)) by rw [← hW0]; simp [go_sem])
    have HC14 := Lib.hid (show W0.cell? ⟨w.heap.size + 1, 2, none⟩ = some (.string (bs ay2)) by rw [← hW0]; simp [go_sem])
    have HC15 := Lib.hid (show W0.cell? ⟨w.heap.size + 1, 3, none⟩ = some (.string (bs az2)) by rw [← hW0]; simp [go_sem])
    have HC16 := Lib.hid (show W0.cell? ⟨w.heap.size + 1, 4, none⟩ = some (.int .i64 bk2) by rw [← hW0]; simp [go_sem])
    have HC17 := Lib.hid (show W0.cell? ⟨w.heap.size + 1, 5, none⟩ = some (.string (bs bx2)) by rw [← hW0]; simp [go_sem])
    have HC18 := Lib.hid (show W0.cell? ⟨w.heap.size + 1, 6, none⟩ = some (.string (bs by2)) by rw [← hW0]; simp [go_sem])
    have HC19 := Lib.hid (show W0.cell? ⟨w.heap.size + 1, 7, none⟩ = some (.string (bs bz2)) by rw [← hW0]; simp [go_sem])
    have HC20 := Lib.hid (show W0.cell? ⟨w.heap.size + 1, 8, none⟩ = some (.int .i64 ck2) by rw [← hW0]; simp [go_sem])
    have HC21 := Lib.hid (show W0.cell? ⟨w.heap.size + 1, 9, none⟩ = some (.string (bs cx2)) by rw [← hW0]; simp [go_sem])
    have HC22 := Lib.hid (show W0.cell? ⟨w.heap.size + 1, 10, none⟩ = some (.string (bs cy2)) by rw [← hW0]; simp [go_sem])
    have HC23 := Lib.hid (show W0.cell? ⟨w.heap.size + 1, 11, none⟩ = some (.string (bs cz2)) by rw [← hW0]; simp [go_sem])
    clear hW0
    have hbn : Below B0 W0 W0 := Below.refl _ _
    refine wp_region_held_drew (S := (fun W => Below B0 W0 W)) (by kernel_rfl) ?_ (fun hHeld => ?_)
    · (try dsimp only); first | exact hbn | exact hbn.drew
    refine wpAnyH_take (i := 0) (v := ?_) rfl (by kernel_rfl) (by kernel_rfl) (by kernel_rfl) (fun _ _ _ h => h) (Or.inl ⟨by kernel_rfl, ?_⟩) (by assumption) ?_
    rotate_left
    · (intro ww hSw; (try dsimp only at hSw); have c0 := keptC HC0.out hSw hx0.out; have c1 := keptC HC1.out hSw hx0.out; have c2 := keptC HC2.out hSw hx0.out; have c3 := keptC HC3.out hSw hx0.out; have c4 := keptC HC4.out hSw hx0.out; have c5 := keptC HC5.out hSw hx0.out; have c6 := keptC HC6.out hSw hx0.out; have c7 := keptC HC7.out hSw hx0.out; have c8 := keptC HC8.out hSw hx0.out; have c9 := keptC HC9.out hSw hx0.out; have c10 := keptC HC10.out hSw hx0.out; have c11 := keptC HC11.out hSw hx0.out; go_simp); (try with_reducible rfl)
    (try simp only [Act.put])
    refine wpAnyH_take (i := 2) (v := ?_) rfl (by kernel_rfl) (by kernel_rfl) (by kernel_rfl) (fun _ _ _ h => h) (Or.inl ⟨by kernel_rfl, ?_⟩) (by assumption) ?_
    rotate_left
    · (intro ww hSw; (try dsimp only at hSw); have c0 := keptC HC12.out hSw hx1.out; have c1 := keptC HC13.out hSw hx1.out; have c2 := keptC HC14.out hSw hx1.out; have c3 := keptC HC15.out hSw hx1.out; have c4 := keptC HC16.out hSw hx1.out; have c5 := keptC HC17.out hSw hx1.out; have c6 := keptC HC18.out hSw hx1.out; have c7 := keptC HC19.out hSw hx1.out; have c8 := keptC HC20.out hSw hx1.out; have c9 := keptC HC21.out hSw hx1.out; have c10 := keptC HC22.out hSw hx1.out; have c11 := keptC HC23.out hSw hx1.out; go_simp); (try with_reducible rfl)
    (try simp only [Act.put])
    apply fork (Hyp := fun W X Y => Blk W X 99 (cells12 noTrip) ∧ Blk W Y 99 (cells12 noTrip) ∧ X ≠ Y ∧ B0 ≤ X ∧ B0 ≤ Y ∧ Below B0 W0 W)
    case main =>
      intro KEY
      refine wpAnyH_ready (rs := [1, 4, 5]) (by kernel_rfl) (by simp) ?_
      refine AllReadyH.cons rfl (fun K hK => ?_) (AllReadyH.cons rfl (fun K hK => ?_) (AllReadyH.cons rfl (fun K hK => ?_) AllReadyH.nil))
      · go_simp
        refine (terms_calls _ _ _ _ _ _ _ _ _ _ _ _ _).mono ?_
        rintro e wn1 ⟨rfl, hbv⟩
        (try replace hbv := from_drew hbv)
        replace hbn := fb2 hbn hbv hBle.out
        clear hbv
        go_wp2_with fail
        refine hK.out _ _ ?_ (fun hHeld => ?_)
        · (try dsimp only); (first | exact hbn | exact hbn.drew)
        clear hK K
        (try simp only [Act.put, List.setIfInBounds_toArray, List.set_cons_zero, List.set_cons_succ])
        refine wpAnyH_ready (rs := [3, 4, 5]) (by kernel_rfl) (by simp) ?_
        refine AllReadyH.cons rfl (fun K hK => ?_) (AllReadyH.cons rfl (fun K hK => ?_) (AllReadyH.cons rfl (fun K hK => ?_) AllReadyH.nil))
        · go_simp
          refine (terms_calls _ _ _ _ _ _ _ _ _ _ _ _ _).mono ?_
          rintro e wn2 ⟨rfl, hbv⟩
          (try replace hbv := from_drew hbv)
          replace hbn := fb2 hbn hbv hBle.out
          clear hbv
          go_wp2_with fail
          refine hK.out _ _ ?_ (fun hHeld => ?_)
          · (try dsimp only); (first | exact hbn | exact hbn.drew)
          clear hK K
          (try simp only [Act.put, List.setIfInBounds_toArray, List.set_cons_zero, List.set_cons_succ])
          refine wpAnyH_ready (rs := [4, 5]) (by kernel_rfl) (by simp) ?_
          refine AllReadyH.cons rfl (fun K hK => ?_) (AllReadyH.cons rfl (fun K hK => ?_) AllReadyH.nil)
          · go_simp
            obtain ⟨X, hXe⟩ : ∃ X, (wn2).heap.size = X := ⟨_, rfl⟩
            have hX : Blk ((wn2).alloc (.cells (cells12 noTrip) 99)) X 99 (cells12 noTrip) := by rw [← hXe]; exact blk_new _ _ _
            have hXle : B0 ≤ X := by rw [← hXe]; exact Nat.le_trans hBle.out hbn.size
            replace hbn := hbn.alloc (Nat.le_trans hBle.out hbn.size) (.cells (cells12 noTrip) 99)
            (try simp only [World.size_alloc] at hXe)
            have HXE := Lib.hid hXe
            clear hXe
            refine hK.out _ _ ?_ (fun hHeld => ?_)
            · (try dsimp only); (first | exact hbn | exact hbn.drew)
            clear hK K
            (try rw [HXE.out])
            (try simp only [Act.put, List.setIfInBounds_toArray, List.set_cons_zero, List.set_cons_succ])
            refine wpAnyH_ready (rs := [5]) (by kernel_rfl) (by simp) ?_
            refine AllReadyH.cons rfl (fun K hK => ?_) AllReadyH.nil
            · go_simp
              obtain ⟨Y, hYe⟩ : ∃ Y, (((wn2).alloc (.cells (cells12 noTrip) 99))).heap.size = Y := ⟨_, rfl⟩
              have hY : Blk ((((wn2).alloc (.cells (cells12 noTrip) 99))).alloc (.cells (cells12 noTrip) 99)) Y 99 (cells12 noTrip) := by rw [← hYe]; exact blk_new _ _ _
              have hYle : B0 ≤ Y := by rw [← hYe]; exact Nat.le_trans hBle.out hbn.size
              have hne : X ≠ Y := by have := blk_lt hX; rw [hYe] at this; omega
              replace hX := blk_on hX (box_below _ (.cells (cells12 noTrip) 99)) (blk_lt hX)
              replace hbn := hbn.alloc (Nat.le_trans hBle.out hbn.size) (.cells (cells12 noTrip) 99)
              (try simp only [World.size_alloc] at hYe)
              have HYE := Lib.hid hYe
              clear hYe
              refine hK.out _ _ ?_ (fun hHeld => ?_)
              · (try dsimp only); (first | exact hbn | exact hbn.drew)
              clear hK K
              (try rw [HYE.out])
              (try simp only [Act.put, List.setIfInBounds_toArray, List.set_cons_zero, List.set_cons_succ])
              first
                | (obtain ⟨WW, hWW⟩ : ∃ WW, ((((((wn2).alloc (.cells #[.int .i64 0, .string ⟨#[]⟩, .string ⟨#[]⟩, .string ⟨#[]⟩, .int .i64 0, .string ⟨#[]⟩, .string ⟨#[]⟩, .string ⟨#[]⟩, .int .i64 0, .string ⟨#[]⟩, .string ⟨#[]⟩, .string ⟨#[]⟩] 99))).alloc (.cells #[.int .i64 0, .string ⟨#[]⟩, .string ⟨#[]⟩, .string ⟨#[]⟩, .int .i64 0, .string ⟨#[]⟩, .string ⟨#[]⟩, .string ⟨#[]⟩, .int .i64 0, .string ⟨#[]⟩, .string ⟨#[]⟩, .string ⟨#[]⟩] 99))).drewN 3) = WW := ⟨_, rfl⟩; rw [hWW]; have hX' : Blk WW X 99 (cells12 noTrip) := (by rw [← hWW]; exact hX); have hY' : Blk WW Y 99 (cells12 noTrip) := (by rw [← hWW]; exact hY); have hb' : Below B0 W0 WW := (by rw [← hWW]; exact drewN_below hbn 3); exact KEY WW X Y ⟨hX', hY', hne, hXle, hYle, hb'⟩)
                | (obtain ⟨WW, hWW⟩ : ∃ WW, ((((((wn2).alloc (.cells #[.int .i64 0, .string ⟨#[]⟩, .string ⟨#[]⟩, .string ⟨#[]⟩, .int .i64 0, .string ⟨#[]⟩, .string ⟨#[]⟩, .string ⟨#[]⟩, .int .i64 0, .string ⟨#[]⟩, .string ⟨#[]⟩, .string ⟨#[]⟩] 99))).alloc (.cells #[.int .i64 0, .string ⟨#[]⟩, .string ⟨#[]⟩, .string ⟨#[]⟩, .int .i64 0, .string ⟨#[]⟩, .string ⟨#[]⟩, .string ⟨#[]⟩, .int .i64 0, .string ⟨#[]⟩, .string ⟨#[]⟩, .string ⟨#[]⟩] 99))).drewN 2) = WW := ⟨_, rfl⟩; rw [hWW]; have hX' : Blk WW X 99 (cells12 noTrip) := (by rw [← hWW]; exact hX); have hY' : Blk WW Y 99 (cells12 noTrip) := (by rw [← hWW]; exact hY); have hb' : Below B0 W0 WW := (by rw [← hWW]; exact drewN_below hbn 2); exact KEY WW X Y ⟨hX', hY', hne, hXle, hYle, hb'⟩)
                | (obtain ⟨WW, hWW⟩ : ∃ WW, ((((((wn2).alloc (.cells #[.int .i64 0, .string ⟨#[]⟩, .string ⟨#[]⟩, .string ⟨#[]⟩, .int .i64 0, .string ⟨#[]⟩, .string ⟨#[]⟩, .string ⟨#[]⟩, .int .i64 0, .string ⟨#[]⟩, .string ⟨#[]⟩, .string ⟨#[]⟩] 99))).alloc (.cells #[.int .i64 0, .string ⟨#[]⟩, .string ⟨#[]⟩, .string ⟨#[]⟩, .int .i64 0, .string ⟨#[]⟩, .string ⟨#[]⟩, .string ⟨#[]⟩, .int .i64 0, .string ⟨#[]⟩, .string ⟨#[]⟩, .string ⟨#[]⟩] 99))).drew.drew) = WW := ⟨_, rfl⟩; rw [hWW]; have hX' : Blk WW X 99 (cells12 noTrip) := (by rw [← hWW]; exact hX); have hY' : Blk WW Y 99 (cells12 noTrip) := (by rw [← hWW]; exact hY); have hb' : Below B0 W0 WW := (by rw [← hWW]; exact hbn.drew.drew); exact KEY WW X Y ⟨hX', hY', hne, hXle, hYle, hb'⟩)
                | (obtain ⟨WW, hWW⟩ : ∃ WW, ((((((wn2).alloc (.cells #[.int .i64 0, .string ⟨#[]⟩, .string ⟨#[]⟩, .string ⟨#[]⟩, .int .i64 0, .string ⟨#[]⟩, .string ⟨#[]⟩, .string ⟨#[]⟩, .int .i64 0, .string ⟨#[]⟩, .string ⟨#[]⟩, .string ⟨#[]⟩] 99))).alloc (.cells #[.int .i64 0, .string ⟨#[]⟩, .string ⟨#[]⟩, .string ⟨#[]⟩, .int .i64 0, .string ⟨#[]⟩, .string ⟨#[]⟩, .string ⟨#[]⟩, .int .i64 0, .string ⟨#[]⟩, .string ⟨#[]⟩, .string ⟨#[]⟩] 99))).drew) = WW := ⟨_, rfl⟩; rw [hWW]; have hX' : Blk WW X 99 (cells12 noTrip) := (by rw [← hWW]; exact hX); have hY' : Blk WW Y 99 (cells12 noTrip) := (by rw [← hWW]; exact hY); have hb' : Below B0 W0 WW := (by rw [← hWW]; exact hbn.drew); exact KEY WW X Y ⟨hX', hY', hne, hXle, hYle, hb'⟩)
                | (obtain ⟨WW, hWW⟩ : ∃ WW, (((((wn2).alloc (.cells #[.int .i64 0, .string ⟨#[]⟩, .string ⟨#[]⟩, .string ⟨#[]⟩, .int .i64 0, .string ⟨#[]⟩, .string ⟨#[]⟩, .string ⟨#[]⟩, .int .i64 0, .string ⟨#[]⟩, .string ⟨#[]⟩, .string ⟨#[]⟩] 99))).alloc (.cells #[.int .i64 0, .string ⟨#[]⟩, .string ⟨#[]⟩, .string ⟨#[]⟩, .int .i64 0, .string ⟨#[]⟩, .string ⟨#[]⟩, .string ⟨#[]⟩, .int .i64 0, .string ⟨#[]⟩, .string ⟨#[]⟩, .string ⟨#[]⟩] 99))) = WW := ⟨_, rfl⟩; rw [hWW]; have hX' : Blk WW X 99 (cells12 noTrip) := (by rw [← hWW]; exact hX); have hY' : Blk WW Y 99 (cells12 noTrip) := (by rw [← hWW]; exact hY); have hb' : Below B0 W0 WW := (by rw [← hWW]; exact hbn); exact KEY WW X Y ⟨hX', hY', hne, hXle, hYle, hb'⟩)
          · go_simp
            obtain ⟨Y, hYe⟩ : ∃ Y, (wn2).heap.size = Y := ⟨_, rfl⟩
            have hY : Blk ((wn2).alloc (.cells (cells12 noTrip) 99)) Y 99 (cells12 noTrip) := by rw [← hYe]; exact blk_new _ _ _
            have hYle : B0 ≤ Y := by rw [← hYe]; exact Nat.le_trans hBle.out hbn.size
            replace hbn := hbn.alloc (Nat.le_trans hBle.out hbn.size) (.cells (cells12 noTrip) 99)
            (try simp only [World.size_alloc] at hYe)
            have HYE := Lib.hid hYe
            clear hYe
            refine hK.out _ _ ?_ (fun hHeld => ?_)
            · (try dsimp only); (first | exact hbn | exact hbn.drew)
            clear hK K
            (try rw [HYE.out])
            (try simp only [Act.put, List.setIfInBounds_toArray, List.set_cons_zero, List.set_cons_succ])
            refine wpAnyH_ready (rs := [4]) (by kernel_rfl) (by simp) ?_
            refine AllReadyH.cons rfl (fun K hK => ?_) AllReadyH.nil
            · go_simp
              obtain ⟨X, hXe⟩ : ∃ X, (((wn2).alloc (.cells (cells12 noTrip) 99))).heap.size = X := ⟨_, rfl⟩
              have hX : Blk ((((wn2).alloc (.cells (cells12 noTrip) 99))).alloc (.cells (cells12 noTrip) 99)) X 99 (cells12 noTrip) := by rw [← hXe]; exact blk_new _ _ _
              have hXle : B0 ≤ X := by rw [← hXe]; exact Nat.le_trans hBle.out hbn.size
              have hne : X ≠ Y := by have := blk_lt hY; rw [hXe] at this; omega
              replace hY := blk_on hY (box_below _ (.cells (cells12 noTrip) 99)) (blk_lt hY)
              replace hbn := hbn.alloc (Nat.le_trans hBle.out hbn.size) (.cells (cells12 noTrip) 99)
              (try simp only [World.size_alloc] at hXe)
              have HXE := Lib.hid hXe
              clear hXe
              refine hK.out _ _ ?_ (fun hHeld => ?_)
              · (try dsimp only); (first | exact hbn | exact hbn.drew)
              clear hK K
              (try rw [HXE.out])
              (try simp only [Act.put, List.setIfInBounds_toArray, List.set_cons_zero, List.set_cons_succ])
              first
                | (obtain ⟨WW, hWW⟩ : ∃ WW, ((((((wn2).alloc (.cells #[.int .i64 0, .string ⟨#[]⟩, .string ⟨#[]⟩, .string ⟨#[]⟩, .int .i64 0, .string ⟨#[]⟩, .string ⟨#[]⟩, .string ⟨#[]⟩, .int .i64 0, .string ⟨#[]⟩, .string ⟨#[]⟩, .string ⟨#[]⟩] 99))).alloc (.cells #[.int .i64 0, .string ⟨#[]⟩, .string ⟨#[]⟩, .string ⟨#[]⟩, .int .i64 0, .string ⟨#[]⟩, .string ⟨#[]⟩, .string ⟨#[]⟩, .int .i64 0, .string ⟨#[]⟩, .string ⟨#[]⟩, .string ⟨#[]⟩] 99))).drewN 3) = WW := ⟨_, rfl⟩; rw [hWW]; have hX' : Blk WW X 99 (cells12 noTrip) := (by rw [← hWW]; exact hX); have hY' : Blk WW Y 99 (cells12 noTrip) := (by rw [← hWW]; exact hY); have hb' : Below B0 W0 WW := (by rw [← hWW]; exact drewN_below hbn 3); exact Eq.mp (by kernel_rfl) (KEY WW X Y ⟨hX', hY', hne, hXle, hYle, hb'⟩))
                | (obtain ⟨WW, hWW⟩ : ∃ WW, ((((((wn2).alloc (.cells #[.int .i64 0, .string ⟨#[]⟩, .string ⟨#[]⟩, .string ⟨#[]⟩, .int .i64 0, .string ⟨#[]⟩, .string ⟨#[]⟩, .string ⟨#[]⟩, .int .i64 0, .string ⟨#[]⟩, .string ⟨#[]⟩, .string ⟨#[]⟩] 99))).alloc (.cells #[.int .i64 0, .string ⟨#[]⟩, .string ⟨#[]⟩, .string ⟨#[]⟩, .int .i64 0, .string ⟨#[]⟩, .string ⟨#[]⟩, .string ⟨#[]⟩, .int .i64 0, .string ⟨#[]⟩, .string ⟨#[]⟩, .string ⟨#[]⟩] 99))).drewN 2) = WW := ⟨_, rfl⟩; rw [hWW]; have hX' : Blk WW X 99 (cells12 noTrip) := (by rw [← hWW]; exact hX); have hY' : Blk WW Y 99 (cells12 noTrip) := (by rw [← hWW]; exact hY); have hb' : Below B0 W0 WW := (by rw [← hWW]; exact drewN_below hbn 2); exact Eq.mp (by kernel_rfl) (KEY WW X Y ⟨hX', hY', hne, hXle, hYle, hb'⟩))
                | (obtain ⟨WW, hWW⟩ : ∃ WW, ((((((wn2).alloc (.cells #[.int .i64 0, .string ⟨#[]⟩, .string ⟨#[]⟩, .string ⟨#[]⟩, .int .i64 0, .string ⟨#[]⟩, .string ⟨#[]⟩, .string ⟨#[]⟩, .int .i64 0, .string ⟨#[]⟩, .string ⟨#[]⟩, .string ⟨#[]⟩] 99))).alloc (.cells #[.int .i64 0, .string ⟨#[]⟩, .string ⟨#[]⟩, .string ⟨#[]⟩, .int .i64 0, .string ⟨#[]⟩, .string ⟨#[]⟩, .string ⟨#[]⟩, .int .i64 0, .string ⟨#[]⟩, .string ⟨#[]⟩, .string ⟨#[]⟩] 99))).drew.drew) = WW := ⟨_, rfl⟩; rw [hWW]; have hX' : Blk WW X 99 (cells12 noTrip) := (by rw [← hWW]; exact hX); have hY' : Blk WW Y 99 (cells12 noTrip) := (by rw [← hWW]; exact hY); have hb' : Below B0 W0 WW := (by rw [← hWW]; exact hbn.drew.drew); exact Eq.mp (by kernel_rfl) (KEY WW X Y ⟨hX', hY', hne, hXle, hYle, hb'⟩))
                | (obtain ⟨WW, hWW⟩ : ∃ WW, ((((((wn2).alloc (.cells #[.int .i64 0, .string ⟨#[]⟩, .string ⟨#[]⟩, .string ⟨#[]⟩, .int .i64 0, .string ⟨#[]⟩, .string ⟨#[]⟩, .string ⟨#[]⟩, .int .i64 0, .string ⟨#[]⟩, .string ⟨#[]⟩, .string ⟨#[]⟩] 99))).alloc (.cells #[.int .i64 0, .string ⟨#[]⟩, .string ⟨#[]⟩, .string ⟨#[]⟩, .int .i64 0, .string ⟨#[]⟩, .string ⟨#[]⟩, .string ⟨#[]⟩, .int .i64 0, .string ⟨#[]⟩, .string ⟨#[]⟩, .string ⟨#[]⟩] 99))).drew) = WW := ⟨_, rfl⟩; rw [hWW]; have hX' : Blk WW X 99 (cells12 noTrip) := (by rw [← hWW]; exact hX); have hY' : Blk WW Y 99 (cells12 noTrip) := (by rw [← hWW]; exact hY); have hb' : Below B0 W0 WW := (by rw [← hWW]; exact hbn.drew); exact Eq.mp (by kernel_rfl) (KEY WW X Y ⟨hX', hY', hne, hXle, hYle, hb'⟩))
                | (obtain ⟨WW, hWW⟩ : ∃ WW, (((((wn2).alloc (.cells #[.int .i64 0, .string ⟨#[]⟩, .string ⟨#[]⟩, .string ⟨#[]⟩, .int .i64 0, .string ⟨#[]⟩, .string ⟨#[]⟩, .string ⟨#[]⟩, .int .i64 0, .string ⟨#[]⟩, .string ⟨#[]⟩, .string ⟨#[]⟩] 99))).alloc (.cells #[.int .i64 0, .string ⟨#[]⟩, .string ⟨#[]⟩, .string ⟨#[]⟩, .int .i64 0, .string ⟨#[]⟩, .string ⟨#[]⟩, .string ⟨#[]⟩, .int .i64 0, .string ⟨#[]⟩, .string ⟨#[]⟩, .string ⟨#[]⟩] 99))) = WW := ⟨_, rfl⟩; rw [hWW]; have hX' : Blk WW X 99 (cells12 noTrip) := (by rw [← hWW]; exact hX); have hY' : Blk WW Y 99 (cells12 noTrip) := (by rw [← hWW]; exact hY); have hb' : Below B0 W0 WW := (by rw [← hWW]; exact hbn); exact Eq.mp (by kernel_rfl) (KEY WW X Y ⟨hX', hY', hne, hXle, hYle, hb'⟩))
        · go_simp
          obtain ⟨X, hXe⟩ : ∃ X, (wn1).heap.size = X := ⟨_, rfl⟩
          have hX : Blk ((wn1).alloc (.cells (cells12 noTrip) 99)) X 99 (cells12 noTrip) := by rw [← hXe]; exact blk_new _ _ _
          have hXle : B0 ≤ X := by rw [← hXe]; exact Nat.le_trans hBle.out hbn.size
          replace hbn := hbn.alloc (Nat.le_trans hBle.out hbn.size) (.cells (cells12 noTrip) 99)
          (try simp only [World.size_alloc] at hXe)
          have HXE := Lib.hid hXe
          clear hXe
          refine hK.out _ _ ?_ (fun hHeld => ?_)
          · (try dsimp only); (first | exact hbn | exact hbn.drew)
          clear hK K
          (try rw [HXE.out])
          (try simp only [Act.put, List.setIfInBounds_toArray, List.set_cons_zero, List.set_cons_succ])
          refine wpAnyH_ready (rs := [3, 5]) (by kernel_rfl) (by simp) ?_
          refine AllReadyH.cons rfl (fun K hK => ?_) (AllReadyH.cons rfl (fun K hK => ?_) AllReadyH.nil)
          · go_simp
            refine (terms_calls _ _ _ _ _ _ _ _ _ _ _ _ _).mono ?_
            rintro e wn8 ⟨rfl, hbv⟩
            (try replace hbv := from_drew hbv)
            replace hbn := fb2 hbn hbv hBle.out
            replace hX := blk_on hX hbv (blk_lt hX)
            clear hbv
            go_wp2_with fail
            refine hK.out _ _ ?_ (fun hHeld => ?_)
            · (try dsimp only); (first | exact hbn | exact hbn.drew)
            clear hK K
            (try simp only [Act.put, List.setIfInBounds_toArray, List.set_cons_zero, List.set_cons_succ])
            refine wpAnyH_ready (rs := [5]) (by kernel_rfl) (by simp) ?_
            refine AllReadyH.cons rfl (fun K hK => ?_) AllReadyH.nil
            · go_simp
              obtain ⟨Y, hYe⟩ : ∃ Y, (wn8).heap.size = Y := ⟨_, rfl⟩
              have hY : Blk ((wn8).alloc (.cells (cells12 noTrip) 99)) Y 99 (cells12 noTrip) := by rw [← hYe]; exact blk_new _ _ _
              have hYle : B0 ≤ Y := by rw [← hYe]; exact Nat.le_trans hBle.out hbn.size
              have hne : X ≠ Y := by have := blk_lt hX; rw [hYe] at this; omega
              replace hX := blk_on hX (box_below _ (.cells (cells12 noTrip) 99)) (blk_lt hX)
              replace hbn := hbn.alloc (Nat.le_trans hBle.out hbn.size) (.cells (cells12 noTrip) 99)
              (try simp only [World.size_alloc] at hYe)
              have HYE := Lib.hid hYe
              clear hYe
              refine hK.out _ _ ?_ (fun hHeld => ?_)
              · (try dsimp only); (first | exact hbn | exact hbn.drew)
              clear hK K
              (try rw [HYE.out])
              (try simp only [Act.put, List.setIfInBounds_toArray, List.set_cons_zero, List.set_cons_succ])
              first
                | (obtain ⟨WW, hWW⟩ : ∃ WW, ((((wn8).alloc (.cells #[.int .i64 0, .string ⟨#[]⟩, .string ⟨#[]⟩, .string ⟨#[]⟩, .int .i64 0, .string ⟨#[]⟩, .string ⟨#[]⟩, .string ⟨#[]⟩, .int .i64 0, .string ⟨#[]⟩, .string ⟨#[]⟩, .string ⟨#[]⟩] 99))).drewN 3) = WW := ⟨_, rfl⟩; rw [hWW]; have hX' : Blk WW X 99 (cells12 noTrip) := (by rw [← hWW]; exact hX); have hY' : Blk WW Y 99 (cells12 noTrip) := (by rw [← hWW]; exact hY); have hb' : Below B0 W0 WW := (by rw [← hWW]; exact drewN_below hbn 3); exact Eq.mp (by kernel_rfl) (KEY WW X Y ⟨hX', hY', hne, hXle, hYle, hb'⟩))
                | (obtain ⟨WW, hWW⟩ : ∃ WW, ((((wn8).alloc (.cells #[.int .i64 0, .string ⟨#[]⟩, .string ⟨#[]⟩, .string ⟨#[]⟩, .int .i64 0, .string ⟨#[]⟩, .string ⟨#[]⟩, .string ⟨#[]⟩, .int .i64 0, .string ⟨#[]⟩, .string ⟨#[]⟩, .string ⟨#[]⟩] 99))).drewN 2) = WW := ⟨_, rfl⟩; rw [hWW]; have hX' : Blk WW X 99 (cells12 noTrip) := (by rw [← hWW]; exact hX); have hY' : Blk WW Y 99 (cells12 noTrip) := (by rw [← hWW]; exact hY); have hb' : Below B0 W0 WW := (by rw [← hWW]; exact drewN_below hbn 2); exact Eq.mp (by kernel_rfl) (KEY WW X Y ⟨hX', hY', hne, hXle, hYle, hb'⟩))
                | (obtain ⟨WW, hWW⟩ : ∃ WW, ((((wn8).alloc (.cells #[.int .i64 0, .string ⟨#[]⟩, .string ⟨#[]⟩, .string ⟨#[]⟩, .int .i64 0, .string ⟨#[]⟩, .string ⟨#[]⟩, .string ⟨#[]⟩, .int .i64 0, .string ⟨#[]⟩, .string ⟨#[]⟩, .string ⟨#[]⟩] 99))).drew.drew) = WW := ⟨_, rfl⟩; rw [hWW]; have hX' : Blk WW X 99 (cells12 noTrip) := (by rw [← hWW]; exact hX); have hY' : Blk WW Y 99 (cells12 noTrip) := (by rw [← hWW]; exact hY); have hb' : Below B0 W0 WW := (by rw [← hWW]; exact hbn.drew.drew); exact Eq.mp (by kernel_rfl) (KEY WW X Y ⟨hX', hY', hne, hXle, hYle, hb'⟩))
                | (obtain ⟨WW, hWW⟩ : ∃ WW, ((((wn8).alloc (.cells #[.int .i64 0, .string ⟨#[]⟩, .string ⟨#[]⟩, .string ⟨#[]⟩, .int .i64 0, .string ⟨#[]⟩, .string ⟨#[]⟩, .string ⟨#[]⟩, .int .i64 0, .string ⟨#[]⟩, .string ⟨#[]⟩, .string ⟨#[]⟩] 99))).drew) = WW := ⟨_, rfl⟩; rw [hWW]; have hX' : Blk WW X 99 (cells12 noTrip) := (by rw [← hWW]; exact hX); have hY' : Blk WW Y 99 (cells12 noTrip) := (by rw [← hWW]; exact hY); have hb' : Below B0 W0 WW := (by rw [← hWW]; exact hbn.drew); exact Eq.mp (by kernel_rfl) (KEY WW X Y ⟨hX', hY', hne, hXle, hYle, hb'⟩))
                | (obtain ⟨WW, hWW⟩ : ∃ WW, (((wn8).alloc (.cells #[.int .i64 0, .string ⟨#[]⟩, .string ⟨#[]⟩, .string ⟨#[]⟩, .int .i64 0, .string ⟨#[]⟩, .string ⟨#[]⟩, .string ⟨#[]⟩, .int .i64 0, .string ⟨#[]⟩, .string ⟨#[]⟩, .string ⟨#[]⟩] 99))) = WW := ⟨_, rfl⟩; rw [hWW]; have hX' : Blk WW X 99 (cells12 noTrip) := (by rw [← hWW]; exact hX); have hY' : Blk WW Y 99 (cells12 noTrip) := (by rw [← hWW]; exact hY); have hb' : Below B0 W0 WW := (by rw [← hWW]; exact hbn); exact Eq.mp (by kernel_rfl) (KEY WW X Y ⟨hX', hY', hne, hXle, hYle, hb'⟩))
          · go_simp
            obtain ⟨Y, hYe⟩ : ∃ Y, (((wn1).alloc (.cells (cells12 noTrip) 99))).heap.size = Y := ⟨_, rfl⟩
            have hY : Blk ((((wn1).alloc (.cells (cells12 noTrip) 99))).alloc (.cells (cells12 noTrip) 99)) Y 99 (cells12 noTrip) := by rw [← hYe]; exact blk_new _ _ _
            have hYle : B0 ≤ Y := by rw [← hYe]; exact Nat.le_trans hBle.out hbn.size
            have hne : X ≠ Y := by have := blk_lt hX; rw [hYe] at this; omega
            replace hX := blk_on hX (box_below _ (.cells (cells12 noTrip) 99)) (blk_lt hX)
            replace hbn := hbn.alloc (Nat.le_trans hBle.out hbn.size) (.cells (cells12 noTrip) 99)
            (try simp only [World.size_alloc] at hYe)
            have HYE := Lib.hid hYe
            clear hYe
            refine hK.out _ _ ?_ (fun hHeld => ?_)
            · (try dsimp only); (first | exact hbn | exact hbn.drew)
            clear hK K
            (try rw [HYE.out])
            (try simp only [Act.put, List.setIfInBounds_toArray, List.set_cons_zero, List.set_cons_succ])
            refine wpAnyH_ready (rs := [3]) (by kernel_rfl) (by simp) ?_
            refine AllReadyH.cons rfl (fun K hK => ?_) AllReadyH.nil
            · go_simp
              refine (terms_calls _ _ _ _ _ _ _ _ _ _ _ _ _).mono ?_
              rintro e wn11 ⟨rfl, hbv⟩
              (try replace hbv := from_drew hbv)
              replace hbn := fb2 hbn hbv hBle.out
              replace hX := blk_on hX hbv (blk_lt hX)
              replace hY := blk_on hY hbv (blk_lt hY)
              clear hbv
              go_wp2_with fail
              refine hK.out _ _ ?_ (fun hHeld => ?_)
              · (try dsimp only); (first | exact hbn | exact hbn.drew)
              clear hK K
              (try simp only [Act.put, List.setIfInBounds_toArray, List.set_cons_zero, List.set_cons_succ])
              first
                | (obtain ⟨WW, hWW⟩ : ∃ WW, ((wn11).drewN 3) = WW := ⟨_, rfl⟩; rw [hWW]; have hX' : Blk WW X 99 (cells12 noTrip) := (by rw [← hWW]; exact hX); have hY' : Blk WW Y 99 (cells12 noTrip) := (by rw [← hWW]; exact hY); have hb' : Below B0 W0 WW := (by rw [← hWW]; exact drewN_below hbn 3); exact Eq.mp (by kernel_rfl) (KEY WW X Y ⟨hX', hY', hne, hXle, hYle, hb'⟩))
                | (obtain ⟨WW, hWW⟩ : ∃ WW, ((wn11).drewN 2) = WW := ⟨_, rfl⟩; rw [hWW]; have hX' : Blk WW X 99 (cells12 noTrip) := (by rw [← hWW]; exact hX); have hY' : Blk WW Y 99 (cells12 noTrip) := (by rw [← hWW]; exact hY); have hb' : Below B0 W0 WW := (by rw [← hWW]; exact drewN_below hbn 2); exact Eq.mp (by kernel_rfl) (KEY WW X Y ⟨hX', hY', hne, hXle, hYle, hb'⟩))
                | (obtain ⟨WW, hWW⟩ : ∃ WW, ((wn11).drew.drew) = WW := ⟨_, rfl⟩; rw [hWW]; have hX' : Blk WW X 99 (cells12 noTrip) := (by rw [← hWW]; exact hX); have hY' : Blk WW Y 99 (cells12 noTrip) := (by rw [← hWW]; exact hY); have hb' : Below B0 W0 WW := (by rw [← hWW]; exact hbn.drew.drew); exact Eq.mp (by kernel_rfl) (KEY WW X Y ⟨hX', hY', hne, hXle, hYle, hb'⟩))
                | (obtain ⟨WW, hWW⟩ : ∃ WW, ((wn11).drew) = WW := ⟨_, rfl⟩; rw [hWW]; have hX' : Blk WW X 99 (cells12 noTrip) := (by rw [← hWW]; exact hX); have hY' : Blk WW Y 99 (cells12 noTrip) := (by rw [← hWW]; exact hY); have hb' : Below B0 W0 WW := (by rw [← hWW]; exact hbn.drew); exact Eq.mp (by kernel_rfl) (KEY WW X Y ⟨hX', hY', hne, hXle, hYle, hb'⟩))
                | (obtain ⟨WW, hWW⟩ : ∃ WW, (wn11) = WW := ⟨_, rfl⟩; rw [hWW]; have hX' : Blk WW X 99 (cells12 noTrip) := (by rw [← hWW]; exact hX); have hY' : Blk WW Y 99 (cells12 noTrip) := (by rw [← hWW]; exact hY); have hb' : Below B0 W0 WW := (by rw [← hWW]; exact hbn); exact Eq.mp (by kernel_rfl) (KEY WW X Y ⟨hX', hY', hne, hXle, hYle, hb'⟩))
        · go_simp
          obtain ⟨Y, hYe⟩ : ∃ Y, (wn1).heap.size = Y := ⟨_, rfl⟩
          have hY : Blk ((wn1).alloc (.cells (cells12 noTrip) 99)) Y 99 (cells12 noTrip) := by rw [← hYe]; exact blk_new _ _ _
          have hYle : B0 ≤ Y := by rw [← hYe]; exact Nat.le_trans hBle.out hbn.size
          replace hbn := hbn.alloc (Nat.le_trans hBle.out hbn.size) (.cells (cells12 noTrip) 99)
          (try simp only [World.size_alloc] at hYe)
          have HYE := Lib.hid hYe
          clear hYe
          refine hK.out _ _ ?_ (fun hHeld => ?_)
          · (try dsimp only); (first | exact hbn | exact hbn.drew)
          clear hK K
          (try rw [HYE.out])
          (try simp only [Act.put, List.setIfInBounds_toArray, List.set_cons_zero, List.set_cons_succ])
          refine wpAnyH_ready (rs := [3, 4]) (by kernel_rfl) (by simp) ?_
          refine AllReadyH.cons rfl (fun K hK => ?_) (AllReadyH.cons rfl (fun K hK => ?_) AllReadyH.nil)
          · go_simp
            refine (terms_calls _ _ _ _ _ _ _ _ _ _ _ _ _).mono ?_
            rintro e wn13 ⟨rfl, hbv⟩
            (try replace hbv := from_drew hbv)
            replace hbn := fb2 hbn hbv hBle.out
            replace hY := blk_on hY hbv (blk_lt hY)
            clear hbv
            go_wp2_with fail
            refine hK.out _ _ ?_ (fun hHeld => ?_)
            · (try dsimp only); (first | exact hbn | exact hbn.drew)
            clear hK K
            (try simp only [Act.put, List.setIfInBounds_toArray, List.set_cons_zero, List.set_cons_succ])
            refine wpAnyH_ready (rs := [4]) (by kernel_rfl) (by simp) ?_
            refine AllReadyH.cons rfl (fun K hK => ?_) AllReadyH.nil
            · go_simp
              obtain ⟨X, hXe⟩ : ∃ X, (wn13).heap.size = X := ⟨_, rfl⟩
              have hX : Blk ((wn13).alloc (.cells (cells12 noTrip) 99)) X 99 (cells12 noTrip) := by rw [← hXe]; exact blk_new _ _ _
              have hXle : B0 ≤ X := by rw [← hXe]; exact Nat.le_trans hBle.out hbn.size
              have hne : X ≠ Y := by have := blk_lt hY; rw [hXe] at this; omega
              replace hY := blk_on hY (box_below _ (.cells (cells12 noTrip) 99)) (blk_lt hY)
              replace hbn := hbn.alloc (Nat.le_trans hBle.out hbn.size) (.cells (cells12 noTrip) 99)
              (try simp only [World.size_alloc] at hXe)
              have HXE := Lib.hid hXe
              clear hXe
              refine hK.out _ _ ?_ (fun hHeld => ?_)
              · (try dsimp only); (first | exact hbn | exact hbn.drew)
              clear hK K
              (try rw [HXE.out])
              (try simp only [Act.put, List.setIfInBounds_toArray, List.set_cons_zero, List.set_cons_succ])
              first
                | (obtain ⟨WW, hWW⟩ : ∃ WW, ((((wn13).alloc (.cells #[.int .i64 0, .string ⟨#[]⟩, .string ⟨#[]⟩, .string ⟨#[]⟩, .int .i64 0, .string ⟨#[]⟩, .string ⟨#[]⟩, .string ⟨#[]⟩, .int .i64 0, .string ⟨#[]⟩, .string ⟨#[]⟩, .string ⟨#[]⟩] 99))).drewN 3) = WW := ⟨_, rfl⟩; rw [hWW]; have hX' : Blk WW X 99 (cells12 noTrip) := (by rw [← hWW]; exact hX); have hY' : Blk WW Y 99 (cells12 noTrip) := (by rw [← hWW]; exact hY); have hb' : Below B0 W0 WW := (by rw [← hWW]; exact drewN_below hbn 3); exact Eq.mp (by kernel_rfl) (KEY WW X Y ⟨hX', hY', hne, hXle, hYle, hb'⟩))
                | (obtain ⟨WW, hWW⟩ : ∃ WW, ((((wn13).alloc (.cells #[.int .i64 0, .string ⟨#[]⟩, .string ⟨#[]⟩, .string ⟨#[]⟩, .int .i64 0, .string ⟨#[]⟩, .string ⟨#[]⟩, .string ⟨#[]⟩, .int .i64 0, .string ⟨#[]⟩, .string ⟨#[]⟩, .string ⟨#[]⟩] 99))).drewN 2) = WW := ⟨_, rfl⟩; rw [hWW]; have hX' : Blk WW X 99 (cells12 noTrip) := (by rw [← hWW]; exact hX); have hY' : Blk WW Y 99 (cells12 noTrip) := (by rw [← hWW]; exact hY); have hb' : Below B0 W0 WW := (by rw [← hWW]; exact drewN_below hbn 2); exact Eq.mp (by kernel_rfl) (KEY WW X Y ⟨hX', hY', hne, hXle, hYle, hb'⟩))
                | (obtain ⟨WW, hWW⟩ : ∃ WW, ((((wn13).alloc (.cells #[.int .i64 0, .string ⟨#[]⟩, .string ⟨#[]⟩, .string ⟨#[]⟩, .int .i64 0, .string ⟨#[]⟩, .string ⟨#[]⟩, .string ⟨#[]⟩, .int .i64 0, .string ⟨#[]⟩, .string ⟨#[]⟩, .string ⟨#[]⟩] 99))).drew.drew) = WW := ⟨_, rfl⟩; rw [hWW]; have hX' : Blk WW X 99 (cells12 noTrip) := (by rw [← hWW]; exact hX); have hY' : Blk WW Y 99 (cells12 noTrip) := (by rw [← hWW]; exact hY); have hb' : Below B0 W0 WW := (by rw [← hWW]; exact hbn.drew.drew); exact Eq.mp (by kernel_rfl) (KEY WW X Y ⟨hX', hY', hne, hXle, hYle, hb'⟩))
                | (obtain ⟨WW, hWW⟩ : ∃ WW, ((((wn13).alloc (.cells #[.int .i64 0, .string ⟨#[]⟩, .string ⟨#[]⟩, .string ⟨#[]⟩, .int .i64 0, .string ⟨#[]⟩, .string ⟨#[]⟩, .string ⟨#[]⟩, .int .i64 0, .string ⟨#[]⟩, .string ⟨#[]⟩, .string ⟨#[]⟩] 99))).drew) = WW := ⟨_, rfl⟩; rw [hWW]; have hX' : Blk WW X 99 (cells12 noTrip) := (by rw [← hWW]; exact hX); have hY' : Blk WW Y 99 (cells12 noTrip) := (by rw [← hWW]; exact hY); have hb' : Below B0 W0 WW := (by rw [← hWW]; exact hbn.drew); exact Eq.mp (by kernel_rfl) (KEY WW X Y ⟨hX', hY', hne, hXle, hYle, hb'⟩))
                | (obtain ⟨WW, hWW⟩ : ∃ WW, (((wn13).alloc (.cells #[.int .i64 0, .string ⟨#[]⟩, .string ⟨#[]⟩, .string ⟨#[]⟩, .int .i64 0, .string ⟨#[]⟩, .string ⟨#[]⟩, .string ⟨#[]⟩, .int .i64 0, .string ⟨#[]⟩, .string ⟨#[]⟩, .string ⟨#[]⟩] 99))) = WW := ⟨_, rfl⟩; rw [hWW]; have hX' : Blk WW X 99 (cells12 noTrip) := (by rw [← hWW]; exact hX); have hY' : Blk WW Y 99 (cells12 noTrip) := (by rw [← hWW]; exact hY); have hb' : Below B0 W0 WW := (by rw [← hWW]; exact hbn); exact Eq.mp (by kernel_rfl) (KEY WW X Y ⟨hX', hY', hne, hXle, hYle, hb'⟩))
          · go_simp
            obtain ⟨X, hXe⟩ : ∃ X, (((wn1).alloc (.cells (cells12 noTrip) 99))).heap.size = X := ⟨_, rfl⟩
            have hX : Blk ((((wn1).alloc (.cells (cells12 noTrip) 99))).alloc (.cells (cells12 noTrip) 99)) X 99 (cells12 noTrip) := by rw [← hXe]; exact blk_new _ _ _
            have hXle : B0 ≤ X := by rw [← hXe]; exact Nat.le_trans hBle.out hbn.size
            have hne : X ≠ Y := by have := blk_lt hY; rw [hXe] at this; omega
            replace hY := blk_on hY (box_below _ (.cells (cells12 noTrip) 99)) (blk_lt hY)
            replace hbn := hbn.alloc (Nat.le_trans hBle.out hbn.size) (.cells (cells12 noTrip) 99)
            (try simp only [World.size_alloc] at hXe)
            have HXE := Lib.hid hXe
            clear hXe
            refine hK.out _ _ ?_ (fun hHeld => ?_)
            · (try dsimp only); (first | exact hbn | exact hbn.drew)
            clear hK K
            (try rw [HXE.out])
            (try simp only [Act.put, List.setIfInBounds_toArray, List.set_cons_zero, List.set_cons_succ])
            refine wpAnyH_ready (rs := [3]) (by kernel_rfl) (by simp) ?_
            refine AllReadyH.cons rfl (fun K hK => ?_) AllReadyH.nil
            · go_simp
              refine (terms_calls _ _ _ _ _ _ _ _ _ _ _ _ _).mono ?_
              rintro e wn16 ⟨rfl, hbv⟩
              (try replace hbv := from_drew hbv)
              replace hbn := fb2 hbn hbv hBle.out
              replace hX := blk_on hX hbv (blk_lt hX)
              replace hY := blk_on hY hbv (blk_lt hY)
              clear hbv
              go_wp2_with fail
              refine hK.out _ _ ?_ (fun hHeld => ?_)
              · (try dsimp only); (first | exact hbn | exact hbn.drew)
              clear hK K
              (try simp only [Act.put, List.setIfInBounds_toArray, List.set_cons_zero, List.set_cons_succ])
              first
                | (obtain ⟨WW, hWW⟩ : ∃ WW, ((wn16).drewN 3) = WW := ⟨_, rfl⟩; rw [hWW]; have hX' : Blk WW X 99 (cells12 noTrip) := (by rw [← hWW]; exact hX); have hY' : Blk WW Y 99 (cells12 noTrip) := (by rw [← hWW]; exact hY); have hb' : Below B0 W0 WW := (by rw [← hWW]; exact drewN_below hbn 3); exact Eq.mp (by kernel_rfl) (KEY WW X Y ⟨hX', hY', hne, hXle, hYle, hb'⟩))
                | (obtain ⟨WW, hWW⟩ : ∃ WW, ((wn16).drewN 2) = WW := ⟨_, rfl⟩; rw [hWW]; have hX' : Blk WW X 99 (cells12 noTrip) := (by rw [← hWW]; exact hX); have hY' : Blk WW Y 99 (cells12 noTrip) := (by rw [← hWW]; exact hY); have hb' : Below B0 W0 WW := (by rw [← hWW]; exact drewN_below hbn 2); exact Eq.mp (by kernel_rfl) (KEY WW X Y ⟨hX', hY', hne, hXle, hYle, hb'⟩))
                | (obtain ⟨WW, hWW⟩ : ∃ WW, ((wn16).drew.drew) = WW := ⟨_, rfl⟩; rw [hWW]; have hX' : Blk WW X 99 (cells12 noTrip) := (by rw [← hWW]; exact hX); have hY' : Blk WW Y 99 (cells12 noTrip) := (by rw [← hWW]; exact hY); have hb' : Below B0 W0 WW := (by rw [← hWW]; exact hbn.drew.drew); exact Eq.mp (by kernel_rfl) (KEY WW X Y ⟨hX', hY', hne, hXle, hYle, hb'⟩))
                | (obtain ⟨WW, hWW⟩ : ∃ WW, ((wn16).drew) = WW := ⟨_, rfl⟩; rw [hWW]; have hX' : Blk WW X 99 (cells12 noTrip) := (by rw [← hWW]; exact hX); have hY' : Blk WW Y 99 (cells12 noTrip) := (by rw [← hWW]; exact hY); have hb' : Below B0 W0 WW := (by rw [← hWW]; exact hbn.drew); exact Eq.mp (by kernel_rfl) (KEY WW X Y ⟨hX', hY', hne, hXle, hYle, hb'⟩))
                | (obtain ⟨WW, hWW⟩ : ∃ WW, (wn16) = WW := ⟨_, rfl⟩; rw [hWW]; have hX' : Blk WW X 99 (cells12 noTrip) := (by rw [← hWW]; exact hX); have hY' : Blk WW Y 99 (cells12 noTrip) := (by rw [← hWW]; exact hY); have hb' : Below B0 W0 WW := (by rw [← hWW]; exact hbn); exact Eq.mp (by kernel_rfl) (KEY WW X Y ⟨hX', hY', hne, hXle, hYle, hb'⟩))
      · go_simp
        obtain ⟨X, hXe⟩ : ∃ X, (W0).heap.size = X := ⟨_, rfl⟩
        have hX : Blk ((W0).alloc (.cells (cells12 noTrip) 99)) X 99 (cells12 noTrip) := by rw [← hXe]; exact blk_new _ _ _
        have hXle : B0 ≤ X := by rw [← hXe]; exact Nat.le_trans hBle.out hbn.size
        replace hbn := hbn.alloc (Nat.le_trans hBle.out hbn.size) (.cells (cells12 noTrip) 99)
        (try simp only [World.size_alloc] at hXe)
        have HXE := Lib.hid hXe
        clear hXe
        refine hK.out _ _ ?_ (fun hHeld => ?_)
        · (try dsimp only); (first | exact hbn | exact hbn.drew)
        clear hK K
        (try rw [HXE.out])
        (try simp only [Act.put, List.setIfInBounds_toArray, List.set_cons_zero, List.set_cons_succ])
        refine wpAnyH_ready (rs := [1, 5]) (by kernel_rfl) (by simp) ?_
        refine AllReadyH.cons rfl (fun K hK => ?_) (AllReadyH.cons rfl (fun K hK => ?_) AllReadyH.nil)
        · go_simp
          refine (terms_calls _ _ _ _ _ _ _ _ _ _ _ _ _).mono ?_
          rintro e wn18 ⟨rfl, hbv⟩
          (try replace hbv := from_drew hbv)
          replace hbn := fb2 hbn hbv hBle.out
          replace hX := blk_on hX hbv (blk_lt hX)
          clear hbv
          go_wp2_with fail
          refine hK.out _ _ ?_ (fun hHeld => ?_)
          · (try dsimp only); (first | exact hbn | exact hbn.drew)
          clear hK K
          (try simp only [Act.put, List.setIfInBounds_toArray, List.set_cons_zero, List.set_cons_succ])
          refine wpAnyH_ready (rs := [3, 5]) (by kernel_rfl) (by simp) ?_
          refine AllReadyH.cons rfl (fun K hK => ?_) (AllReadyH.cons rfl (fun K hK => ?_) AllReadyH.nil)
          · go_simp
            refine (terms_calls _ _ _ _ _ _ _ _ _ _ _ _ _).mono ?_
            rintro e wn19 ⟨rfl, hbv⟩
            (try replace hbv := from_drew hbv)
            replace hbn := fb2 hbn hbv hBle.out
            replace hX := blk_on hX hbv (blk_lt hX)
            clear hbv
            go_wp2_with fail
            refine hK.out _ _ ?_ (fun hHeld => ?_)
            · (try dsimp only); (first | exact hbn | exact hbn.drew)
            clear hK K
            (try simp only [Act.put, List.setIfInBounds_toArray, List.set_cons_zero, List.set_cons_succ])
            refine wpAnyH_ready (rs := [5]) (by kernel_rfl) (by simp) ?_
            refine AllReadyH.cons rfl (fun K hK => ?_) AllReadyH.nil
            · go_simp
              obtain ⟨Y, hYe⟩ : ∃ Y, (wn19).heap.size = Y := ⟨_, rfl⟩
              have hY : Blk ((wn19).alloc (.cells (cells12 noTrip) 99)) Y 99 (cells12 noTrip) := by rw [← hYe]; exact blk_new _ _ _
              have hYle : B0 ≤ Y := by rw [← hYe]; exact Nat.le_trans hBle.out hbn.size
              have hne : X ≠ Y := by have := blk_lt hX; rw [hYe] at this; omega
              replace hX := blk_on hX (box_below _ (.cells (cells12 noTrip) 99)) (blk_lt hX)
              replace hbn := hbn.alloc (Nat.le_trans hBle.out hbn.size) (.cells (cells12 noTrip) 99)
              (try simp only [World.size_alloc] at hYe)
              have HYE := Lib.hid hYe
              clear hYe
              refine hK.out _ _ ?_ (fun hHeld => ?_)
              · (try dsimp only); (first | exact hbn | exact hbn.drew)
              clear hK K
              (try rw [HYE.out])
              (try simp only [Act.put, List.setIfInBounds_toArray, List.set_cons_zero, List.set_cons_succ])
              first
                | (obtain ⟨WW, hWW⟩ : ∃ WW, ((((wn19).alloc (.cells #[.int .i64 0, .string ⟨#[]⟩, .string ⟨#[]⟩, .string ⟨#[]⟩, .int .i64 0, .string ⟨#[]⟩, .string ⟨#[]⟩, .string ⟨#[]⟩, .int .i64 0, .string ⟨#[]⟩, .string ⟨#[]⟩, .string ⟨#[]⟩] 99))).drewN 3) = WW := ⟨_, rfl⟩; rw [hWW]; have hX' : Blk WW X 99 (cells12 noTrip) := (by rw [← hWW]; exact hX); have hY' : Blk WW Y 99 (cells12 noTrip) := (by rw [← hWW]; exact hY); have hb' : Below B0 W0 WW := (by rw [← hWW]; exact drewN_below hbn 3); exact Eq.mp (by kernel_rfl) (KEY WW X Y ⟨hX', hY', hne, hXle, hYle, hb'⟩))
                | (obtain ⟨WW, hWW⟩ : ∃ WW, ((((wn19).alloc (.cells #[.int .i64 0, .string ⟨#[]⟩, .string ⟨#[]⟩, .string ⟨#[]⟩, .int .i64 0, .string ⟨#[]⟩, .string ⟨#[]⟩, .string ⟨#[]⟩, .int .i64 0, .string ⟨#[]⟩, .string ⟨#[]⟩, .string ⟨#[]⟩] 99))).drewN 2) = WW := ⟨_, rfl⟩; rw [hWW]; have hX' : Blk WW X 99 (cells12 noTrip) := (by rw [← hWW]; exact hX); have hY' : Blk WW Y 99 (cells12 noTrip) := (by rw [← hWW]; exact hY); have hb' : Below B0 W0 WW := (by rw [← hWW]; exact drewN_below hbn 2); exact Eq.mp (by kernel_rfl) (KEY WW X Y ⟨hX', hY', hne, hXle, hYle, hb'⟩))
                | (obtain ⟨WW, hWW⟩ : ∃ WW, ((((wn19).alloc (.cells #[.int .i64 0, .string ⟨#[]⟩, .string ⟨#[]⟩, .string ⟨#[]⟩, .int .i64 0, .string ⟨#[]⟩, .string ⟨#[]⟩, .string ⟨#[]⟩, .int .i64 0, .string ⟨#[]⟩, .string ⟨#[]⟩, .string ⟨#[]⟩] 99))).drew.drew) = WW := ⟨_, rfl⟩; rw [hWW]; have hX' : Blk WW X 99 (cells12 noTrip) := (by rw [← hWW]; exact hX); have hY' : Blk WW Y 99 (cells12 noTrip) := (by rw [← hWW]; exact hY); have hb' : Below B0 W0 WW := (by rw [← hWW]; exact hbn.drew.drew); exact Eq.mp (by kernel_rfl) (KEY WW X Y ⟨hX', hY', hne, hXle, hYle, hb'⟩))
                | (obtain ⟨WW, hWW⟩ : ∃ WW, ((((wn19).alloc (.cells #[.int .i64 0, .string ⟨#[]⟩, .string ⟨#[]⟩, .string ⟨#[]⟩, .int .i64 0, .string ⟨#[]⟩, .string ⟨#[]⟩, .string ⟨#[]⟩, .int .i64 0, .string ⟨#[]⟩, .string ⟨#[]⟩, .string ⟨#[]⟩] 99))).drew) = WW := ⟨_, rfl⟩; rw [hWW]; have hX' : Blk WW X 99 (cells12 noTrip) := (by rw [← hWW]; exact hX); have hY' : Blk WW Y 99 (cells12 noTrip) := (by rw [← hWW]; exact hY); have hb' : Below B0 W0 WW := (by rw [← hWW]; exact hbn.drew); exact Eq.mp (by kernel_rfl) (KEY WW X Y ⟨hX', hY', hne, hXle, hYle, hb'⟩))
                | (obtain ⟨WW, hWW⟩ : ∃ WW, (((wn19).alloc (.cells #[.int .i64 0, .string ⟨#[]⟩, .string ⟨#[]⟩, .string ⟨#[]⟩, .int .i64 0, .string ⟨#[]⟩, .string ⟨#[]⟩, .string ⟨#[]⟩, .int .i64 0, .string ⟨#[]⟩, .string ⟨#[]⟩, .string ⟨#[]⟩] 99))) = WW := ⟨_, rfl⟩; rw [hWW]; have hX' : Blk WW X 99 (cells12 noTrip) := (by rw [← hWW]; exact hX); have hY' : Blk WW Y 99 (cells12 noTrip) := (by rw [← hWW]; exact hY); have hb' : Below B0 W0 WW := (by rw [← hWW]; exact hbn); exact Eq.mp (by kernel_rfl) (KEY WW X Y ⟨hX', hY', hne, hXle, hYle, hb'⟩))
          · go_simp
            obtain ⟨Y, hYe⟩ : ∃ Y, (wn18).heap.size = Y := ⟨_, rfl⟩
            have hY : Blk ((wn18).alloc (.cells (cells12 noTrip) 99)) Y 99 (cells12 noTrip) := by rw [← hYe]; exact blk_new _ _ _
            have hYle : B0 ≤ Y := by rw [← hYe]; exact Nat.le_trans hBle.out hbn.size
            have hne : X ≠ Y := by have := blk_lt hX; rw [hYe] at this; omega
            replace hX := blk_on hX (box_below _ (.cells (cells12 noTrip) 99)) (blk_lt hX)
            replace hbn := hbn.alloc (Nat.le_trans hBle.out hbn.size) (.cells (cells12 noTrip) 99)
            (try simp only [World.size_alloc] at hYe)
            have HYE := Lib.hid hYe
            clear hYe
            refine hK.out _ _ ?_ (fun hHeld => ?_)
            · (try dsimp only); (first | exact hbn | exact hbn.drew)
            clear hK K
            (try rw [HYE.out])
            (try simp only [Act.put, List.setIfInBounds_toArray, List.set_cons_zero, List.set_cons_succ])
            refine wpAnyH_ready (rs := [3]) (by kernel_rfl) (by simp) ?_
            refine AllReadyH.cons rfl (fun K hK => ?_) AllReadyH.nil
            · go_simp
              refine (terms_calls _ _ _ _ _ _ _ _ _ _ _ _ _).mono ?_
              rintro e wn22 ⟨rfl, hbv⟩
              (try replace hbv := from_drew hbv)
              replace hbn := fb2 hbn hbv hBle.out
              replace hX := blk_on hX hbv (blk_lt hX)
              replace hY := blk_on hY hbv (blk_lt hY)
              clear hbv
              go_wp2_with fail
              refine hK.out _ _ ?_ (fun hHeld => ?_)
              · (try dsimp only); (first | exact hbn | exact hbn.drew)
              clear hK K
              (try simp only [Act.put, List.setIfInBounds_toArray, List.set_cons_zero, List.set_cons_succ])
              first
                | (obtain ⟨WW, hWW⟩ : ∃ WW, ((wn22).drewN 3) = WW := ⟨_, rfl⟩; rw [hWW]; have hX' : Blk WW X 99 (cells12 noTrip) := (by rw [← hWW]; exact hX); have hY' : Blk WW Y 99 (cells12 noTrip) := (by rw [← hWW]; exact hY); have hb' : Below B0 W0 WW := (by rw [← hWW]; exact drewN_below hbn 3); exact Eq.mp (by kernel_rfl) (KEY WW X Y ⟨hX', hY', hne, hXle, hYle, hb'⟩))
                | (obtain ⟨WW, hWW⟩ : ∃ WW, ((wn22).drewN 2) = WW := ⟨_, rfl⟩; rw [hWW]; have hX' : Blk WW X 99 (cells12 noTrip) := (by rw [← hWW]; exact hX); have hY' : Blk WW Y 99 (cells12 noTrip) := (by rw [← hWW]; exact hY); have hb' : Below B0 W0 WW := (by rw [← hWW]; exact drewN_below hbn 2); exact Eq.mp (by kernel_rfl) (KEY WW X Y ⟨hX', hY', hne, hXle, hYle, hb'⟩))
                | (obtain ⟨WW, hWW⟩ : ∃ WW, ((wn22).drew.drew) = WW := ⟨_, rfl⟩; rw [hWW]; have hX' : Blk WW X 99 (cells12 noTrip) := (by rw [← hWW]; exact hX); have hY' : Blk WW Y 99 (cells12 noTrip) := (by rw [← hWW]; exact hY); have hb' : Below B0 W0 WW := (by rw [← hWW]; exact hbn.drew.drew); exact Eq.mp (by kernel_rfl) (KEY WW X Y ⟨hX', hY', hne, hXle, hYle, hb'⟩))
                | (obtain ⟨WW, hWW⟩ : ∃ WW, ((wn22).drew) = WW := ⟨_, rfl⟩; rw [hWW]; have hX' : Blk WW X 99 (cells12 noTrip) := (by rw [← hWW]; exact hX); have hY' : Blk WW Y 99 (cells12 noTrip) := (by rw [← hWW]; exact hY); have hb' : Below B0 W0 WW := (by rw [← hWW]; exact hbn.drew); exact Eq.mp (by kernel_rfl) (KEY WW X Y ⟨hX', hY', hne, hXle, hYle, hb'⟩))
                | (obtain ⟨WW, hWW⟩ : ∃ WW, (wn22) = WW := ⟨_, rfl⟩; rw [hWW]; have hX' : Blk WW X 99 (cells12 noTrip) := (by rw [← hWW]; exact hX); have hY' : Blk WW Y 99 (cells12 noTrip) := (by rw [← hWW]; exact hY); have hb' : Below B0 W0 WW := (by rw [← hWW]; exact hbn); exact Eq.mp (by kernel_rfl) (KEY WW X Y ⟨hX', hY', hne, hXle, hYle, hb'⟩))
        · go_simp
          obtain ⟨Y, hYe⟩ : ∃ Y, (((W0).alloc (.cells (cells12 noTrip) 99))).heap.size = Y := ⟨_, rfl⟩
          have hY : Blk ((((W0).alloc (.cells (cells12 noTrip) 99))).alloc (.cells (cells12 noTrip) 99)) Y 99 (cells12 noTrip) := by rw [← hYe]; exact blk_new _ _ _
          have hYle : B0 ≤ Y := by rw [← hYe]; exact Nat.le_trans hBle.out hbn.size
          have hne : X ≠ Y := by have := blk_lt hX; rw [hYe] at this; omega
          replace hX := blk_on hX (box_below _ (.cells (cells12 noTrip) 99)) (blk_lt hX)
          replace hbn := hbn.alloc (Nat.le_trans hBle.out hbn.size) (.cells (cells12 noTrip) 99)
          (try simp only [World.size_alloc] at hYe)
          have HYE := Lib.hid hYe
          clear hYe
          refine hK.out _ _ ?_ (fun hHeld => ?_)
          · (try dsimp only); (first | exact hbn | exact hbn.drew)
          clear hK K
          (try rw [HYE.out])
          (try simp only [Act.put, List.setIfInBounds_toArray, List.set_cons_zero, List.set_cons_succ])
          refine wpAnyH_ready (rs := [1]) (by kernel_rfl) (by simp) ?_
          refine AllReadyH.cons rfl (fun K hK => ?_) AllReadyH.nil
          · go_simp
            refine (terms_calls _ _ _ _ _ _ _ _ _ _ _ _ _).mono ?_
            rintro e wn24 ⟨rfl, hbv⟩
            (try replace hbv := from_drew hbv)
            replace hbn := fb2 hbn hbv hBle.out
            replace hX := blk_on hX hbv (blk_lt hX)
            replace hY := blk_on hY hbv (blk_lt hY)
            clear hbv
            go_wp2_with fail
            refine hK.out _ _ ?_ (fun hHeld => ?_)
            · (try dsimp only); (first | exact hbn | exact hbn.drew)
            clear hK K
            (try simp only [Act.put, List.setIfInBounds_toArray, List.set_cons_zero, List.set_cons_succ])
            refine wpAnyH_ready (rs := [3]) (by kernel_rfl) (by simp) ?_
            refine AllReadyH.cons rfl (fun K hK => ?_) AllReadyH.nil
            · go_simp
              refine (terms_calls _ _ _ _ _ _ _ _ _ _ _ _ _).mono ?_
              rintro e wn25 ⟨rfl, hbv⟩
              (try replace hbv := from_drew hbv)
              replace hbn := fb2 hbn hbv hBle.out
              replace hX := blk_on hX hbv (blk_lt hX)
              replace hY := blk_on hY hbv (blk_lt hY)
              clear hbv
              go_wp2_with fail
              refine hK.out _ _ ?_ (fun hHeld => ?_)
              · (try dsimp only); (first | exact hbn | exact hbn.drew)
              clear hK K
              (try simp only [Act.put, List.setIfInBounds_toArray, List.set_cons_zero, List.set_cons_succ])
              first
                | (obtain ⟨WW, hWW⟩ : ∃ WW, ((wn25).drewN 3) = WW := ⟨_, rfl⟩; rw [hWW]; have hX' : Blk WW X 99 (cells12 noTrip) := (by rw [← hWW]; exact hX); have hY' : Blk WW Y 99 (cells12 noTrip) := (by rw [← hWW]; exact hY); have hb' : Below B0 W0 WW := (by rw [← hWW]; exact drewN_below hbn 3); exact Eq.mp (by kernel_rfl) (KEY WW X Y ⟨hX', hY', hne, hXle, hYle, hb'⟩))
                | (obtain ⟨WW, hWW⟩ : ∃ WW, ((wn25).drewN 2) = WW := ⟨_, rfl⟩; rw [hWW]; have hX' : Blk WW X 99 (cells12 noTrip) := (by rw [← hWW]; exact hX); have hY' : Blk WW Y 99 (cells12 noTrip) := (by rw [← hWW]; exact hY); have hb' : Below B0 W0 WW := (by rw [← hWW]; exact drewN_below hbn 2); exact Eq.mp (by kernel_rfl) (KEY WW X Y ⟨hX', hY', hne, hXle, hYle, hb'⟩))
                | (obtain ⟨WW, hWW⟩ : ∃ WW, ((wn25).drew.drew) = WW := ⟨_, rfl⟩; rw [hWW]; have hX' : Blk WW X 99 (cells12 noTrip) := (by rw [← hWW]; exact hX); have hY' : Blk WW Y 99 (cells12 noTrip) := (by rw [← hWW]; exact hY); have hb' : Below B0 W0 WW := (by rw [← hWW]; exact hbn.drew.drew); exact Eq.mp (by kernel_rfl) (KEY WW X Y ⟨hX', hY', hne, hXle, hYle, hb'⟩))
                | (obtain ⟨WW, hWW⟩ : ∃ WW, ((wn25).drew) = WW := ⟨_, rfl⟩; rw [hWW]; have hX' : Blk WW X 99 (cells12 noTrip) := (by rw [← hWW]; exact hX); have hY' : Blk WW Y 99 (cells12 noTrip) := (by rw [← hWW]; exact hY); have hb' : Below B0 W0 WW := (by rw [← hWW]; exact hbn.drew); exact Eq.mp (by kernel_rfl) (KEY WW X Y ⟨hX', hY', hne, hXle, hYle, hb'⟩))
                | (obtain ⟨WW, hWW⟩ : ∃ WW, (wn25) = WW := ⟨_, rfl⟩; rw [hWW]; have hX' : Blk WW X 99 (cells12 noTrip) := (by rw [← hWW]; exact hX); have hY' : Blk WW Y 99 (cells12 noTrip) := (by rw [← hWW]; exact hY); have hb' : Below B0 W0 WW := (by rw [← hWW]; exact hbn); exact Eq.mp (by kernel_rfl) (KEY WW X Y ⟨hX', hY', hne, hXle, hYle, hb'⟩))
      · go_simp
        obtain ⟨Y, hYe⟩ : ∃ Y, (W0).heap.size = Y := ⟨_, rfl⟩
        have hY : Blk ((W0).alloc (.cells (cells12 noTrip) 99)) Y 99 (cells12 noTrip) := by rw [← hYe]; exact blk_new _ _ _
        have hYle : B0 ≤ Y := by rw [← hYe]; exact Nat.le_trans hBle.out hbn.size
        replace hbn := hbn.alloc (Nat.le_trans hBle.out hbn.size) (.cells (cells12 noTrip) 99)
        (try simp only [World.size_alloc] at hYe)
        have HYE := Lib.hid hYe
        clear hYe
        refine hK.out _ _ ?_ (fun hHeld => ?_)
        · (try dsimp only); (first | exact hbn | exact hbn.drew)
        clear hK K
        (try rw [HYE.out])
        (try simp only [Act.put, List.setIfInBounds_toArray, List.set_cons_zero, List.set_cons_succ])
        refine wpAnyH_ready (rs := [1, 4]) (by kernel_rfl) (by simp) ?_
        refine AllReadyH.cons rfl (fun K hK => ?_) (AllReadyH.cons rfl (fun K hK => ?_) AllReadyH.nil)
        · go_simp
          refine (terms_calls _ _ _ _ _ _ _ _ _ _ _ _ _).mono ?_
          rintro e wn27 ⟨rfl, hbv⟩
          (try replace hbv := from_drew hbv)
          replace hbn := fb2 hbn hbv hBle.out
          replace hY := blk_on hY hbv (blk_lt hY)
          clear hbv
          go_wp2_with fail
          refine hK.out _ _ ?_ (fun hHeld => ?_)
          · (try dsimp only); (first | exact hbn | exact hbn.drew)
          clear hK K
          (try simp only [Act.put, List.setIfInBounds_toArray, List.set_cons_zero, List.set_cons_succ])
          refine wpAnyH_ready (rs := [3, 4]) (by kernel_rfl) (by simp) ?_
          refine AllReadyH.cons rfl (fun K hK => ?_) (AllReadyH.cons rfl (fun K hK => ?_) AllReadyH.nil)
          · go_simp
            refine (terms_calls _ _ _ _ _ _ _ _ _ _ _ _ _).mono ?_
            rintro e wn28 ⟨rfl, hbv⟩
            (try replace hbv := from_drew hbv)
            replace hbn := fb2 hbn hbv hBle.out
            replace hY := blk_on hY hbv (blk_lt hY)
            clear hbv
            go_wp2_with fail
            refine hK.out _ _ ?_ (fun hHeld => ?_)
            · (try dsimp only); (first | exact hbn | exact hbn.drew)
            clear hK K
            (try simp only [Act.put, List.setIfInBounds_toArray, List.set_cons_zero, List.set_cons_succ])
            refine wpAnyH_ready (rs := [4]) (by kernel_rfl) (by simp) ?_
            refine AllReadyH.cons rfl (fun K hK => ?_) AllReadyH.nil
            · go_simp
              obtain ⟨X, hXe⟩ : ∃ X, (wn28).heap.size = X := ⟨_, rfl⟩
              have hX : Blk ((wn28).alloc (.cells (cells12 noTrip) 99)) X 99 (cells12 noTrip) := by rw [← hXe]; exact blk_new _ _ _
              have hXle : B0 ≤ X := by rw [← hXe]; exact Nat.le_trans hBle.out hbn.size
              have hne : X ≠ Y := by have := blk_lt hY; rw [hXe] at this; omega
              replace hY := blk_on hY (box_below _ (.cells (cells12 noTrip) 99)) (blk_lt hY)
              replace hbn := hbn.alloc (Nat.le_trans hBle.out hbn.size) (.cells (cells12 noTrip) 99)
              (try simp only [World.size_alloc] at hXe)
              have HXE := Lib.hid hXe
              clear hXe
              refine hK.out _ _ ?_ (fun hHeld => ?_)
              · (try dsimp only); (first | exact hbn | exact hbn.drew)
              clear hK K
              (try rw [HXE.out])
              (try simp only [Act.put, List.setIfInBounds_toArray, List.set_cons_zero, List.set_cons_succ])
              first
                | (obtain ⟨WW, hWW⟩ : ∃ WW, ((((wn28).alloc (.cells #[.int .i64 0, .string ⟨#[]⟩, .string ⟨#[]⟩, .string ⟨#[]⟩, .int .i64 0, .string ⟨#[]⟩, .string ⟨#[]⟩, .string ⟨#[]⟩, .int .i64 0, .string ⟨#[]⟩, .string ⟨#[]⟩, .string ⟨#[]⟩] 99))).drewN 3) = WW := ⟨_, rfl⟩; rw [hWW]; have hX' : Blk WW X 99 (cells12 noTrip) := (by rw [← hWW]; exact hX); have hY' : Blk WW Y 99 (cells12 noTrip) := (by rw [← hWW]; exact hY); have hb' : Below B0 W0 WW := (by rw [← hWW]; exact drewN_below hbn 3); exact Eq.mp (by kernel_rfl) (KEY WW X Y ⟨hX', hY', hne, hXle, hYle, hb'⟩))
                | (obtain ⟨WW, hWW⟩ : ∃ WW, ((((wn28).alloc (.cells #[.int .i64 0, .string ⟨#[]⟩, .string ⟨#[]⟩, .string ⟨#[]⟩, .int .i64 0, .string ⟨#[]⟩, .string ⟨#[]⟩, .string ⟨#[]⟩, .int .i64 0, .string ⟨#[]⟩, .string ⟨#[]⟩, .string ⟨#[]⟩] 99))).drewN 2) = WW := ⟨_, rfl⟩; rw [hWW]; have hX' : Blk WW X 99 (cells12 noTrip) := (by rw [← hWW]; exact hX); have hY' : Blk WW Y 99 (cells12 noTrip) := (by rw [← hWW]; exact hY); have hb' : Below B0 W0 WW := (by rw [← hWW]; exact drewN_below hbn 2); exact Eq.mp (by kernel_rfl) (KEY WW X Y ⟨hX', hY', hne, hXle, hYle, hb'⟩))
                | (obtain ⟨WW, hWW⟩ : ∃ WW, ((((wn28).alloc (.cells #[.int .i64 0, .string ⟨#[]⟩, .string ⟨#[]⟩, .string ⟨#[]⟩, .int .i64 0, .string ⟨#[]⟩, .string ⟨#[]⟩, .string ⟨#[]⟩, .int .i64 0, .string ⟨#[]⟩, .string ⟨#[]⟩, .string ⟨#[]⟩] 99))).drew.drew) = WW := ⟨_, rfl⟩; rw [hWW]; have hX' : Blk WW X 99 (cells12 noTrip) := (by rw [← hWW]; exact hX); have hY' : Blk WW Y 99 (cells12 noTrip) := (by rw [← hWW]; exact hY); have hb' : Below B0 W0 WW := (by rw [← hWW]; exact hbn.drew.drew); exact Eq.mp (by kernel_rfl) (KEY WW X Y ⟨hX', hY', hne, hXle, hYle, hb'⟩))
                | (obtain ⟨WW, hWW⟩ : ∃ WW, ((((wn28).alloc (.cells #[.int .i64 0, .string ⟨#[]⟩, .string ⟨#[]⟩, .string ⟨#[]⟩, .int .i64 0, .string ⟨#[]⟩, .string ⟨#[]⟩, .string ⟨#[]⟩, .int .i64 0, .string ⟨#[]⟩, .string ⟨#[]⟩, .string ⟨#[]⟩] 99))).drew) = WW := ⟨_, rfl⟩; rw [hWW]; have hX' : Blk WW X 99 (cells12 noTrip) := (by rw [← hWW]; exact hX); have hY' : Blk WW Y 99 (cells12 noTrip) := (by rw [← hWW]; exact hY); have hb' : Below B0 W0 WW := (by rw [← hWW]; exact hbn.drew); exact Eq.mp (by kernel_rfl) (KEY WW X Y ⟨hX', hY', hne, hXle, hYle, hb'⟩))
                | (obtain ⟨WW, hWW⟩ : ∃ WW, (((wn28).alloc (.cells #[.int .i64 0, .string ⟨#[]⟩, .string ⟨#[]⟩, .string ⟨#[]⟩, .int .i64 0, .string ⟨#[]⟩, .string ⟨#[]⟩, .string ⟨#[]⟩, .int .i64 0, .string ⟨#[]⟩, .string ⟨#[]⟩, .string ⟨#[]⟩] 99))) = WW := ⟨_, rfl⟩; rw [hWW]; have hX' : Blk WW X 99 (cells12 noTrip) := (by rw [← hWW]; exact hX); have hY' : Blk WW Y 99 (cells12 noTrip) := (by rw [← hWW]; exact hY); have hb' : Below B0 W0 WW := (by rw [← hWW]; exact hbn); exact Eq.mp (by kernel_rfl) (KEY WW X Y ⟨hX', hY', hne, hXle, hYle, hb'⟩))
          · go_simp
            obtain ⟨X, hXe⟩ : ∃ X, (wn27).heap.size = X := ⟨_, rfl⟩
            have hX : Blk ((wn27).alloc (.cells (cells12 noTrip) 99)) X 99 (cells12 noTrip) := by rw [← hXe]; exact blk_new _ _ _
            have hXle : B0 ≤ X := by rw [← hXe]; exact Nat.le_trans hBle.out hbn.size
            have hne : X ≠ Y := by have := blk_lt hY; rw [hXe] at this; omega
            replace hY := blk_on hY (box_below _ (.cells (cells12 noTrip) 99)) (blk_lt hY)
            replace hbn := hbn.alloc (Nat.le_trans hBle.out hbn.size) (.cells (cells12 noTrip) 99)
            (try simp only [World.size_alloc] at hXe)
            have HXE := Lib.hid hXe
            clear hXe
            refine hK.out _ _ ?_ (fun hHeld => ?_)
            · (try dsimp only); (first | exact hbn | exact hbn.drew)
            clear hK K
            (try rw [HXE.out])
            (try simp only [Act.put, List.setIfInBounds_toArray, List.set_cons_zero, List.set_cons_succ])
            refine wpAnyH_ready (rs := [3]) (by kernel_rfl) (by simp) ?_
            refine AllReadyH.cons rfl (fun K hK => ?_) AllReadyH.nil
            · go_simp
              refine (terms_calls _ _ _ _ _ _ _ _ _ _ _ _ _).mono ?_
              rintro e wn31 ⟨rfl, hbv⟩
              (try replace hbv := from_drew hbv)
              replace hbn := fb2 hbn hbv hBle.out
              replace hX := blk_on hX hbv (blk_lt hX)
              replace hY := blk_on hY hbv (blk_lt hY)
              clear hbv
              go_wp2_with fail
              refine hK.out _ _ ?_ (fun hHeld => ?_)
              · (try dsimp only); (first | exact hbn | exact hbn.drew)
              clear hK K
              (try simp only [Act.put, List.setIfInBounds_toArray, List.set_cons_zero, List.set_cons_succ])
              first
                | (obtain ⟨WW, hWW⟩ : ∃ WW, ((wn31).drewN 3) = WW := ⟨_, rfl⟩; rw [hWW]; have hX' : Blk WW X 99 (cells12 noTrip) := (by rw [← hWW]; exact hX); have hY' : Blk WW Y 99 (cells12 noTrip) := (by rw [← hWW]; exact hY); have hb' : Below B0 W0 WW := (by rw [← hWW]; exact drewN_below hbn 3); exact Eq.mp (by kernel_rfl) (KEY WW X Y ⟨hX', hY', hne, hXle, hYle, hb'⟩))
                | (obtain ⟨WW, hWW⟩ : ∃ WW, ((wn31).drewN 2) = WW := ⟨_, rfl⟩; rw [hWW]; have hX' : Blk WW X 99 (cells12 noTrip) := (by rw [← hWW]; exact hX); have hY' : Blk WW Y 99 (cells12 noTrip) := (by rw [← hWW]; exact hY); have hb' : Below B0 W0 WW := (by rw [← hWW]; exact drewN_below hbn 2); exact Eq.mp (by kernel_rfl) (KEY WW X Y ⟨hX', hY', hne, hXle, hYle, hb'⟩))
                | (obtain ⟨WW, hWW⟩ : ∃ WW, ((wn31).drew.drew) = WW := ⟨_, rfl⟩; rw [hWW]; have hX' : Blk WW X 99 (cells12 noTrip) := (by rw [← hWW]; exact hX); have hY' : Blk WW Y 99 (cells12 noTrip) := (by rw [← hWW]; exact hY); have hb' : Below B0 W0 WW := (by rw [← hWW]; exact hbn.drew.drew); exact Eq.mp (by kernel_rfl) (KEY WW X Y ⟨hX', hY', hne, hXle, hYle, hb'⟩))
                | (obtain ⟨WW, hWW⟩ : ∃ WW, ((wn31).drew) = WW := ⟨_, rfl⟩; rw [hWW]; have hX' : Blk WW X 99 (cells12 noTrip) := (by rw [← hWW]; exact hX); have hY' : Blk WW Y 99 (cells12 noTrip) := (by rw [← hWW]; exact hY); have hb' : Below B0 W0 WW := (by rw [← hWW]; exact hbn.drew); exact Eq.mp (by kernel_rfl) (KEY WW X Y ⟨hX', hY', hne, hXle, hYle, hb'⟩))
                | (obtain ⟨WW, hWW⟩ : ∃ WW, (wn31) = WW := ⟨_, rfl⟩; rw [hWW]; have hX' : Blk WW X 99 (cells12 noTrip) := (by rw [← hWW]; exact hX); have hY' : Blk WW Y 99 (cells12 noTrip) := (by rw [← hWW]; exact hY); have hb' : Below B0 W0 WW := (by rw [← hWW]; exact hbn); exact Eq.mp (by kernel_rfl) (KEY WW X Y ⟨hX', hY', hne, hXle, hYle, hb'⟩))
        · go_simp
          obtain ⟨X, hXe⟩ : ∃ X, (((W0).alloc (.cells (cells12 noTrip) 99))).heap.size = X := ⟨_, rfl⟩
          have hX : Blk ((((W0).alloc (.cells (cells12 noTrip) 99))).alloc (.cells (cells12 noTrip) 99)) X 99 (cells12 noTrip) := by rw [← hXe]; exact blk_new _ _ _
          have hXle : B0 ≤ X := by rw [← hXe]; exact Nat.le_trans hBle.out hbn.size
          have hne : X ≠ Y := by have := blk_lt hY; rw [hXe] at this; omega
          replace hY := blk_on hY (box_below _ (.cells (cells12 noTrip) 99)) (blk_lt hY)
          replace hbn := hbn.alloc (Nat.le_trans hBle.out hbn.size) (.cells (cells12 noTrip) 99)
          (try simp only [World.size_alloc] at hXe)
          have HXE := Lib.hid hXe
          clear hXe
          refine hK.out _ _ ?_ (fun hHeld => ?_)
          · (try dsimp only); (first | exact hbn | exact hbn.drew)
          clear hK K
          (try rw [HXE.out])
          (try simp only [Act.put, List.setIfInBounds_toArray, List.set_cons_zero, List.set_cons_succ])
          refine wpAnyH_ready (rs := [1]) (by kernel_rfl) (by simp) ?_
          refine AllReadyH.cons rfl (fun K hK => ?_) AllReadyH.nil
          · go_simp
            refine (terms_calls _ _ _ _ _ _ _ _ _ _ _ _ _).mono ?_
            rintro e wn33 ⟨rfl, hbv⟩
            (try replace hbv := from_drew hbv)
            replace hbn := fb2 hbn hbv hBle.out
            replace hX := blk_on hX hbv (blk_lt hX)
            replace hY := blk_on hY hbv (blk_lt hY)
            clear hbv
            go_wp2_with fail
            refine hK.out _ _ ?_ (fun hHeld => ?_)
            · (try dsimp only); (first | exact hbn | exact hbn.drew)
            clear hK K
            (try simp only [Act.put, List.setIfInBounds_toArray, List.set_cons_zero, List.set_cons_succ])
            refine wpAnyH_ready (rs := [3]) (by kernel_rfl) (by simp) ?_
            refine AllReadyH.cons rfl (fun K hK => ?_) AllReadyH.nil
            · go_simp
              refine (terms_calls _ _ _ _ _ _ _ _ _ _ _ _ _).mono ?_
              rintro e wn34 ⟨rfl, hbv⟩
              (try replace hbv := from_drew hbv)
              replace hbn := fb2 hbn hbv hBle.out
              replace hX := blk_on hX hbv (blk_lt hX)
              replace hY := blk_on hY hbv (blk_lt hY)
              clear hbv
              go_wp2_with fail
              refine hK.out _ _ ?_ (fun hHeld => ?_)
              · (try dsimp only); (first | exact hbn | exact hbn.drew)
              clear hK K
              (try simp only [Act.put, List.setIfInBounds_toArray, List.set_cons_zero, List.set_cons_succ])
              first
                | (obtain ⟨WW, hWW⟩ : ∃ WW, ((wn34).drewN 3) = WW := ⟨_, rfl⟩; rw [hWW]; have hX' : Blk WW X 99 (cells12 noTrip) := (by rw [← hWW]; exact hX); have hY' : Blk WW Y 99 (cells12 noTrip) := (by rw [← hWW]; exact hY); have hb' : Below B0 W0 WW := (by rw [← hWW]; exact drewN_below hbn 3); exact Eq.mp (by kernel_rfl) (KEY WW X Y ⟨hX', hY', hne, hXle, hYle, hb'⟩))
                | (obtain ⟨WW, hWW⟩ : ∃ WW, ((wn34).drewN 2) = WW := ⟨_, rfl⟩; rw [hWW]; have hX' : Blk WW X 99 (cells12 noTrip) := (by rw [← hWW]; exact hX); have hY' : Blk WW Y 99 (cells12 noTrip) := (by rw [← hWW]; exact hY); have hb' : Below B0 W0 WW := (by rw [← hWW]; exact drewN_below hbn 2); exact Eq.mp (by kernel_rfl) (KEY WW X Y ⟨hX', hY', hne, hXle, hYle, hb'⟩))
                | (obtain ⟨WW, hWW⟩ : ∃ WW, ((wn34).drew.drew) = WW := ⟨_, rfl⟩; rw [hWW]; have hX' : Blk WW X 99 (cells12 noTrip) := (by rw [← hWW]; exact hX); have hY' : Blk WW Y 99 (cells12 noTrip) := (by rw [← hWW]; exact hY); have hb' : Below B0 W0 WW := (by rw [← hWW]; exact hbn.drew.drew); exact Eq.mp (by kernel_rfl) (KEY WW X Y ⟨hX', hY', hne, hXle, hYle, hb'⟩))
                | (obtain ⟨WW, hWW⟩ : ∃ WW, ((wn34).drew) = WW := ⟨_, rfl⟩; rw [hWW]; have hX' : Blk WW X 99 (cells12 noTrip) := (by rw [← hWW]; exact hX); have hY' : Blk WW Y 99 (cells12 noTrip) := (by rw [← hWW]; exact hY); have hb' : Below B0 W0 WW := (by rw [← hWW]; exact hbn.drew); exact Eq.mp (by kernel_rfl) (KEY WW X Y ⟨hX', hY', hne, hXle, hYle, hb'⟩))
                | (obtain ⟨WW, hWW⟩ : ∃ WW, (wn34) = WW := ⟨_, rfl⟩; rw [hWW]; have hX' : Blk WW X 99 (cells12 noTrip) := (by rw [← hWW]; exact hX); have hY' : Blk WW Y 99 (cells12 noTrip) := (by rw [← hWW]; exact hY); have hb' : Below B0 W0 WW := (by rw [← hWW]; exact hbn); exact Eq.mp (by kernel_rfl) (KEY WW X Y ⟨hX', hY', hne, hXle, hYle, hb'⟩))
    case key =>
      rintro W X Y ⟨hX, hY, hne, hXle, hYle, hbn⟩
      refine wpAnyH_ready (rs := [6]) (by kernel_rfl) (by simp) ?_
      refine AllReadyH.cons rfl (fun K hK => ?_) AllReadyH.nil
      refine wp_store_row 99 (.tmp 5) (.tmp 8) rfl X #[.int .i64 ak, .string (bs ax), .string (bs ay), .string (bs az), .int .i64 bk, .string (bs bx), .string (bs by'), .string (bs bz), .int .i64 ck, .string (bs cx), .string (bs cy), .string (bs cz)] (by kernel_rfl) (by kernel_rfl) 99 (cells12 noTrip) (hX) (by kernel_rfl) rfl (by kernel_rfl) ?_
      replace hY := blk_row_other hY hne.symm #[.int .i64 ak, .string (bs ax), .string (bs ay), .string (bs az), .int .i64 bk, .string (bs bx), .string (bs by'), .string (bs bz), .int .i64 ck, .string (bs cx), .string (bs cy), .string (bs cz)]
      replace hX := blk_row hX #[.int .i64 ak, .string (bs ax), .string (bs ay), .string (bs az), .int .i64 bk, .string (bs bx), .string (bs by'), .string (bs bz), .int .i64 ck, .string (bs cx), .string (bs cy), .string (bs cz)]
      replace hbn := below_row hbn hXle #[.int .i64 ak, .string (bs ax), .string (bs ay), .string (bs az), .int .i64 bk, .string (bs bx), .string (bs by'), .string (bs bz), .int .i64 ck, .string (bs cx), .string (bs cy), .string (bs cz)]
      (try simp only [Act.put])
      refine hK.out _ _ ?_ (fun hHeld => ?_)
      · (try dsimp only); first | exact hbn | exact hbn.drew
      clear hK K
      refine wpAnyH_ready (rs := [7]) (by kernel_rfl) (by simp) ?_
      refine AllReadyH.cons rfl (fun K hK => ?_) AllReadyH.nil
      refine wp_store_row 99 (.tmp 6) (.tmp 10) rfl Y #[.int .i64 ak2, .string (bs ax2), .string (bs ay2), .string (bs az2), .int .i64 bk2, .string (bs bx2), .string (bs by2), .string (bs bz2), .int .i64 ck2, .string (bs cx2), .string (bs cy2), .string (bs cz2)] (by kernel_rfl) (by kernel_rfl) 99 (cells12 noTrip) (hY) (by kernel_rfl) rfl (by kernel_rfl) ?_
      replace hX := blk_row_other hX hne #[.int .i64 ak2, .string (bs ax2), .string (bs ay2), .string (bs az2), .int .i64 bk2, .string (bs bx2), .string (bs by2), .string (bs bz2), .int .i64 ck2, .string (bs cx2), .string (bs cy2), .string (bs cz2)]
      replace hY := blk_row hY #[.int .i64 ak2, .string (bs ax2), .string (bs ay2), .string (bs az2), .int .i64 bk2, .string (bs bx2), .string (bs by2), .string (bs bz2), .int .i64 ck2, .string (bs cx2), .string (bs cy2), .string (bs cz2)]
      replace hbn := below_row hbn hYle #[.int .i64 ak2, .string (bs ax2), .string (bs ay2), .string (bs az2), .int .i64 bk2, .string (bs bx2), .string (bs by2), .string (bs bz2), .int .i64 ck2, .string (bs cx2), .string (bs cy2), .string (bs cz2)]
      (try simp only [Act.put])
      refine hK.out _ _ ?_ (fun hHeld => ?_)
      · (try dsimp only); first | exact hbn | exact hbn.drew
      clear hK K
      refine wpAnyH_done (by kernel_rfl) ?_ _
      go_wp2_with fail
      go_meet
      exact ⟨X, Y, rfl, rfl, hX, hY, hb0.trans (by first | exact hbn.mono (by have := hx1.out; omega) | exact (hbn.mono (by have := hx1.out; omega)).drew)⟩
  case rest =>
    obtain ⟨X, Y, rfl, rfl, hX, hY, hb⟩ := hcut
    have q0 : wc.cell? ⟨X, 0, none⟩ = some (.int .i64 ak) := by rw [blk_cell hX]; rfl
    have q1 : wc.cell? ⟨X, 1, none⟩ = some (.string (bs ax)) := by rw [blk_cell hX]; rfl
    have q2 : wc.cell? ⟨X, 2, none⟩ = some (.string (bs ay)) := by rw [blk_cell hX]; rfl
    have q3 : wc.cell? ⟨X, 3, none⟩ = some (.string (bs az)) := by rw [blk_cell hX]; rfl
    have q4 : wc.cell? ⟨X, 4, none⟩ = some (.int .i64 bk) := by rw [blk_cell hX]; rfl
    have q5 : wc.cell? ⟨X, 5, none⟩ = some (.string (bs bx)) := by rw [blk_cell hX]; rfl
    have q6 : wc.cell? ⟨X, 6, none⟩ = some (.string (bs by')) := by rw [blk_cell hX]; rfl
    have q7 : wc.cell? ⟨X, 7, none⟩ = some (.string (bs bz)) := by rw [blk_cell hX]; rfl
    have q8 : wc.cell? ⟨X, 8, none⟩ = some (.int .i64 ck) := by rw [blk_cell hX]; rfl
    have q9 : wc.cell? ⟨X, 9, none⟩ = some (.string (bs cx)) := by rw [blk_cell hX]; rfl
    have q10 : wc.cell? ⟨X, 10, none⟩ = some (.string (bs cy)) := by rw [blk_cell hX]; rfl
    have q11 : wc.cell? ⟨X, 11, none⟩ = some (.string (bs cz)) := by rw [blk_cell hX]; rfl
    have r0 : wc.cell? ⟨Y, 0, none⟩ = some (.int .i64 ak2) := by rw [blk_cell hY]; rfl
    have r1 : wc.cell? ⟨Y, 1, none⟩ = some (.string (bs ax2)) := by rw [blk_cell hY]; rfl
    have r2 : wc.cell? ⟨Y, 2, none⟩ = some (.string (bs ay2)) := by rw [blk_cell hY]; rfl
    have r3 : wc.cell? ⟨Y, 3, none⟩ = some (.string (bs az2)) := by rw [blk_cell hY]; rfl
    have r4 : wc.cell? ⟨Y, 4, none⟩ = some (.int .i64 bk2) := by rw [blk_cell hY]; rfl
    have r5 : wc.cell? ⟨Y, 5, none⟩ = some (.string (bs bx2)) := by rw [blk_cell hY]; rfl
    have r6 : wc.cell? ⟨Y, 6, none⟩ = some (.string (bs by2)) := by rw [blk_cell hY]; rfl
    have r7 : wc.cell? ⟨Y, 7, none⟩ = some (.string (bs bz2)) := by rw [blk_cell hY]; rfl
    have r8 : wc.cell? ⟨Y, 8, none⟩ = some (.int .i64 ck2) := by rw [blk_cell hY]; rfl
    have r9 : wc.cell? ⟨Y, 9, none⟩ = some (.string (bs cx2)) := by rw [blk_cell hY]; rfl
    have r10 : wc.cell? ⟨Y, 10, none⟩ = some (.string (bs cy2)) := by rw [blk_cell hY]; rfl
    have r11 : wc.cell? ⟨Y, 11, none⟩ = some (.string (bs cz2)) := by rw [blk_cell hY]; rfl
    have heq := fun W => eq_arr ⟨⟨ak, ax, ay, az⟩, ⟨bk, bx, by', bz⟩, ⟨ck, cx, cy, cz⟩⟩ ⟨⟨ak2, ax2, ay2, az2⟩, ⟨bk2, bx2, by2, bz2⟩, ⟨ck2, cx2, cy2, cz2⟩⟩ W
    have HX := Lib.hid hX
    have HY := Lib.hid hY
    clear hX hY
    have heq' : ∀ W, (binOp .eql 99 (.agg #[.int .i64 ak, .string (bs ax), .string (bs ay), .string (bs az), .int .i64 bk, .string (bs bx), .string (bs by'), .string (bs bz), .int .i64 ck, .string (bs cx), .string (bs cy), .string (bs cz)]) (.agg #[.int .i64 ak2, .string (bs ax2), .string (bs ay2), .string (bs az2), .int .i64 bk2, .string (bs bx2), .string (bs by2), .string (bs bz2), .int .i64 ck2, .string (bs cx2), .string (bs cy2), .string (bs cz2)])).run Tryz.prog W = .ok (.bool (teqs ⟨⟨ak, ax, ay, az⟩, ⟨bk, bx, by', bz⟩, ⟨ck, cx, cy, cz⟩⟩ ⟨⟨ak2, ax2, ay2, az2⟩, ⟨bk2, bx2, by2, bz2⟩, ⟨ck2, cx2, cy2, cz2⟩⟩)) W := heq
    clear heq
    cases hq : teqs ⟨⟨ak, ax, ay, az⟩, ⟨bk, bx, by', bz⟩, ⟨ck, cx, cy, cz⟩⟩ ⟨⟨ak2, ax2, ay2, az2⟩, ⟨bk2, bx2, by2, bz2⟩, ⟨ck2, cx2, cy2, cz2⟩⟩ with
    | true =>
      have HZ := Lib.hid (teqs_cmp hq)
      rw [hq] at heq'
      clear hq
      go_wp2
      go_ret
      exact ⟨by rw [HZ.out]; rfl, hb⟩
    | false =>
      rw [hq] at heq'
      clear hq
      go_wp2_with fail
      refine wp_region_held_drew (S := (fun W => Below wc.heap.size wc W)) (by kernel_rfl) ?_ (fun hHeld => ?_)
      · (try dsimp only); first | exact Below.refl _ _ | exact (Below.refl _ _).drew
      refine wpAnyH_take (i := 0) (v := ?_) rfl (by kernel_rfl) (by kernel_rfl) (by kernel_rfl) (fun _ _ _ h => h) (Or.inl ⟨by rfl, ?_⟩) (by assumption) ?_
      rotate_left
      · (intro ww hSw; (try dsimp only at hSw); go_simp); (try with_reducible rfl)
      (try simp only [Act.put])
      refine wpAnyH_take (i := 1) (v := ?_) rfl (by kernel_rfl) (by kernel_rfl) (by kernel_rfl) (fun _ _ _ h => h) (Or.inl ⟨by rfl, ?_⟩) (by assumption) ?_
      rotate_left
      · (intro ww hSw; (try dsimp only at hSw); go_simp); (try with_reducible rfl)
      (try simp only [Act.put])
      refine wpAnyH_ready (rs := [2]) (by kernel_rfl) (by simp) ?_
      refine AllReadyH.cons rfl (fun K hK => ?_) AllReadyH.nil
      go_simp
      refine (CompareFunc_calls ⟨⟨ak, ax, ay, az⟩, ⟨bk, bx, by', bz⟩, ⟨ck, cx, cy, cz⟩⟩ ⟨⟨ak2, ax2, ay2, az2⟩, ⟨bk2, bx2, by2, bz2⟩, ⟨ck2, cx2, cy2, cz2⟩⟩ X Y _ (by first | exact HX.out | exact blkDrew HX.out) (by first | exact HY.out | exact blkDrew HY.out)).mono ?_
      rintro e w2 ⟨rfl, hbv⟩
      (try replace hbv := from_drew hbv)
      go_wp2_with fail
      refine hK.out _ _ ?_ (fun hHeld => ?_)
      · (try dsimp only); first | exact hbv | exact hbv.drew
      clear hK K
      (try simp only [Act.put, List.setIfInBounds_toArray, List.set_cons_zero, List.set_cons_succ])
      refine wpAnyH_take (i := 3) (oi := ⟨some 4, _, _, _, _, _⟩) (v := ?_) rfl (by kernel_rfl) (by kernel_rfl) (by kernel_rfl) (fun _ _ _ h => h) (Or.inl ⟨by rfl, ?_⟩) (by assumption) ?_
      rotate_left
      · (intro ww hSw; (try dsimp only at hSw); go_simp); (try with_reducible rfl)
      (try simp only [Act.put])
      refine wpAnyH_done (by kernel_rfl) ?_ _
      go_wp2
      go_ret
      exact ⟨rfl, hb.trans (by first | exact hbv.mono hb.size | exact (hbv.mono hb.size).drew)⟩

end Go.Proofs.YtnojdchodmogbaaGreat.Up
