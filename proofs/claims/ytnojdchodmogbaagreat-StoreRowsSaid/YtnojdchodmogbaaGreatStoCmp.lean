/- Which of two triples is ahead by n of their terms, from a place on and round: package store's terms and compare. -/
import Derived.Test.YtnojdchodmogbaaGreatStoUpCmp
import Derived.BigQuiet
namespace Go.Proofs.YtnojdchodmogbaaGreat
open Go.RowKit

set_option maxHeartbeats 400000 in
theorem sterms_calls (k : Int) (x y z : ByteArray) (k' : Int) (x' y' z' : ByteArray) (k'' : Int) (x'' y'' z'' : ByteArray) (w : World) :
    Calls Tryz.prog 67 #[.agg #[.int .i64 k, .string x, .string y, .string z, .int .i64 k', .string x', .string y', .string z', .int .i64 k'', .string x'', .string y'', .string z'']] w fun e w' => e = .returned (.agg #[.int .i64 k, .string x, .string y, .string z, .int .i64 k', .string x', .string y', .string z', .int .i64 k'', .string x'', .string y'', .string z'']) ∧ Below w.heap.size w w' := by
  go_enter Tryz.func67, Tryz.ntmps67
  go_wp2
  refine bodyPost_ret (v := .agg #[.int .i64 k, .string x, .string y, .string z, .int .i64 k', .string x', .string y', .string z', .int .i64 k'', .string x'', .string y'', .string z'']) (by simp [results, Tryz.results67, go_sem]) rfl ⟨rfl, ?_⟩
  exact two_alloc _ _ _

theorem fb2 {B : Nat} {W W' W'' : World} (h : Below B W W') (h' : Below W'.heap.size W' W'') (hB : B ≤ W.heap.size) : Below B W W'' := h.trans (h'.mono (Nat.le_trans hB h.size))
theorem drewN_below {B : Nat} {a w : World} (h : Below B a w) (n : Nat) : Below B a (w.drewN n) := ⟨h.os, h.tape, h.output, h.size, h.block⟩
theorem from_drewN {W W' : World} {n : Nat} (h : Below (W.drewN n).heap.size (W.drewN n) W') : Below W.heap.size W W' := (drewN_below (Below.refl W.heap.size W) n).trans h
theorem keptC {W W' : World} {B b o : Nat} {v : Value} (h : W.cell? ⟨b, o, none⟩ = some v) (hb : Below B W W') (hp : b < B) : W'.cell? ⟨b, o, none⟩ = some v := by rw [hb.cell (p := ⟨b, o, none⟩) hp]; exact h
theorem below_row {B : Nat} {a W : World} (h : Below B a W) {X : Nat} (hX : B ≤ X) (n : Array Value) : Below B a (W.setRow X n) :=
  ⟨h.os, h.tape, h.output, by simpa [World.setRow] using h.size, fun i hi => by rw [row_other W X n i (by omega)]; exact h.block i hi⟩
/- where the two arrays stand -/
def Placed (w : World) (t u : TripL) (a b : Value) (wx : World) : Prop := ∃ X Y : Nat, a = .pointer (some ⟨X, 0, none⟩) ∧ b = .pointer (some ⟨Y, 0, none⟩) ∧ Blk wx X 99 (cells12 t) ∧ Blk wx Y 99 (cells12 u) ∧ Below w.heap.size w wx

/- a term of an array of three, at a place that is not written out -/
theorem blk_at3 {W : World} {X : Nat} {T : TypeId} {t : TripL} (h : Blk W X T (cells12 t)) (m : Nat) (hm : m < 3) :
    W.cell? ⟨X, m * 4, none⟩ = some (.int .i64 (at3 t m).k) ∧ W.cell? ⟨X, m * 4 + 1, none⟩ = some (.string (bs (at3 t m).x)) ∧ W.cell? ⟨X, m * 4 + 2, none⟩ = some (.string (bs (at3 t m).y)) ∧ W.cell? ⟨X, m * 4 + 3, none⟩ = some (.string (bs (at3 t m).z)) := by
  rw [blk_cell h, blk_cell h, blk_cell h, blk_cell h]
  rcases (by omega : m = 0 ∨ m = 1 ∨ m = 2) with rfl | rfl | rfl <;> exact ⟨rfl, rfl, rfl, rfl⟩
theorem teq_ne {a b : TermL} (h : a ≠ b) : teq a b = false := by
  cases hq : teq a b with
  | false => rfl
  | true => exact absurd (teq_true hq) h
theorem neq_term (a b : TermL) (w : World) : (binOp .neq 27 a.v b.v).run Tryz.prog w = .ok (.bool (!teq a b)) w := by
  unfold TermL.v
  rw [run_neq_struct]
  have := eq_term 9998 a b w
  unfold TermL.v at this
  rw [this]; rfl
theorem eql_term (a b : TermL) (w : World) : (binOp .eql 27 a.v b.v).run Tryz.prog w = .ok (.bool (teq a b)) w := by
  unfold TermL.v
  rw [run_eql_struct]
  have := eq_term 9998 a b w
  unfold TermL.v at this
  rw [this]; rfl
theorem rem3 (f k m : Nat) (h : (f + k) % 3 = m) : Int.tmod ((f : Int) + (k : Int)) 3 = (m : Int) := by
  rw [Int.tmod_eq_emod_of_nonneg (by omega)]; omega
theorem cmpK_eq {a b : TripL} {f n k : Nat} (hk : k < n) (h : at3 a ((f + k) % 3) = at3 b ((f + k) % 3)) : cmpK a b (f + k) (n - k) = cmpK a b (f + (k + 1)) (n - (k + 1)) := by
  obtain ⟨j, hj⟩ : ∃ j, n - k = j + 1 := ⟨n - k - 1, by omega⟩
  rw [hj, cmpK_succ, if_neg (by rw [h, cmp_self]; simp), show n - (k + 1) = j by omega, Nat.add_assoc]
theorem cmpK_ne {a b : TripL} {f n k : Nat} (hk : k < n) (h : at3 a ((f + k) % 3) ≠ at3 b ((f + k) % 3)) : cmpK a b (f + k) (n - k) = (at3 a ((f + k) % 3)).cmp (at3 b ((f + k) % 3)) := by
  obtain ⟨j, hj⟩ : ∃ j, n - k = j + 1 := ⟨n - k - 1, by omega⟩
  rw [hj, cmpK_succ, if_pos (fun e => h (tcmp_zero e))]

set_option maxRecDepth 100000 in
set_option maxHeartbeats 8000000 in
theorem scompare_calls (a b : TripL) (f n : Nat) (hf : f ≤ 2) (hn : n ≤ 3) (w : World) :
    Calls Tryz.prog 60 #[a.v, b.v, .int .i64 f, .int .i64 n] w fun e w' => e = .returned (.int .i64 (cmpK a b f n)) ∧ Below w.heap.size w w' := by
  obtain ⟨a0, ha0⟩ : ∃ a0, a0 = a := ⟨_, rfl⟩
  obtain ⟨b0, hb0'⟩ : ∃ b0, b0 = b := ⟨_, rfl⟩
  obtain ⟨C, hC⟩ : ∃ C, cmpK a b f n = C := ⟨_, rfl⟩
  rw [hC]
  rw [← ha0, ← hb0'] at hC
  obtain ⟨⟨ak, ax, ay, az⟩, ⟨bk, bx, by', bz⟩, ⟨ck, cx, cy, cz⟩⟩ := a
  obtain ⟨⟨ak2, ax2, ay2, az2⟩, ⟨bk2, bx2, by2, bz2⟩, ⟨ck2, cx2, cy2, cz2⟩⟩ := b
  have HA := Lib.hid ha0
  have HB := Lib.hid hb0'
  have HC := Lib.hid hC
  clear ha0 hb0' hC
  simp only [TripL.v]
  go_enter Tryz.func60, Tryz.ntmps60
  go_upto_region 1 with fail
  go_cut [9, 10] (fun a b wx => Placed w ⟨⟨ak, ax, ay, az⟩, ⟨bk, bx, by', bz⟩, ⟨ck, cx, cy, cz⟩⟩ ⟨⟨ak2, ax2, ay2, az2⟩, ⟨bk2, bx2, by2, bz2⟩, ⟨ck2, cx2, cy2, cz2⟩⟩ a b wx)
  case first =>
    obtain ⟨W0, hW0⟩ : ∃ W0, (w.alloc (.cells #[.int .i64 ak, .string (bs ax), .string (bs ay), .string (bs az), .int .i64 bk, .string (bs bx), .string (bs by'), .string (bs bz), .int .i64 ck, .string (bs cx), .string (bs cy), .string (bs cz)] 29)).alloc (.cells #[.int .i64 ak2, .string (bs ax2), .string (bs ay2), .string (bs az2), .int .i64 bk2, .string (bs bx2), .string (bs by2), .string (bs bz2), .int .i64 ck2, .string (bs cx2), .string (bs cy2), .string (bs cz2)] 29) = W0 := ⟨_, rfl⟩
    rw [hW0]
    obtain ⟨B0, hB0⟩ : ∃ B0, W0.heap.size = B0 := ⟨_, rfl⟩
    have hx0 := Lib.hid (show w.heap.size < B0 by rw [← hB0, ← hW0]; simp; omega)
    have hx1 := Lib.hid (show w.heap.size + 1 < B0 by rw [← hB0, ← hW0]; simp)
    have hBle := Lib.hid (show B0 ≤ W0.heap.size by omega)
    clear hB0
    have hb0 : Below w.heap.size w W0 := by rw [← hW0]; exact two_alloc _ _ _
    have HC0 := Lib.hid (show W0.cell? ⟨w.heap.size, 0, none⟩ = some (.int .i64 ak) by rw [← hW0]; simp [go_sem])
    have HC1 := Lib.hid (show W0.cell? ⟨w.heap.size, 1, none⟩ = some (.string (bs ax)) by rw [← hW0]; simp [go_sem])
    have HC2 := Lib.hid (show W0.cell? ⟨w.heap.size, 2, none⟩ = some (.string (bs ay)) by rw [← hW0]; simp [go_sem])
    have HC3 := Lib.hid (show W0.cell? ⟨w.heap.size, 3, none⟩ = some (.string (bs az)) by rw [← hW0]; simp [go_sem])
    have HC4 := Lib.hid (show W0.cell? ⟨w.heap.size, 4, none⟩ = some (.int .i64 bk) by rw [← hW0]; simp [go_sem])
    have HC5 := Lib.hid (show W0.cell? ⟨w.heap.size, 5, none⟩ = some (.string (bs bx)) by rw [← hW0]; simp [go_sem])
    have HC6 := Lib.hid (show W0.cell? ⟨w.heap.size, 6, none⟩ = some (.string (bs by')) by rw [← hW0]; simp [go_sem])
    have HC7 := Lib.hid (show W0.cell? ⟨w.heap.size, 7, none⟩ = some (.string (bs bz)) by rw [← hW0]; simp [go_sem])
    have HC8 := Lib.hid (show W0.cell? ⟨w.heap.size, 8, none⟩ = some (.int .i64 ck) by rw [← hW0]; simp [go_sem])
    have HC9 := Lib.hid (show W0.cell? ⟨w.heap.size, 9, none⟩ = some (.string (bs cx)) by rw [← hW0]; simp [go_sem])
    have HC10 := Lib.hid (show W0.cell? ⟨w.heap.size, 10, none⟩ = some (.string (bs cy)) by rw [← hW0]; simp [go_sem])
    have HC11 := Lib.hid (show W0.cell? ⟨w.heap.size, 11, none⟩ = some (.string (bs cz)) by rw [← hW0]; simp [go_sem])
    have HC12 := Lib.hid (show W0.cell? ⟨w.heap.size + 1, 0, none⟩ = some (.int .i64 ak2) by rw [← hW0]; simp [go_sem])
    have HC13 := Lib.hid (show W0.cell? ⟨w.heap.size + 1, 1, none⟩ = some (.string (bs ax2)) by rw [← hW0]; simp [go_sem])
    have HC14 := Lib.hid (show W0.cell? ⟨w.heap.size + 1, 2, none⟩ = some (.string (bs ay2)) by rw [← hW0]; simp [go_sem])
    have HC15 := Lib.hid (show W0.cell? ⟨w.heap.size + 1, 3, none⟩ = some (.string (bs az2)) by rw [← hW0]; simp [go_sem])
    have HC16 := Lib.hid (show W0.cell? ⟨w.heap.size + 1, 4, none⟩ = some (.int .i64 bk2) by rw [← hW0]; simp [go_sem])
    have HC17 := Lib.hid (show W0.cell? ⟨w.heap.size + 1, 5, none⟩ = some (.string (bs bx2)) by rw [← hW0]; simp [go_sem])
    have HC18 := Lib.hid (show W0.cell? ⟨w.heap.size + 1, 6, none⟩ = some (.string (bs by2)) by rw [← hW0]; simp [go_sem])
    have HC19 := Lib.hid (show W0.cell? ⟨w.heap.size + 1, 7, none⟩ = some (.string (bs bz2)) by rw [← hW0]; simp [go_sem])
    have HC20 := Lib.hid (show W0.cell? ⟨w.heap.size + 1, 8, none⟩ = some (.int .i64 ck2) by rw [← hW0]; simp [go_sem])
    have HC21 := Lib.hid (show W0.cell? ⟨w.heap.size + 1, 9, none⟩ = some (.string (bs cx2)) by rw [← hW0]; simp [go_sem])
    have HC22 := Lib.hid (show W0.cell? ⟨w.heap.size + 1, 10, none⟩ = some (.string (bs cy2)) by rw [← hW0]; simp [go_sem])
    have HC23 := Lib.hid (show W0.cell? ⟨w.heap.size + 1, 11, none⟩ = some (.string (bs cz2)) by rw [← hW0]; simp [go_sem])
    clear hW0
    have hbn : Below B0 W0 W0 := Below.refl _ _
    refine wp_region_held_drew (S := (fun W => Below B0 W0 W)) (by kernel_rfl) ?_ (fun hHeld => ?_)
    · (try dsimp only); first | exact hbn | exact hbn.drew
    refine wpAnyH_take (i := 0) (v := ?_) rfl (by kernel_rfl) (by kernel_rfl) (by kernel_rfl) (fun _ _ _ h => h) (Or.inl ⟨by kernel_rfl, ?_⟩) (by assumption) ?_
    rotate_left
    · (intro ww hSw; (try dsimp only at hSw); have c0 := keptC HC0.out hSw hx0.out; have c1 := keptC HC1.out hSw hx0.out; have c2 := keptC HC2.out hSw hx0.out; have c3 := keptC HC3.out hSw hx0.out; have c4 := keptC HC4.out hSw hx0.out; have c5 := keptC HC5.out hSw hx0.out; have c6 := keptC HC6.out hSw hx0.out; have c7 := keptC HC7.out hSw hx0.out; have c8 := keptC HC8.out hSw hx0.out; have c9 := keptC HC9.out hSw hx0.out; have c10 := keptC HC10.out hSw hx0.out; have c11 := keptC HC11.out hSw hx0.out; go_simp); (try with_reducible rfl)
    (try simp only [Act.put])
    refine wpAnyH_take (i := 2) (v := ?_) rfl (by kernel_rfl) (by kernel_rfl) (by kernel_rfl) (fun _ _ _ h => h) (Or.inl ⟨by kernel_rfl, ?_⟩) (by assumption) ?_
    rotate_left
    · (intro ww hSw; (try dsimp only at hSw); have c0 := keptC HC12.out hSw hx1.out; have c1 := keptC HC13.out hSw hx1.out; have c2 := keptC HC14.out hSw hx1.out; have c3 := keptC HC15.out hSw hx1.out; have c4 := keptC HC16.out hSw hx1.out; have c5 := keptC HC17.out hSw hx1.out; have c6 := keptC HC18.out hSw hx1.out; have c7 := keptC HC19.out hSw hx1.out; have c8 := keptC HC20.out hSw hx1.out; have c9 := keptC HC21.out hSw hx1.out; have c10 := keptC HC22.out hSw hx1.out; have c11 := keptC HC23.out hSw hx1.out; go_simp); (try with_reducible rfl)
    (try simp only [Act.put])
    apply fork (Hyp := fun W X Y => Blk W X 99 (cells12 noTrip) ∧ Blk W Y 99 (cells12 noTrip) ∧ X ≠ Y ∧ B0 ≤ X ∧ B0 ≤ Y ∧ Below B0 W0 W)
    case main =>
      intro KEY
      refine wpAnyH_ready (rs := [1, 4, 5]) (by kernel_rfl) (by simp) ?_
      refine AllReadyH.cons rfl (fun K hK => ?_) (AllReadyH.cons rfl (fun K hK => ?_) (AllReadyH.cons rfl (fun K hK => ?_) AllReadyH.nil))
      · go_simp
        refine (sterms_calls _ _ _ _ _ _ _ _ _ _ _ _ _).mono ?_
        rintro e wn1 ⟨rfl, hbv⟩
        (try replace hbv := from_drew hbv)
        replace hbn := fb2 hbn hbv hBle.out
        clear hbv
        go_wp2_with fail
        refine hK.out _ _ ?_ (fun hHeld => ?_)
        · (try dsimp only); (first | exact hbn | exact hbn.drew)
        clear hK K
        (try simp only [Act.put, List.setIfInBounds_toArray, List.set_cons_zero, List.set_cons_succ])
        refine wpAnyH_ready (rs := [3, 4, 5]) (by kernel_rfl) (by simp) ?_
        refine AllReadyH.cons rfl (fun K hK => ?_) (AllReadyH.cons rfl (fun K hK => ?_) (AllReadyH.cons rfl (fun K hK => ?_) AllReadyH.nil))
        · go_simp
          refine (sterms_calls _ _ _ _ _ _ _ _ _ _ _ _ _).mono ?_
          rintro e wn2 ⟨rfl, hbv⟩
          (try replace hbv := from_drew hbv)
          replace hbn := fb2 hbn hbv hBle.out
          clear hbv
          go_wp2_with fail
          refine hK.out _ _ ?_ (fun hHeld => ?_)
          · (try dsimp only); (first | exact hbn | exact hbn.drew)
          clear hK K
          (try simp only [Act.put, List.setIfInBounds_toArray, List.set_cons_zero, List.set_cons_succ])
          refine wpAnyH_ready (rs := [4, 5]) (by kernel_rfl) (by simp) ?_
          refine AllReadyH.cons rfl (fun K hK => ?_) (AllReadyH.cons rfl (fun K hK => ?_) AllReadyH.nil)
          · go_simp
            obtain ⟨X, hXe⟩ : ∃ X, (wn2).heap.size = X := ⟨_, rfl⟩
            have hX : Blk ((wn2).alloc (.cells (cells12 noTrip) 99)) X 99 (cells12 noTrip) := by rw [← hXe]; exact blk_new _ _ _
            have hXle : B0 ≤ X := by rw [← hXe]; exact Nat.le_trans hBle.out hbn.size
            replace hbn := hbn.alloc (Nat.le_trans hBle.out hbn.size) (.cells (cells12 noTrip) 99)
            (try simp only [World.size_alloc] at hXe)
            have HXE := Lib.hid hXe
            clear hXe
            refine hK.out _ _ ?_ (fun hHeld => ?_)
            · (try dsimp only); (first | exact hbn | exact hbn.drew)
            clear hK K
            (try rw [HXE.out])
            (try simp only [Act.put, List.setIfInBounds_toArray, List.set_cons_zero, List.set_cons_succ])
            refine wpAnyH_ready (rs := [5]) (by kernel_rfl) (by simp) ?_
            refine AllReadyH.cons rfl (fun K hK => ?_) AllReadyH.nil
            · go_simp
              obtain ⟨Y, hYe⟩ : ∃ Y, (((wn2).alloc (.cells (cells12 noTrip) 99))).heap.size = Y := ⟨_, rfl⟩
              have hY : Blk ((((wn2).alloc (.cells (cells12 noTrip) 99))).alloc (.cells (cells12 noTrip) 99)) Y 99 (cells12 noTrip) := by rw [← hYe]; exact blk_new _ _ _
              have hYle : B0 ≤ Y := by rw [← hYe]; exact Nat.le_trans hBle.out hbn.size
              have hne : X ≠ Y := by have := blk_lt hX; rw [hYe] at this; omega
              replace hX := blk_on hX (box_below _ (.cells (cells12 noTrip) 99)) (blk_lt hX)
              replace hbn := hbn.alloc (Nat.le_trans hBle.out hbn.size) (.cells (cells12 noTrip) 99)
              (try simp only [World.size_alloc] at hYe)
              have HYE := Lib.hid hYe
              clear hYe
              refine hK.out _ _ ?_ (fun hHeld => ?_)
              · (try dsimp only); (first | exact hbn | exact hbn.drew)
              clear hK K
              (try rw [HYE.out])
              (try simp only [Act.put, List.setIfInBounds_toArray, List.set_cons_zero, List.set_cons_succ])
              first
                | (obtain ⟨WW, hWW⟩ : ∃ WW, ((((((wn2).alloc (.cells #[.int .i64 0, .string ⟨#[]⟩, .string ⟨#[]⟩, .string ⟨#[]⟩, .int .i64 0, .string ⟨#[]⟩, .string ⟨#[]⟩, .string ⟨#[]⟩, .int .i64 0, .string ⟨#[]⟩, .string ⟨#[]⟩, .string ⟨#[]⟩] 99))).alloc (.cells #[.int .i64 0, .string ⟨#[]⟩, .string ⟨#[]⟩, .string ⟨#[]⟩, .int .i64 0, .string ⟨#[]⟩, .string ⟨#[]⟩, .string ⟨#[]⟩, .int .i64 0, .string ⟨#[]⟩, .string ⟨#[]⟩, .string ⟨#[]⟩] 99))).drewN 3) = WW := ⟨_, rfl⟩; rw [hWW]; have hX' : Blk WW X 99 (cells12 noTrip) := (by rw [← hWW]; exact hX); have hY' : Blk WW Y 99 (cells12 noTrip) := (by rw [← hWW]; exact hY); have hb' : Below B0 W0 WW := (by rw [← hWW]; exact drewN_below hbn 3); exact KEY WW X Y ⟨hX', hY', hne, hXle, hYle, hb'⟩)
                | (obtain ⟨WW, hWW⟩ : ∃ WW, ((((((wn2).alloc (.cells #[.int .i64 0, .string ⟨#[]⟩, .string ⟨#[]⟩, .string ⟨#[]⟩, .int .i64 0, .string ⟨#[]⟩, .string ⟨#[]⟩, .string ⟨#[]⟩, .int .i64 0, .string ⟨#[]⟩, .string ⟨#[]⟩, .string ⟨#[]⟩] 99))).alloc (.cells #[.int .i64 0, .string ⟨#[]⟩, .string ⟨#[]⟩, .string ⟨#[]⟩, .int .i64 0, .string ⟨#[]⟩, .string ⟨#[]⟩, .string ⟨#[]⟩, .int .i64 0, .string ⟨#[]⟩, .string ⟨#[]⟩, .string ⟨#[]⟩] 99))).drewN 2) = WW := ⟨_, rfl⟩; rw [hWW]; have hX' : Blk WW X 99 (cells12 noTrip) := (by rw [← hWW]; exact hX); have hY' : Blk WW Y 99 (cells12 noTrip) := (by rw [← hWW]; exact hY); have hb' : Below B0 W0 WW := (by rw [← hWW]; exact drewN_below hbn 2); exact KEY WW X Y ⟨hX', hY', hne, hXle, hYle, hb'⟩)
                | (obtain ⟨WW, hWW⟩ : ∃ WW, ((((((wn2).alloc (.cells #[.int .i64 0, .string ⟨#[]⟩, .string ⟨#[]⟩, .string ⟨#[]⟩, .int .i64 0, .string ⟨#[]⟩, .string ⟨#[]⟩, .string ⟨#[]⟩, .int .i64 0, .string ⟨#[]⟩, .string ⟨#[]⟩, .string ⟨#[]⟩] 99))).alloc (.cells #[.int .i64 0, .string ⟨#[]⟩, .string ⟨#[]⟩, .string ⟨#[]⟩, .int .i64 0, .string ⟨#[]⟩, .string ⟨#[]⟩, .string ⟨#[]⟩, .int .i64 0, .string ⟨#[]⟩, .string ⟨#[]⟩, .string ⟨#[]⟩] 99))).drew.drew) = WW := ⟨_, rfl⟩; rw [hWW]; have hX' : Blk WW X 99 (cells12 noTrip) := (by rw [← hWW]; exact hX); have hY' : Blk WW Y 99 (cells12 noTrip) := (by rw [← hWW]; exact hY); have hb' : Below B0 W0 WW := (by rw [← hWW]; exact hbn.drew.drew); exact KEY WW X Y ⟨hX', hY', hne, hXle, hYle, hb'⟩)
                | (obtain ⟨WW, hWW⟩ : ∃ WW, ((((((wn2).alloc (.cells #[.int .i64 0, .string ⟨#[]⟩, .string ⟨#[]⟩, .string ⟨#[]⟩, .int .i64 0, .string ⟨#[]⟩, .string ⟨#[]⟩, .string ⟨#[]⟩, .int .i64 0, .string ⟨#[]⟩, .string ⟨#[]⟩, .string ⟨#[]⟩] 99))).alloc (.cells #[.int .i64 0, .string ⟨#[]⟩, .string ⟨#[]⟩, .string ⟨#[]⟩, .int .i64 0, .string ⟨#[]⟩, .string ⟨#[]⟩, .string ⟨#[]⟩, .int .i64 0, .string ⟨#[]⟩, .string ⟨#[]⟩, .string ⟨#[]⟩] 99))).drew) = WW := ⟨_, rfl⟩; rw [hWW]; have hX' : Blk WW X 99 (cells12 noTrip) := (by rw [← hWW]; exact hX); have hY' : Blk WW Y 99 (cells12 noTrip) := (by rw [← hWW]; exact hY); have hb' : Below B0 W0 WW := (by rw [← hWW]; exact hbn.drew); exact KEY WW X Y ⟨hX', hY', hne, hXle, hYle, hb'⟩)
                | (obtain ⟨WW, hWW⟩ : ∃ WW, (((((wn2).alloc (.cells #[.int .i64 0, .string ⟨#[]⟩, .string ⟨#[]⟩, .string ⟨#[]⟩, .int .i64 0, .string ⟨#[]⟩, .string ⟨#[]⟩, .string ⟨#[]⟩, .int .i64 0, .string ⟨#[]⟩, .string ⟨#[]⟩, .string ⟨#[]⟩] 99))).alloc (.cells #[.int .i64 0, .string ⟨#[]⟩, .string ⟨#[]⟩, .string ⟨#[]⟩, .int .i64 0, .string ⟨#[]⟩, .string ⟨#[]⟩, .string ⟨#[]⟩, .int .i64 0, .string ⟨#[]⟩, .string ⟨#[]⟩, .string ⟨#[]⟩] 99))) = WW := ⟨_, rfl⟩; rw [hWW]; have hX' : Blk WW X 99 (cells12 noTrip) := (by rw [← hWW]; exact hX); have hY' : Blk WW Y 99 (cells12 noTrip) := (by rw [← hWW]; exact hY); have hb' : Below B0 W0 WW := (by rw [← hWW]; exact hbn); exact KEY WW X Y ⟨hX', hY', hne, hXle, hYle, hb'⟩)
          · go_simp
            obtain ⟨Y, hYe⟩ : ∃ Y, (wn2).heap.size = Y := ⟨_, rfl⟩
            have hY : Blk ((wn2).alloc (.cells (cells12 noTrip) 99)) Y 99 (cells12 noTrip) := by rw [← hYe]; exact blk_new _ _ _
            have hYle : B0 ≤ Y := by rw [← hYe]; exact Nat.le_trans hBle.out hbn.size
            replace hbn := hbn.alloc (Nat.le_trans hBle.out hbn.size) (.cells (cells12 noTrip) 99)
            (try simp only [World.size_alloc] at hYe)
            have HYE := Lib.hid hYe
            clear hYe
            refine hK.out _ _ ?_ (fun hHeld => ?_)
            · (try dsimp only); (first | exact hbn | exact hbn.drew)
            clear hK K
            (try rw [HYE.out])
            (try simp only [Act.put, List.setIfInBounds_toArray, List.set_cons_zero, List.set_cons_succ])
            refine wpAnyH_ready (rs := [4]) (by kernel_rfl) (by simp) ?_
            refine AllReadyH.cons rfl (fun K hK => ?_) AllReadyH.nil
            · go_simp
              obtain ⟨X, hXe⟩ : ∃ X, (((wn2).alloc (.cells (cells12 noTrip) 99))).heap.size = X := ⟨_, rfl⟩
              have hX : Blk ((((wn2).alloc (.cells (cells12 noTrip) 99))).alloc (.cells (cells12 noTrip) 99)) X 99 (cells12 noTrip) := by rw [← hXe]; exact blk_new _ _ _
              have hXle : B0 ≤ X := by rw [← hXe]; exact Nat.le_trans hBle.out hbn.size
              have hne : X ≠ Y := by have := blk_lt hY; rw [hXe] at this; omega
              replace hY := blk_on hY (box_below _ (.cells (cells12 noTrip) 99)) (blk_lt hY)
              replace hbn := hbn.alloc (Nat.le_trans hBle.out hbn.size) (.cells (cells12 noTrip) 99)
              (try simp only [World.size_alloc] at hXe)
              have HXE := Lib.hid hXe
              clear hXe
              refine hK.out _ _ ?_ (fun hHeld => ?_)
              · (try dsimp only); (first | exact hbn | exact hbn.drew)
              clear hK K
              (try rw [HXE.out])
              (try simp only [Act.put, List.setIfInBounds_toArray, List.set_cons_zero, List.set_cons_succ])
              first
                | (obtain ⟨WW, hWW⟩ : ∃ WW, ((((((wn2).alloc (.cells #[.int .i64 0, .string ⟨#[]⟩, .string ⟨#[]⟩, .string ⟨#[]⟩, .int .i64 0, .string ⟨#[]⟩, .string ⟨#[]⟩, .string ⟨#[]⟩, .int .i64 0, .string ⟨#[]⟩, .string ⟨#[]⟩, .string ⟨#[]⟩] 99))).alloc (.cells #[.int .i64 0, .string ⟨#[]⟩, .string ⟨#[]⟩, .string ⟨#[]⟩, .int .i64 0, .string ⟨#[]⟩, .string ⟨#[]⟩, .string ⟨#[]⟩, .int .i64 0, .string ⟨#[]⟩, .string ⟨#[]⟩, .string ⟨#[]⟩] 99))).drewN 3) = WW := ⟨_, rfl⟩; rw [hWW]; have hX' : Blk WW X 99 (cells12 noTrip) := (by rw [← hWW]; exact hX); have hY' : Blk WW Y 99 (cells12 noTrip) := (by rw [← hWW]; exact hY); have hb' : Below B0 W0 WW := (by rw [← hWW]; exact drewN_below hbn 3); exact Eq.mp (by kernel_rfl) (KEY WW X Y ⟨hX', hY', hne, hXle, hYle, hb'⟩))
                | (obtain ⟨WW, hWW⟩ : ∃ WW, ((((((wn2).alloc (.cells #[.int .i64 0, .string ⟨#[]⟩, .string ⟨#[]⟩, .string ⟨#[]⟩, .int .i64 0, .string ⟨#[]⟩, .string ⟨#[]⟩, .string ⟨#[]⟩, .int .i64 0, .string ⟨#[]⟩, .string ⟨#[]⟩, .string ⟨#[]⟩] 99))).alloc (.cells #[.int .i64 0, .string ⟨#[]⟩, .string ⟨#[]⟩, .string ⟨#[]⟩, .int .i64 0, .string ⟨#[]⟩, .string ⟨#[]⟩, .string ⟨#[]⟩, .int .i64 0, .string ⟨#[]⟩, .string ⟨#[]⟩, .string ⟨#[]⟩] 99))).drewN 2) = WW := ⟨_, rfl⟩; rw [hWW]; have hX' : Blk WW X 99 (cells12 noTrip) := (by rw [← hWW]; exact hX); have hY' : Blk WW Y 99 (cells12 noTrip) := (by rw [← hWW]; exact hY); have hb' : Below B0 W0 WW := (by rw [← hWW]; exact drewN_below hbn 2); exact Eq.mp (by kernel_rfl) (KEY WW X Y ⟨hX', hY', hne, hXle, hYle, hb'⟩))
                | (obtain ⟨WW, hWW⟩ : ∃ WW, ((((((wn2).alloc (.cells #[.int .i64 0, .string ⟨#[]⟩, .string ⟨#[]⟩, .string ⟨#[]⟩, .int .i64 0, .string ⟨#[]⟩, .string ⟨#[]⟩, .string ⟨#[]⟩, .int .i64 0, .string ⟨#[]⟩, .string ⟨#[]⟩, .string ⟨#[]⟩] 99))).alloc (.cells #[.int .i64 0, .string ⟨#[]⟩, .string ⟨#[]⟩, .string ⟨#[]⟩, .int .i64 0, .string ⟨#[]⟩, .string ⟨#[]⟩, .string ⟨#[]⟩, .int .i64 0, .string ⟨#[]⟩, .string ⟨#[]⟩, .string ⟨#[]⟩] 99))).drew.drew) = WW := ⟨_, rfl⟩; rw [hWW]; have hX' : Blk WW X 99 (cells12 noTrip) := (by rw [← hWW]; exact hX); have hY' : Blk WW Y 99 (cells12 noTrip) := (by rw [← hWW]; exact hY); have hb' : Below B0 W0 WW := (by rw [← hWW]; exact hbn.drew.drew); exact Eq.mp (by kernel_rfl) (KEY WW X Y ⟨hX', hY', hne, hXle, hYle, hb'⟩))
                | (obtain ⟨WW, hWW⟩ : ∃ WW, ((((((wn2).alloc (.cells #[.int .i64 0, .string ⟨#[]⟩, .string ⟨#[]⟩, .string ⟨#[]⟩, .int .i64 0, .string ⟨#[]⟩, .string ⟨#[]⟩, .string ⟨#[]⟩, .int .i64 0, .string ⟨#[]⟩, .string ⟨#[]⟩, .string ⟨#[]⟩] 99))).alloc (.cells #[.int .i64 0, .string ⟨#[]⟩, .string ⟨#[]⟩, .string ⟨#[]⟩, .int .i64 0, .string ⟨#[]⟩, .string ⟨#[]⟩, .string ⟨#[]⟩, .int .i64 0, .string ⟨#[]⟩, .string ⟨#[]⟩, .string ⟨#[]⟩] 99))).drew) = WW := ⟨_, rfl⟩; rw [hWW]; have hX' : Blk WW X 99 (cells12 noTrip) := (by rw [← hWW]; exact hX); have hY' : Blk WW Y 99 (cells12 noTrip) := (by rw [← hWW]; exact hY); have hb' : Below B0 W0 WW := (by rw [← hWW]; exact hbn.drew); exact Eq.mp (by kernel_rfl) (KEY WW X Y ⟨hX', hY', hne, hXle, hYle, hb'⟩))
                | (obtain ⟨WW, hWW⟩ : ∃ WW, (((((wn2).alloc (.cells #[.int .i64 0, .string ⟨#[]⟩, .string ⟨#[]⟩, .string ⟨#[]⟩, .int .i64 0, .string ⟨#[]⟩, .string ⟨#[]⟩, .string ⟨#[]⟩, .int .i64 0, .string ⟨#[]⟩, .string ⟨#[]⟩, .string ⟨#[]⟩] 99))).alloc (.cells #[.int .i64 0, .string ⟨#[]⟩, .string ⟨#[]⟩, .string ⟨#[]⟩, .int .i64 0, .string ⟨#[]⟩, .string ⟨#[]⟩, .string ⟨#[]⟩, .int .i64 0, .string ⟨#[]⟩, .string ⟨#[]⟩, .string ⟨#[]⟩] 99))) = WW := ⟨_, rfl⟩; rw [hWW]; have hX' : Blk WW X 99 (cells12 noTrip) := (by rw [← hWW]; exact hX); have hY' : Blk WW Y 99 (cells12 noTrip) := (by rw [← hWW]; exact hY); have hb' : Below B0 W0 WW := (by rw [← hWW]; exact hbn); exact Eq.mp (by kernel_rfl) (KEY WW X Y ⟨hX', hY', hne, hXle, hYle, hb'⟩))
        · go_simp
          obtain ⟨X, hXe⟩ : ∃ X, (wn1).heap.size = X := ⟨_, rfl⟩
          have hX : Blk ((wn1).alloc (.cells (cells12 noTrip) 99)) X 99 (cells12 noTrip) := by rw [← hXe]; exact blk_new _ _ _
          have hXle : B0 ≤ X := by rw [← hXe]; exact Nat.le_trans hBle.out hbn.size
          replace hbn := hbn.alloc (Nat.le_trans hBle.out hbn.size) (.cells (cells12 noTrip) 99)
          (try simp only [World.size_alloc] at hXe)
          have HXE := Lib.hid hXe
          clear hXe
          refine hK.out _ _ ?_ (fun hHeld => ?_)
          · (try dsimp only); (first | exact hbn | exact hbn.drew)
          clear hK K
          (try rw [HXE.out])
          (try simp only [Act.put, List.setIfInBounds_toArray, List.set_cons_zero, List.set_cons_succ])
          refine wpAnyH_ready (rs := [3, 5]) (by kernel_rfl) (by simp) ?_
          refine AllReadyH.cons rfl (fun K hK => ?_) (AllReadyH.cons rfl (fun K hK => ?_) AllReadyH.nil)
          · go_simp
            refine (sterms_calls _ _ _ _ _ _ _ _ _ _ _ _ _).mono ?_
            rintro e wn8 ⟨rfl, hbv⟩
            (try replace hbv := from_drew hbv)
            replace hbn := fb2 hbn hbv hBle.out
            replace hX := blk_on hX hbv (blk_lt hX)
            clear hbv
            go_wp2_with fail
            refine hK.out _ _ ?_ (fun hHeld => ?_)
            · (try dsimp only); (first | exact hbn | exact hbn.drew)
            clear hK K
            (try simp only [Act.put, List.setIfInBounds_toArray, List.set_cons_zero, List.set_cons_succ])
            refine wpAnyH_ready (rs := [5]) (by kernel_rfl) (by simp) ?_
            refine AllReadyH.cons rfl (fun K hK => ?_) AllReadyH.nil
            · go_simp
              obtain ⟨Y, hYe⟩ : ∃ Y, (wn8).heap.size = Y := ⟨_, rfl⟩
              have hY : Blk ((wn8).alloc (.cells (cells12 noTrip) 99)) Y 99 (cells12 noTrip) := by rw [← hYe]; exact blk_new _ _ _
              have hYle : B0 ≤ Y := by rw [← hYe]; exact Nat.le_trans hBle.out hbn.size
              have hne : X ≠ Y := by have := blk_lt hX; rw [hYe] at this; omega
              replace hX := blk_on hX (box_below _ (.cells (cells12 noTrip) 99)) (blk_lt hX)
              replace hbn := hbn.alloc (Nat.le_trans hBle.out hbn.size) (.cells (cells12 noTrip) 99)
              (try simp only [World.size_alloc] at hYe)
              have HYE := Lib.hid hYe
              clear hYe
              refine hK.out _ _ ?_ (fun hHeld => ?_)
              · (try dsimp only); (first | exact hbn | exact hbn.drew)
              clear hK K
              (try rw [HYE.out])
              (try simp only [Act.put, List.setIfInBounds_toArray, List.set_cons_zero, List.set_cons_succ])
              first
                | (obtain ⟨WW, hWW⟩ : ∃ WW, ((((wn8).alloc (.cells #[.int .i64 0, .string ⟨#[]⟩, .string ⟨#[]⟩, .string ⟨#[]⟩, .int .i64 0, .string ⟨#[]⟩, .string ⟨#[]⟩, .string ⟨#[]⟩, .int .i64 0, .string ⟨#[]⟩, .string ⟨#[]⟩, .string ⟨#[]⟩] 99))).drewN 3) = WW := ⟨_, rfl⟩; rw [hWW]; have hX' : Blk WW X 99 (cells12 noTrip) := (by rw [← hWW]; exact hX); have hY' : Blk WW Y 99 (cells12 noTrip) := (by rw [← hWW]; exact hY); have hb' : Below B0 W0 WW := (by rw [← hWW]; exact drewN_below hbn 3); exact Eq.mp (by kernel_rfl) (KEY WW X Y ⟨hX', hY', hne, hXle, hYle, hb'⟩))
                | (obtain ⟨WW, hWW⟩ : ∃ WW, ((((wn8).alloc (.cells #[.int .i64 0, .string ⟨#[]⟩, .string ⟨#[]⟩, .string ⟨#[]⟩, .int .i64 0, .string ⟨#[]⟩, .string ⟨#[]⟩, .string ⟨#[]⟩, .int .i64 0, .string ⟨#[]⟩, .string ⟨#[]⟩, .string ⟨#[]⟩] 99))).drewN 2) = WW := ⟨_, rfl⟩; rw [hWW]; have hX' : Blk WW X 99 (cells12 noTrip) := (by rw [← hWW]; exact hX); have hY' : Blk WW Y 99 (cells12 noTrip) := (by rw [← hWW]; exact hY); have hb' : Below B0 W0 WW := (by rw [← hWW]; exact drewN_below hbn 2); exact Eq.mp (by kernel_rfl) (KEY WW X Y ⟨hX', hY', hne, hXle, hYle, hb'⟩))
                | (obtain ⟨WW, hWW⟩ : ∃ WW, ((((wn8).alloc (.cells #[.int .i64 0, .string ⟨#[]⟩, .string ⟨#[]⟩, .string ⟨#[]⟩, .int .i64 0, .string ⟨#[]⟩, .string ⟨#[]⟩, .string ⟨#[]⟩, .int .i64 0, .string ⟨#[]⟩, .string ⟨#[]⟩, .string ⟨#[]⟩] 99))).drew.drew) = WW := ⟨_, rfl⟩; rw [hWW]; have hX' : Blk WW X 99 (cells12 noTrip) := (by rw [← hWW]; exact hX); have hY' : Blk WW Y 99 (cells12 noTrip) := (by rw [← hWW]; exact hY); have hb' : Below B0 W0 WW := (by rw [← hWW]; exact hbn.drew.drew); exact Eq.mp (by kernel_rfl) (KEY WW X Y ⟨hX', hY', hne, hXle, hYle, hb'⟩))
                | (obtain ⟨WW, hWW⟩ : ∃ WW, ((((wn8).alloc (.cells #[.int .i64 0, .string ⟨#[]⟩, .string ⟨#[]⟩, .string ⟨#[]⟩, .int .i64 0, .string ⟨#[]⟩, .string ⟨#[]⟩, .string ⟨#[]⟩, .int .i64 0, .string ⟨#[]⟩, .string ⟨#[]⟩, .string ⟨#[]⟩] 99))).drew) = WW := ⟨_, rfl⟩; rw [hWW]; have hX' : Blk WW X 99 (cells12 noTrip) := (by rw [← hWW]; exact hX); have hY' : Blk WW Y 99 (cells12 noTrip) := (by rw [← hWW]; exact hY); have hb' : Below B0 W0 WW := (by rw [← hWW]; exact hbn.drew); exact Eq.mp (by kernel_rfl) (KEY WW X Y ⟨hX', hY', hne, hXle, hYle, hb'⟩))
                | (obtain ⟨WW, hWW⟩ : ∃ WW, (((wn8).alloc (.cells #[.int .i64 0, .string ⟨#[]⟩, .string ⟨#[]⟩, .string ⟨#[]⟩, .int .i64 0, .string ⟨#[]⟩, .string ⟨#[]⟩, .string ⟨#[]⟩, .int .i64 0, .string ⟨#[]⟩, .string ⟨#[]⟩, .string ⟨#[]⟩] 99))) = WW := ⟨_, rfl⟩; rw [hWW]; have hX' : Blk WW X 99 (cells12 noTrip) := (by rw [← hWW]; exact hX); have hY' : Blk WW Y 99 (cells12 noTrip) := (by rw [← hWW]; exact hY); have hb' : Below B0 W0 WW := (by rw [← hWW]; exact hbn); exact Eq.mp (by kernel_rfl) (KEY WW X Y ⟨hX', hY', hne, hXle, hYle, hb'⟩))
          · go_simp
            obtain ⟨Y, hYe⟩ : ∃ Y, (((wn1).alloc (.cells (cells12 noTrip) 99))).heap.size = Y := ⟨_, rfl⟩
            have hY : Blk ((((wn1).alloc (.cells (cells12 noTrip) 99))).alloc (.cells (cells12 noTrip) 99)) Y 99 (cells12 noTrip) := by rw [← hYe]; exact blk_new _ _ _
            have hYle : B0 ≤ Y := by rw [← hYe]; exact Nat.le_trans hBle.out hbn.size
            have hne : X ≠ Y := by have := blk_lt hX; rw [hYe] at this; omega
            replace hX := blk_on hX (box_below _ (.cells (cells12 noTrip) 99)) (blk_lt hX)
            replace hbn := hbn.alloc (Nat.le_trans hBle.out hbn.size) (.cells (cells12 noTrip) 99)
            (try simp only [World.size_alloc] at hYe)
            have HYE := Lib.hid hYe
            clear hYe
            refine hK.out _ _ ?_ (fun hHeld => ?_)
            · (try dsimp only); (first | exact hbn | exact hbn.drew)
            clear hK K
            (try rw [HYE.out])
            (try simp only [Act.put, List.setIfInBounds_toArray, List.set_cons_zero, List.set_cons_succ])
            refine wpAnyH_ready (rs := [3]) (by kernel_rfl) (by simp) ?_
            refine AllReadyH.cons rfl (fun K hK => ?_) AllReadyH.nil
            · go_simp
              refine (sterms_calls _ _ _ _ _ _ _ _ _ _ _ _ _).mono ?_
              rintro e wn11 ⟨rfl, hbv⟩
              (try replace hbv := from_drew hbv)
              replace hbn := fb2 hbn hbv hBle.out
              replace hX := blk_on hX hbv (blk_lt hX)
              replace hY := blk_on hY hbv (blk_lt hY)
              clear hbv
              go_wp2_with fail
              refine hK.out _ _ ?_ (fun hHeld => ?_)
              · (try dsimp only); (first | exact hbn | exact hbn.drew)
              clear hK K
              (try simp only [Act.put, List.setIfInBounds_toArray, List.set_cons_zero, List.set_cons_succ])
              first
                | (obtain ⟨WW, hWW⟩ : ∃ WW, ((wn11).drewN 3) = WW := ⟨_, rfl⟩; rw [hWW]; have hX' : Blk WW X 99 (cells12 noTrip) := (by rw [← hWW]; exact hX); have hY' : Blk WW Y 99 (cells12 noTrip) := (by rw [← hWW]; exact hY); have hb' : Below B0 W0 WW := (by rw [← hWW]; exact drewN_below hbn 3); exact Eq.mp (by kernel_rfl) (KEY WW X Y ⟨hX', hY', hne, hXle, hYle, hb'⟩))
                | (obtain ⟨WW, hWW⟩ : ∃ WW, ((wn11).drewN 2) = WW := ⟨_, rfl⟩; rw [hWW]; have hX' : Blk WW X 99 (cells12 noTrip) := (by rw [← hWW]; exact hX); have hY' : Blk WW Y 99 (cells12 noTrip) := (by rw [← hWW]; exact hY); have hb' : Below B0 W0 WW := (by rw [← hWW]; exact drewN_below hbn 2); exact Eq.mp (by kernel_rfl) (KEY WW X Y ⟨hX', hY', hne, hXle, hYle, hb'⟩))
                | (obtain ⟨WW, hWW⟩ : ∃ WW, ((wn11).drew.drew) = WW := ⟨_, rfl⟩; rw [hWW]; have hX' : Blk WW X 99 (cells12 noTrip) := (by rw [← hWW]; exact hX); have hY' : Blk WW Y 99 (cells12 noTrip) := (by rw [← hWW]; exact hY); have hb' : Below B0 W0 WW := (by rw [← hWW]; exact hbn.drew.drew); exact Eq.mp (by kernel_rfl) (KEY WW X Y ⟨hX', hY', hne, hXle, hYle, hb'⟩))
                | (obtain ⟨WW, hWW⟩ : ∃ WW, ((wn11).drew) = WW := ⟨_, rfl⟩; rw [hWW]; have hX' : Blk WW X 99 (cells12 noTrip) := (by rw [← hWW]; exact hX); have hY' : Blk WW Y 99 (cells12 noTrip) := (by rw [← hWW]; exact hY); have hb' : Below B0 W0 WW := (by rw [← hWW]; exact hbn.drew); exact Eq.mp (by kernel_rfl) (KEY WW X Y ⟨hX', hY', hne, hXle, hYle, hb'⟩))
                | (obtain ⟨WW, hWW⟩ : ∃ WW, (wn11) = WW := ⟨_, rfl⟩; rw [hWW]; have hX' : Blk WW X 99 (cells12 noTrip) := (by rw [← hWW]; exact hX); have hY' : Blk WW Y 99 (cells12 noTrip) := (by rw [← hWW]; exact hY); have hb' : Below B0 W0 WW := (by rw [← hWW]; exact hbn); exact Eq.mp (by kernel_rfl) (KEY WW X Y ⟨hX', hY', hne, hXle, hYle, hb'⟩))
        · go_simp
          obtain ⟨Y, hYe⟩ : ∃ Y, (wn1).heap.size = Y := ⟨_, rfl⟩
          have hY : Blk ((wn1).alloc (.cells (cells12 noTrip) 99)) Y 99 (cells12 noTrip) := by rw [← hYe]; exact blk_new _ _ _
          have hYle : B0 ≤ Y := by rw [← hYe]; exact Nat.le_trans hBle.out hbn.size
          replace hbn := hbn.alloc (Nat.le_trans hBle.out hbn.size) (.cells (cells12 noTrip) 99)
          (try simp only [World.size_alloc] at hYe)
          have HYE := Lib.hid hYe
          clear hYe
          refine hK.out _ _ ?_ (fun hHeld => ?_)
          · (try dsimp only); (first | exact hbn | exact hbn.drew)
          clear hK K
          (try rw [HYE.out])
          (try simp only [Act.put, List.setIfInBounds_toArray, List.set_cons_zero, List.set_cons_succ])
          refine wpAnyH_ready (rs := [3, 4]) (by kernel_rfl) (by simp) ?_
          refine AllReadyH.cons rfl (fun K hK => ?_) (AllReadyH.cons rfl (fun K hK => ?_) AllReadyH.nil)
          · go_simp
            refine (sterms_calls _ _ _ _ _ _ _ _ _ _ _ _ _).mono ?_
            rintro e wn13 ⟨rfl, hbv⟩
            (try replace hbv := from_drew hbv)
            replace hbn := fb2 hbn hbv hBle.out
            replace hY := blk_on hY hbv (blk_lt hY)
            clear hbv
            go_wp2_with fail
            refine hK.out _ _ ?_ (fun hHeld => ?_)
            · (try dsimp only); (first | exact hbn | exact hbn.drew)
            clear hK K
            (try simp only [Act.put, List.setIfInBounds_toArray, List.set_cons_zero, List.set_cons_succ])
            refine wpAnyH_ready (rs := [4]) (by kernel_rfl) (by simp) ?_
            refine AllReadyH.cons rfl (fun K hK => ?_) AllReadyH.nil
            · go_simp
              obtain ⟨X, hXe⟩ : ∃ X, (wn13).heap.size = X := ⟨_, rfl⟩
              have hX : Blk ((wn13).alloc (.cells (cells12 noTrip) 99)) X 99 (cells12 noTrip) := by rw [← hXe]; exact blk_new _ _ _
              have hXle : B0 ≤ X := by rw [← hXe]; exact Nat.le_trans hBle.out hbn.size
              have hne : X ≠ Y := by have := blk_lt hY; rw [hXe] at this; omega
              replace hY := blk_on hY (box_below _ (.cells (cells12 noTrip) 99)) (blk_lt hY)
              replace hbn := hbn.alloc (Nat.le_trans hBle.out hbn.size) (.cells (cells12 noTrip) 99)
              (try simp only [World.size_alloc] at hXe)
              have HXE := Lib.hid hXe
              clear hXe
              refine hK.out _ _ ?_ (fun hHeld => ?_)
              · (try dsimp only); (first | exact hbn | exact hbn.drew)
              clear hK K
              (try rw [HXE.out])
              (try simp only [Act.put, List.setIfInBounds_toArray, List.set_cons_zero, List.set_cons_succ])
              first
                | (obtain ⟨WW, hWW⟩ : ∃ WW, ((((wn13).alloc (.cells #[.int .i64 0, .string ⟨#[]⟩, .string ⟨#[]⟩, .string ⟨#[]⟩, .int .i64 0, .string ⟨#[]⟩, .string ⟨#[]⟩, .string ⟨#[]⟩, .int .i64 0, .string ⟨#[]⟩, .string ⟨#[]⟩, .string ⟨#[]⟩] 99))).drewN 3) = WW := ⟨_, rfl⟩; rw [hWW]; have hX' : Blk WW X 99 (cells12 noTrip) := (by rw [← hWW]; exact hX); have hY' : Blk WW Y 99 (cells12 noTrip) := (by rw [← hWW]; exact hY); have hb' : Below B0 W0 WW := (by rw [← hWW]; exact drewN_below hbn 3); exact Eq.mp (by kernel_rfl) (KEY WW X Y ⟨hX', hY', hne, hXle, hYle, hb'⟩))
                | (obtain ⟨WW, hWW⟩ : ∃ WW, ((((wn13).alloc (.cells #[.int .i64 0, .string ⟨#[]⟩, .string ⟨#[]⟩, .string ⟨#[]⟩, .int .i64 0, .string ⟨#[]⟩, .string ⟨#[]⟩, .string ⟨#[]⟩, .int .i64 0, .string ⟨#[]⟩, .string ⟨#[]⟩, .string ⟨#[]⟩] 99))).drewN 2) = WW := ⟨_, rfl⟩; rw [hWW]; have hX' : Blk WW X 99 (cells12 noTrip) := (by rw [← hWW]; exact hX); have hY' : Blk WW Y 99 (cells12 noTrip) := (by rw [← hWW]; exact hY); have hb' : Below B0 W0 WW := (by rw [← hWW]; exact drewN_below hbn 2); exact Eq.mp (by kernel_rfl) (KEY WW X Y ⟨hX', hY', hne, hXle, hYle, hb'⟩))
                | (obtain ⟨WW, hWW⟩ : ∃ WW, ((((wn13).alloc (.cells #[.int .i64 0, .string ⟨#[]⟩, .string ⟨#[]⟩, .string ⟨#[]⟩, .int .i64 0, .string ⟨#[]⟩, .string ⟨#[]⟩, .string ⟨#[]⟩, .int .i64 0, .string ⟨#[]⟩, .string ⟨#[]⟩, .string ⟨#[]⟩] 99))).drew.drew) = WW := ⟨_, rfl⟩; rw [hWW]; have hX' : Blk WW X 99 (cells12 noTrip) := (by rw [← hWW]; exact hX); have hY' : Blk WW Y 99 (cells12 noTrip) := (by rw [← hWW]; exact hY); have hb' : Below B0 W0 WW := (by rw [← hWW]; exact hbn.drew.drew); exact Eq.mp (by kernel_rfl) (KEY WW X Y ⟨hX', hY', hne, hXle, hYle, hb'⟩))
                | (obtain ⟨WW, hWW⟩ : ∃ WW, ((((wn13).alloc (.cells #[.int .i64 0, .string ⟨#[]⟩, .string ⟨#[]⟩, .string ⟨#[]⟩, .int .i64 0, .string ⟨#[]⟩, .string ⟨#[]⟩, .string ⟨#[]⟩, .int .i64 0, .string ⟨#[]⟩, .string ⟨#[]⟩, .string ⟨#[]⟩] 99))).drew) = WW := ⟨_, rfl⟩; rw [hWW]; have hX' : Blk WW X 99 (cells12 noTrip) := (by rw [← hWW]; exact hX); have hY' : Blk WW Y 99 (cells12 noTrip) := (by rw [← hWW]; exact hY); have hb' : Below B0 W0 WW := (by rw [← hWW]; exact hbn.drew); exact Eq.mp (by kernel_rfl) (KEY WW X Y ⟨hX', hY', hne, hXle, hYle, hb'⟩))
                | (obtain ⟨WW, hWW⟩ : ∃ WW, (((wn13).alloc (.cells #[.int .i64 0, .string ⟨#[]⟩, .string ⟨#[]⟩, .string ⟨#[]⟩, .int .i64 0, .string ⟨#[]⟩, .string ⟨#[]⟩, .string ⟨#[]⟩, .int .i64 0, .string ⟨#[]⟩, .string ⟨#[]⟩, .string ⟨#[]⟩] 99))) = WW := ⟨_, rfl⟩; rw [hWW]; have hX' : Blk WW X 99 (cells12 noTrip) := (by rw [← hWW]; exact hX); have hY' : Blk WW Y 99 (cells12 noTrip) := (by rw [← hWW]; exact hY); have hb' : Below B0 W0 WW := (by rw [← hWW]; exact hbn); exact Eq.mp (by kernel_rfl) (KEY WW X Y ⟨hX', hY', hne, hXle, hYle, hb'⟩))
          · go_simp
            obtain ⟨X, hXe⟩ : ∃ X, (((wn1).alloc (.cells (cells12 noTrip) 99))).heap.size = X := ⟨_, rfl⟩
            have hX : Blk ((((wn1).alloc (.cells (cells12 noTrip) 99))).alloc (.cells (cells12 noTrip) 99)) X 99 (cells12 noTrip) := by rw [← hXe]; exact blk_new _ _ _
            have hXle : B0 ≤ X := by rw [← hXe]; exact Nat.le_trans hBle.out hbn.size
            have hne : X ≠ Y := by have := blk_lt hY; rw [hXe] at this; omega
            replace hY := blk_on hY (box_below _ (.cells (cells12 noTrip) 99)) (blk_lt hY)
            replace hbn := hbn.alloc (Nat.le_trans hBle.out hbn.size) (.cells (cells12 noTrip) 99)
            (try simp only [World.size_alloc] at hXe)
            have HXE := Lib.hid hXe
            clear hXe
            refine hK.out _ _ ?_ (fun hHeld => ?_)
            · (try dsimp only); (first | exact hbn | exact hbn.drew)
            clear hK K
            (try rw [HXE.out])
            (try simp only [Act.put, List.setIfInBounds_toArray, List.set_cons_zero, List.set_cons_succ])
            refine wpAnyH_ready (rs := [3]) (by kernel_rfl) (by simp) ?_
            refine AllReadyH.cons rfl (fun K hK => ?_) AllReadyH.nil
            · go_simp
              refine (sterms_calls _ _ _ _ _ _ _ _ _ _ _ _ _).mono ?_
              rintro e wn16 ⟨rfl, hbv⟩
              (try replace hbv := from_drew hbv)
              replace hbn := fb2 hbn hbv hBle.out
              replace hX := blk_on hX hbv (blk_lt hX)
              replace hY := blk_on hY hbv (blk_lt hY)
              clear hbv
              go_wp2_with fail
              refine hK.out _ _ ?_ (fun hHeld => ?_)
              · (try dsimp only); (first | exact hbn | exact hbn.drew)
              clear hK K
              (try simp only [Act.put, List.setIfInBounds_toArray, List.set_cons_zero, List.set_cons_succ])
              first
                | (obtain ⟨WW, hWW⟩ : ∃ WW, ((wn16).drewN 3) = WW := ⟨_, rfl⟩; rw [hWW]; have hX' : Blk WW X 99 (cells12 noTrip) := (by rw [← hWW]; exact hX); have hY' : Blk WW Y 99 (cells12 noTrip) := (by rw [← hWW]; exact hY); have hb' : Below B0 W0 WW := (by rw [← hWW]; exact drewN_below hbn 3); exact Eq.mp (by kernel_rfl) (KEY WW X Y ⟨hX', hY', hne, hXle, hYle, hb'⟩))
                | (obtain ⟨WW, hWW⟩ : ∃ WW, ((wn16).drewN 2) = WW := ⟨_, rfl⟩; rw [hWW]; have hX' : Blk WW X 99 (cells12 noTrip) := (by rw [← hWW]; exact hX); have hY' : Blk WW Y 99 (cells12 noTrip) := (by rw [← hWW]; exact hY); have hb' : Below B0 W0 WW := (by rw [← hWW]; exact drewN_below hbn 2); exact Eq.mp (by kernel_rfl) (KEY WW X Y ⟨hX', hY', hne, hXle, hYle, hb'⟩))
                | (obtain ⟨WW, hWW⟩ : ∃ WW, ((wn16).drew.drew) = WW := ⟨_, rfl⟩; rw [hWW]; have hX' : Blk WW X 99 (cells12 noTrip) := (by rw [← hWW]; exact hX); have hY' : Blk WW Y 99 (cells12 noTrip) := (by rw [← hWW]; exact hY); have hb' : Below B0 W0 WW := (by rw [← hWW]; exact hbn.drew.drew); exact Eq.mp (by kernel_rfl) (KEY WW X Y ⟨hX', hY', hne, hXle, hYle, hb'⟩))
                | (obtain ⟨WW, hWW⟩ : ∃ WW, ((wn16).drew) = WW := ⟨_, rfl⟩; rw [hWW]; have hX' : Blk WW X 99 (cells12 noTrip) := (by rw [← hWW]; exact hX); have hY' : Blk WW Y 99 (cells12 noTrip) := (by rw [← hWW]; exact hY); have hb' : Below B0 W0 WW := (by rw [← hWW]; exact hbn.drew); exact Eq.mp (by kernel_rfl) (KEY WW X Y ⟨hX', hY', hne, hXle, hYle, hb'⟩))
                | (obtain ⟨WW, hWW⟩ : ∃ WW, (wn16) = WW := ⟨_, rfl⟩; rw [hWW]; have hX' : Blk WW X 99 (cells12 noTrip) := (by rw [← hWW]; exact hX); have hY' : Blk WW Y 99 (cells12 noTrip) := (by rw [← hWW]; exact hY); have hb' : Below B0 W0 WW := (by rw [← hWW]; exact hbn); exact Eq.mp (by kernel_rfl) (KEY WW X Y ⟨hX', hY', hne, hXle, hYle, hb'⟩))
      · go_simp
        obtain ⟨X, hXe⟩ : ∃ X, (W0).heap.size = X := ⟨_, rfl⟩
        have hX : Blk ((W0).alloc (.cells (cells12 noTrip) 99)) X 99 (cells12 noTrip) := by rw [← hXe]; exact blk_new _ _ _
        have hXle : B0 ≤ X := by rw [← hXe]; exact Nat.le_trans hBle.out hbn.size
        replace hbn := hbn.alloc (Nat.le_trans hBle.out hbn.size) (.cells (cells12 noTrip) 99)
        (try simp only [World.size_alloc] at hXe)
        have HXE := Lib.hid hXe
        clear hXe
        refine hK.out _ _ ?_ (fun hHeld => ?_)
        · (try dsimp only); (first | exact hbn | exact hbn.drew)
        clear hK K
        (try rw [HXE.out])
        (try simp only [Act.put, List.setIfInBounds_toArray, List.set_cons_zero, List.set_cons_succ])
        refine wpAnyH_ready (rs := [1, 5]) (by kernel_rfl) (by simp) ?_
        refine AllReadyH.cons rfl (fun K hK => ?_) (AllReadyH.cons rfl (fun K hK => ?_) AllReadyH.nil)
        · go_simp
          refine (sterms_calls _ _ _ _ _ _ _ _ _ _ _ _ _).mono ?_
          rintro e wn18 ⟨rfl, hbv⟩
          (try replace hbv := from_drew hbv)
          replace hbn := fb2 hbn hbv hBle.out
          replace hX := blk_on hX hbv (blk_lt hX)
          clear hbv
          go_wp2_with fail
          refine hK.out _ _ ?_ (fun hHeld => ?_)
          · (try dsimp only); (first | exact hbn | exact hbn.drew)
          clear hK K
          (try simp only [Act.put, List.setIfInBounds_toArray, List.set_cons_zero, List.set_cons_succ])
          refine wpAnyH_ready (rs := [3, 5]) (by kernel_rfl) (by simp) ?_
          refine AllReadyH.cons rfl (fun K hK => ?_) (AllReadyH.cons rfl (fun K hK => ?_) AllReadyH.nil)
          · go_simp
            refine (sterms_calls _ _ _ _ _ _ _ _ _ _ _ _ _).mono ?_
            rintro e wn19 ⟨rfl, hbv⟩
            (try replace hbv := from_drew hbv)
            replace hbn := fb2 hbn hbv hBle.out
            replace hX := blk_on hX hbv (blk_lt hX)
            clear hbv
            go_wp2_with fail
            refine hK.out _ _ ?_ (fun hHeld => ?_)
            · (try dsimp only); (first | exact hbn | exact hbn.drew)
            clear hK K
            (try simp only [Act.put, List.setIfInBounds_toArray, List.set_cons_zero, List.set_cons_succ])
            refine wpAnyH_ready (rs := [5]) (by kernel_rfl) (by simp) ?_
            refine AllReadyH.cons rfl (fun K hK => ?_) AllReadyH.nil
            · go_simp
              obtain ⟨Y, hYe⟩ : ∃ Y, (wn19).heap.size = Y := ⟨_, rfl⟩
              have hY : Blk ((wn19).alloc (.cells (cells12 noTrip) 99)) Y 99 (cells12 noTrip) := by rw [← hYe]; exact blk_new _ _ _
              have hYle : B0 ≤ Y := by rw [← hYe]; exact Nat.le_trans hBle.out hbn.size
              have hne : X ≠ Y := by have := blk_lt hX; rw [hYe] at this; omega
              replace hX := blk_on hX (box_below _ (.cells (cells12 noTrip) 99)) (blk_lt hX)
              replace hbn := hbn.alloc (Nat.le_trans hBle.out hbn.size) (.cells (cells12 noTrip) 99)
              (try simp only [World.size_alloc] at hYe)
              have HYE := Lib.hid hYe
              clear hYe
              refine hK.out _ _ ?_ (fun hHeld => ?_)
              · (try dsimp only); (first | exact hbn | exact hbn.drew)
              clear hK K
              (try rw [HYE.out])
              (try simp only [Act.put, List.setIfInBounds_toArray, List.set_cons_zero, List.set_cons_succ])
              first
                | (obtain ⟨WW, hWW⟩ : ∃ WW, ((((wn19).alloc (.cells #[.int .i64 0, .string ⟨#[]⟩, .string ⟨#[]⟩, .string ⟨#[]⟩, .int .i64 0, .string ⟨#[]⟩, .string ⟨#[]⟩, .string ⟨#[]⟩, .int .i64 0, .string ⟨#[]⟩, .string ⟨#[]⟩, .string ⟨#[]⟩] 99))).drewN 3) = WW := ⟨_, rfl⟩; rw [hWW]; have hX' : Blk WW X 99 (cells12 noTrip) := (by rw [← hWW]; exact hX); have hY' : Blk WW Y 99 (cells12 noTrip) := (by rw [← hWW]; exact hY); have hb' : Below B0 W0 WW := (by rw [← hWW]; exact drewN_below hbn 3); exact Eq.mp (by kernel_rfl) (KEY WW X Y ⟨hX', hY', hne, hXle, hYle, hb'⟩))
                | (obtain ⟨WW, hWW⟩ : ∃ WW, ((((wn19).alloc (.cells #[.int .i64 0, .string ⟨#[]⟩, .string ⟨#[]⟩, .string ⟨#[]⟩, .int .i64 0, .string ⟨#[]⟩, .string ⟨#[]⟩, .string ⟨#[]⟩, .int .i64 0, .string ⟨#[]⟩, .string ⟨#[]⟩, .string ⟨#[]⟩] 99))).drewN 2) = WW := ⟨_, rfl⟩; rw [hWW]; have hX' : Blk WW X 99 (cells12 noTrip) := (by rw [← hWW]; exact hX); have hY' : Blk WW Y 99 (cells12 noTrip) := (by rw [← hWW]; exact hY); have hb' : Below B0 W0 WW := (by rw [← hWW]; exact drewN_below hbn 2); exact Eq.mp (by kernel_rfl) (KEY WW X Y ⟨hX', hY', hne, hXle, hYle, hb'⟩))
                | (obtain ⟨WW, hWW⟩ : ∃ WW, ((((wn19).alloc (.cells #[.int .i64 0, .string ⟨#[]⟩, .string ⟨#[]⟩, .string ⟨#[]⟩, .int .i64 0, .string ⟨#[]⟩, .string ⟨#[]⟩, .string ⟨#[]⟩, .int .i64 0, .string ⟨#[]⟩, .string ⟨#[]⟩, .string ⟨#[]⟩] 99))).drew.drew) = WW := ⟨_, rfl⟩; rw [hWW]; have hX' : Blk WW X 99 (cells12 noTrip) := (by rw [← hWW]; exact hX); have hY' : Blk WW Y 99 (cells12 noTrip) := (by rw [← hWW]; exact hY); have hb' : Below B0 W0 WW := (by rw [← hWW]; exact hbn.drew.drew); exact Eq.mp (by kernel_rfl) (KEY WW X Y ⟨hX', hY', hne, hXle, hYle, hb'⟩))
                | (obtain ⟨WW, hWW⟩ : ∃ WW, ((((wn19).alloc (.cells #[.int .i64 0, .string ⟨#[]⟩, .string ⟨#[]⟩, .string ⟨#[]⟩, .int .i64 0, .string ⟨#[]⟩, .string ⟨#[]⟩, .string ⟨#[]⟩, .int .i64 0, .string ⟨#[]⟩, .string ⟨#[]⟩, .string ⟨#[]⟩] 99))).drew) = WW := ⟨_, rfl⟩; rw [hWW]; have hX' : Blk WW X 99 (cells12 noTrip) := (by rw [← hWW]; exact hX); have hY' : Blk WW Y 99 (cells12 noTrip) := (by rw [← hWW]; exact hY); have hb' : Below B0 W0 WW := (by rw [← hWW]; exact hbn.drew); exact Eq.mp (by kernel_rfl) (KEY WW X Y ⟨hX', hY', hne, hXle, hYle, hb'⟩))
                | (obtain ⟨WW, hWW⟩ : ∃ WW, (((wn19).alloc (.cells #[.int .i64 0, .string ⟨#[]⟩, .string ⟨#[]⟩, .string ⟨#[]⟩, .int .i64 0, .string ⟨#[]⟩, .string ⟨#[]⟩, .string ⟨#[]⟩, .int .i64 0, .string ⟨#[]⟩, .string ⟨#[]⟩, .string ⟨#[]⟩] 99))) = WW := ⟨_, rfl⟩; rw [hWW]; have hX' : Blk WW X 99 (cells12 noTrip) := (by rw [← hWW]; exact hX); have hY' : Blk WW Y 99 (cells12 noTrip) := (by rw [← hWW]; exact hY); have hb' : Below B0 W0 WW := (by rw [← hWW]; exact hbn); exact Eq.mp (by kernel_rfl) (KEY WW X Y ⟨hX', hY', hne, hXle, hYle, hb'⟩))
          · go_simp
            obtain ⟨Y, hYe⟩ : ∃ Y, (wn18).heap.size = Y := ⟨_, rfl⟩
            have hY : Blk ((wn18).alloc (.cells (cells12 noTrip) 99)) Y 99 (cells12 noTrip) := by rw [← hYe]; exact blk_new _ _ _
            have hYle : B0 ≤ Y := by rw [← hYe]; exact Nat.le_trans hBle.out hbn.size
            have hne : X ≠ Y := by have := blk_lt hX; rw [hYe] at this; omega
            replace hX := blk_on hX (box_below _ (.cells (cells12 noTrip) 99)) (blk_lt hX)
            replace hbn := hbn.alloc (Nat.le_trans hBle.out hbn.size) (.cells (cells12 noTrip) 99)
            (try simp only [World.size_alloc] at hYe)
            have HYE := Lib.hid hYe
            clear hYe
            refine hK.out _ _ ?_ (fun hHeld => ?_)
            · (try dsimp only); (first | exact hbn | exact hbn.drew)
            clear hK K
            (try rw [HYE.out])
            (try simp only [Act.put, List.setIfInBounds_toArray, List.set_cons_zero, List.set_cons_succ])
            refine wpAnyH_ready (rs := [3]) (by kernel_rfl) (by simp) ?_
            refine AllReadyH.cons rfl (fun K hK => ?_) AllReadyH.nil
            · go_simp
              refine (sterms_calls _ _ _ _ _ _ _ _ _ _ _ _ _).mono ?_
              rintro e wn22 ⟨rfl, hbv⟩
              (try replace hbv := from_drew hbv)
              replace hbn := fb2 hbn hbv hBle.out
              replace hX := blk_on hX hbv (blk_lt hX)
              replace hY := blk_on hY hbv (blk_lt hY)
              clear hbv
              go_wp2_with fail
              refine hK.out _ _ ?_ (fun hHeld => ?_)
              · (try dsimp only); (first | exact hbn | exact hbn.drew)
              clear hK K
              (try simp only [Act.put, List.setIfInBounds_toArray, List.set_cons_zero, List.set_cons_succ])
              first
                | (obtain ⟨WW, hWW⟩ : ∃ WW, ((wn22).drewN 3) = WW := ⟨_, rfl⟩; rw [hWW]; have hX' : Blk WW X 99 (cells12 noTrip) := (by rw [← hWW]; exact hX); have hY' : Blk WW Y 99 (cells12 noTrip) := (by rw [← hWW]; exact hY); have hb' : Below B0 W0 WW := (by rw [← hWW]; exact drewN_below hbn 3); exact Eq.mp (by kernel_rfl) (KEY WW X Y ⟨hX', hY', hne, hXle, hYle, hb'⟩))
                | (obtain ⟨WW, hWW⟩ : ∃ WW, ((wn22).drewN 2) = WW := ⟨_, rfl⟩; rw [hWW]; have hX' : Blk WW X 99 (cells12 noTrip) := (by rw [← hWW]; exact hX); have hY' : Blk WW Y 99 (cells12 noTrip) := (by rw [← hWW]; exact hY); have hb' : Below B0 W0 WW := (by rw [← hWW]; exact drewN_below hbn 2); exact Eq.mp (by kernel_rfl) (KEY WW X Y ⟨hX', hY', hne, hXle, hYle, hb'⟩))
                | (obtain ⟨WW, hWW⟩ : ∃ WW, ((wn22).drew.drew) = WW := ⟨_, rfl⟩; rw [hWW]; have hX' : Blk WW X 99 (cells12 noTrip) := (by rw [← hWW]; exact hX); have hY' : Blk WW Y 99 (cells12 noTrip) := (by rw [← hWW]; exact hY); have hb' : Below B0 W0 WW := (by rw [← hWW]; exact hbn.drew.drew); exact Eq.mp (by kernel_rfl) (KEY WW X Y ⟨hX', hY', hne, hXle, hYle, hb'⟩))
                | (obtain ⟨WW, hWW⟩ : ∃ WW, ((wn22).drew) = WW := ⟨_, rfl⟩; rw [hWW]; have hX' : Blk WW X 99 (cells12 noTrip) := (by rw [← hWW]; exact hX); have hY' : Blk WW Y 99 (cells12 noTrip) := (by rw [← hWW]; exact hY); have hb' : Below B0 W0 WW := (by rw [← hWW]; exact hbn.drew); exact Eq.mp (by kernel_rfl) (KEY WW X Y ⟨hX', hY', hne, hXle, hYle, hb'⟩))
                | (obtain ⟨WW, hWW⟩ : ∃ WW, (wn22) = WW := ⟨_, rfl⟩; rw [hWW]; have hX' : Blk WW X 99 (cells12 noTrip) := (by rw [← hWW]; exact hX); have hY' : Blk WW Y 99 (cells12 noTrip) := (by rw [← hWW]; exact hY); have hb' : Below B0 W0 WW := (by rw [← hWW]; exact hbn); exact Eq.mp (by kernel_rfl) (KEY WW X Y ⟨hX', hY', hne, hXle, hYle, hb'⟩))
        · go_simp
          obtain ⟨Y, hYe⟩ : ∃ Y, (((W0).alloc (.cells (cells12 noTrip) 99))).heap.size = Y := ⟨_, rfl⟩
          have hY : Blk ((((W0).alloc (.cells (cells12 noTrip) 99))).alloc (.cells (cells12 noTrip) 99)) Y 99 (cells12 noTrip) := by rw [← hYe]; exact blk_new _ _ _
          have hYle : B0 ≤ Y := by rw [← hYe]; exact Nat.le_trans hBle.out hbn.size
          have hne : X ≠ Y := by have := blk_lt hX; rw [hYe] at this; omega
          replace hX := blk_on hX (box_below _ (.cells (cells12 noTrip) 99)) (blk_lt hX)
          replace hbn := hbn.alloc (Nat.le_trans hBle.out hbn.size) (.cells (cells12 noTrip) 99)
          (try simp only [World.size_alloc] at hYe)
          have HYE := Lib.hid hYe
          clear hYe
          refine hK.out _ _ ?_ (fun hHeld => ?_)
          · (try dsimp only); (first | exact hbn | exact hbn.drew)
          clear hK K
          (try rw [HYE.out])
          (try simp only [Act.put, List.setIfInBounds_toArray, List.set_cons_zero, List.set_cons_succ])
          refine wpAnyH_ready (rs := [1]) (by kernel_rfl) (by simp) ?_
          refine AllReadyH.cons rfl (fun K hK => ?_) AllReadyH.nil
          · go_simp
            refine (sterms_calls _ _ _ _ _ _ _ _ _ _ _ _ _).mono ?_
            rintro e wn24 ⟨rfl, hbv⟩
            (try replace hbv := from_drew hbv)
            replace hbn := fb2 hbn hbv hBle.out
            replace hX := blk_on hX hbv (blk_lt hX)
            replace hY := blk_on hY hbv (blk_lt hY)
            clear hbv
            go_wp2_with fail
            refine hK.out _ _ ?_ (fun hHeld => ?_)
            · (try dsimp only); (first | exact hbn | exact hbn.drew)
            clear hK K
            (try simp only [Act.put, List.setIfInBounds_toArray, List.set_cons_zero, List.set_cons_succ])
            refine wpAnyH_ready (rs := [3]) (by kernel_rfl) (by simp) ?_
            refine AllReadyH.cons rfl (fun K hK => ?_) AllReadyH.nil
            · go_simp
              refine (sterms_calls _ _ _ _ _ _ _ _ _ _ _ _ _).mono ?_
              rintro e wn25 ⟨rfl, hbv⟩
              (try replace hbv := from_drew hbv)
              replace hbn := fb2 hbn hbv hBle.out
              replace hX := blk_on hX hbv (blk_lt hX)
              replace hY := blk_on hY hbv (blk_lt hY)
              clear hbv
              go_wp2_with fail
              refine hK.out _ _ ?_ (fun hHeld => ?_)
              · (try dsimp only); (first | exact hbn | exact hbn.drew)
              clear hK K
              (try simp only [Act.put, List.setIfInBounds_toArray, List.set_cons_zero, List.set_cons_succ])
              first
                | (obtain ⟨WW, hWW⟩ : ∃ WW, ((wn25).drewN 3) = WW := ⟨_, rfl⟩; rw [hWW]; have hX' : Blk WW X 99 (cells12 noTrip) := (by rw [← hWW]; exact hX); have hY' : Blk WW Y 99 (cells12 noTrip) := (by rw [← hWW]; exact hY); have hb' : Below B0 W0 WW := (by rw [← hWW]; exact drewN_below hbn 3); exact Eq.mp (by kernel_rfl) (KEY WW X Y ⟨hX', hY', hne, hXle, hYle, hb'⟩))
                | (obtain ⟨WW, hWW⟩ : ∃ WW, ((wn25).drewN 2) = WW := ⟨_, rfl⟩; rw [hWW]; have hX' : Blk WW X 99 (cells12 noTrip) := (by rw [← hWW]; exact hX); have hY' : Blk WW Y 99 (cells12 noTrip) := (by rw [← hWW]; exact hY); have hb' : Below B0 W0 WW := (by rw [← hWW]; exact drewN_below hbn 2); exact Eq.mp (by kernel_rfl) (KEY WW X Y ⟨hX', hY', hne, hXle, hYle, hb'⟩))
                | (obtain ⟨WW, hWW⟩ : ∃ WW, ((wn25).drew.drew) = WW := ⟨_, rfl⟩; rw [hWW]; have hX' : Blk WW X 99 (cells12 noTrip) := (by rw [← hWW]; exact hX); have hY' : Blk WW Y 99 (cells12 noTrip) := (by rw [← hWW]; exact hY); have hb' : Below B0 W0 WW := (by rw [← hWW]; exact hbn.drew.drew); exact Eq.mp (by kernel_rfl) (KEY WW X Y ⟨hX', hY', hne, hXle, hYle, hb'⟩))
                | (obtain ⟨WW, hWW⟩ : ∃ WW, ((wn25).drew) = WW := ⟨_, rfl⟩; rw [hWW]; have hX' : Blk WW X 99 (cells12 noTrip) := (by rw [← hWW]; exact hX); have hY' : Blk WW Y 99 (cells12 noTrip) := (by rw [← hWW]; exact hY); have hb' : Below B0 W0 WW := (by rw [← hWW]; exact hbn.drew); exact Eq.mp (by kernel_rfl) (KEY WW X Y ⟨hX', hY', hne, hXle, hYle, hb'⟩))
                | (obtain ⟨WW, hWW⟩ : ∃ WW, (wn25) = WW := ⟨_, rfl⟩; rw [hWW]; have hX' : Blk WW X 99 (cells12 noTrip) := (by rw [← hWW]; exact hX); have hY' : Blk WW Y 99 (cells12 noTrip) := (by rw [← hWW]; exact hY); have hb' : Below B0 W0 WW := (by rw [← hWW]; exact hbn); exact Eq.mp (by kernel_rfl) (KEY WW X Y ⟨hX', hY', hne, hXle, hYle, hb'⟩))
      · go_simp
        obtain ⟨Y, hYe⟩ : ∃ Y, (W0).heap.size = Y := ⟨_, rfl⟩
        have hY : Blk ((W0).alloc (.cells (cells12 noTrip) 99)) Y 99 (cells12 noTrip) := by rw [← hYe]; exact blk_new _ _ _
        have hYle : B0 ≤ Y := by rw [← hYe]; exact Nat.le_trans hBle.out hbn.size
        replace hbn := hbn.alloc (Nat.le_trans hBle.out hbn.size) (.cells (cells12 noTrip) 99)
        (try simp only [World.size_alloc] at hYe)
        have HYE := Lib.hid hYe
        clear hYe
        refine hK.out _ _ ?_ (fun hHeld => ?_)
        · (try dsimp only); (first | exact hbn | exact hbn.drew)
        clear hK K
        (try rw [HYE.out])
        (try simp only [Act.put, List.setIfInBounds_toArray, List.set_cons_zero, List.set_cons_succ])
        refine wpAnyH_ready (rs := [1, 4]) (by kernel_rfl) (by simp) ?_
        refine AllReadyH.cons rfl (fun K hK => ?_) (AllReadyH.cons rfl (fun K hK => ?_) AllReadyH.nil)
        · go_simp
          refine (sterms_calls _ _ _ _ _ _ _ _ _ _ _ _ _).mono ?_
          rintro e wn27 ⟨rfl, hbv⟩
          (try replace hbv := from_drew hbv)
          replace hbn := fb2 hbn hbv hBle.out
          replace hY := blk_on hY hbv (blk_lt hY)
          clear hbv
          go_wp2_with fail
          refine hK.out _ _ ?_ (fun hHeld => ?_)
          · (try dsimp only); (first | exact hbn | exact hbn.drew)
          clear hK K
          (try simp only [Act.put, List.setIfInBounds_toArray, List.set_cons_zero, List.set_cons_succ])
          refine wpAnyH_ready (rs := [3, 4]) (by kernel_rfl) (by simp) ?_
          refine AllReadyH.cons rfl (fun K hK => ?_) (AllReadyH.cons rfl (fun K hK => ?_) AllReadyH.nil)
          · go_simp
            refine (sterms_calls _ _ _ _ _ _ _ _ _ _ _ _ _).mono ?_
            rintro e wn28 ⟨rfl, hbv⟩
            (try replace hbv := from_drew hbv)
            replace hbn := fb2 hbn hbv hBle.out
            replace hY := blk_on hY hbv (blk_lt hY)
            clear hbv
            go_wp2_with fail
            refine hK.out _ _ ?_ (fun hHeld => ?_)
            · (try dsimp only); (first | exact hbn | exact hbn.drew)
            clear hK K
            (try simp only [Act.put, List.setIfInBounds_toArray, List.set_cons_zero, List.set_cons_succ])
            refine wpAnyH_ready (rs := [4]) (by kernel_rfl) (by simp) ?_
            refine AllReadyH.cons rfl (fun K hK => ?_) AllReadyH.nil
            · go_simp
              obtain ⟨X, hXe⟩ : ∃ X, (wn28).heap.size = X := ⟨_, rfl⟩
              have hX : Blk ((wn28).alloc (.cells (cells12 noTrip) 99)) X 99 (cells12 noTrip) := by rw [← hXe]; exact blk_new _ _ _
              have hXle : B0 ≤ X := by rw [← hXe]; exact Nat.le_trans hBle.out hbn.size
              have hne : X ≠ Y := by have := blk_lt hY; rw [hXe] at this; omega
              replace hY := blk_on hY (box_below _ (.cells (cells12 noTrip) 99)) (blk_lt hY)
              replace hbn := hbn.alloc (Nat.le_trans hBle.out hbn.size) (.cells (cells12 noTrip) 99)
              (try simp only [World.size_alloc] at hXe)
              have HXE := Lib.hid hXe
              clear hXe
              refine hK.out _ _ ?_ (fun hHeld => ?_)
              · (try dsimp only); (first | exact hbn | exact hbn.drew)
              clear hK K
              (try rw [HXE.out])
              (try simp only [Act.put, List.setIfInBounds_toArray, List.set_cons_zero, List.set_cons_succ])
              first
                | (obtain ⟨WW, hWW⟩ : ∃ WW, ((((wn28).alloc (.cells #[.int .i64 0, .string ⟨#[]⟩, .string ⟨#[]⟩, .string ⟨#[]⟩, .int .i64 0, .string ⟨#[]⟩, .string ⟨#[]⟩, .string ⟨#[]⟩, .int .i64 0, .string ⟨#[]⟩, .string ⟨#[]⟩, .string ⟨#[]⟩] 99))).drewN 3) = WW := ⟨_, rfl⟩; rw [hWW]; have hX' : Blk WW X 99 (cells12 noTrip) := (by rw [← hWW]; exact hX); have hY' : Blk WW Y 99 (cells12 noTrip) := (by rw [← hWW]; exact hY); have hb' : Below B0 W0 WW := (by rw [← hWW]; exact drewN_below hbn 3); exact Eq.mp (by kernel_rfl) (KEY WW X Y ⟨hX', hY', hne, hXle, hYle, hb'⟩))
                | (obtain ⟨WW, hWW⟩ : ∃ WW, ((((wn28).alloc (.cells #[.int .i64 0, .string ⟨#[]⟩, .string ⟨#[]⟩, .string ⟨#[]⟩, .int .i64 0, .string ⟨#[]⟩, .string ⟨#[]⟩, .string ⟨#[]⟩, .int .i64 0, .string ⟨#[]⟩, .string ⟨#[]⟩, .string ⟨#[]⟩] 99))).drewN 2) = WW := ⟨_, rfl⟩; rw [hWW]; have hX' : Blk WW X 99 (cells12 noTrip) := (by rw [← hWW]; exact hX); have hY' : Blk WW Y 99 (cells12 noTrip) := (by rw [← hWW]; exact hY); have hb' : Below B0 W0 WW := (by rw [← hWW]; exact drewN_below hbn 2); exact Eq.mp (by kernel_rfl) (KEY WW X Y ⟨hX', hY', hne, hXle, hYle, hb'⟩))
                | (obtain ⟨WW, hWW⟩ : ∃ WW, ((((wn28).alloc (.cells #[.int .i64 0, .string ⟨#[]⟩, .string ⟨#[]⟩, .string ⟨#[]⟩, .int .i64 0, .string ⟨#[]⟩, .string ⟨#[]⟩, .string ⟨#[]⟩, .int .i64 0, .string ⟨#[]⟩, .string ⟨#[]⟩, .string ⟨#[]⟩] 99))).drew.drew) = WW := ⟨_, rfl⟩; rw [hWW]; have hX' : Blk WW X 99 (cells12 noTrip) := (by rw [← hWW]; exact hX); have hY' : Blk WW Y 99 (cells12 noTrip) := (by rw [← hWW]; exact hY); have hb' : Below B0 W0 WW := (by rw [← hWW]; exact hbn.drew.drew); exact Eq.mp (by kernel_rfl) (KEY WW X Y ⟨hX', hY', hne, hXle, hYle, hb'⟩))
                | (obtain ⟨WW, hWW⟩ : ∃ WW, ((((wn28).alloc (.cells #[.int .i64 0, .string ⟨#[]⟩, .string ⟨#[]⟩, .string ⟨#[]⟩, .int .i64 0, .string ⟨#[]⟩, .string ⟨#[]⟩, .string ⟨#[]⟩, .int .i64 0, .string ⟨#[]⟩, .string ⟨#[]⟩, .string ⟨#[]⟩] 99))).drew) = WW := ⟨_, rfl⟩; rw [hWW]; have hX' : Blk WW X 99 (cells12 noTrip) := (by rw [← hWW]; exact hX); have hY' : Blk WW Y 99 (cells12 noTrip) := (by rw [← hWW]; exact hY); have hb' : Below B0 W0 WW := (by rw [← hWW]; exact hbn.drew); exact Eq.mp (by kernel_rfl) (KEY WW X Y ⟨hX', hY', hne, hXle, hYle, hb'⟩))
                | (obtain ⟨WW, hWW⟩ : ∃ WW, (((wn28).alloc (.cells #[.int .i64 0, .string ⟨#[]⟩, .string ⟨#[]⟩, .string ⟨#[]⟩, .int .i64 0, .string ⟨#[]⟩, .string ⟨#[]⟩, .string ⟨#[]⟩, .int .i64 0, .string ⟨#[]⟩, .string ⟨#[]⟩, .string ⟨#[]⟩] 99))) = WW := ⟨_, rfl⟩; rw [hWW]; have hX' : Blk WW X 99 (cells12 noTrip) := (by rw [← hWW]; exact hX); have hY' : Blk WW Y 99 (cells12 noTrip) := (by rw [← hWW]; exact hY); have hb' : Below B0 W0 WW := (by rw [← hWW]; exact hbn); exact Eq.mp (by kernel_rfl) (KEY WW X Y ⟨hX', hY', hne, hXle, hYle, hb'⟩))
          · go_simp
            obtain ⟨X, hXe⟩ : ∃ X, (wn27).heap.size = X := ⟨_, rfl⟩
            have hX : Blk ((wn27).alloc (.cells (cells12 noTrip) 99)) X 99 (cells12 noTrip) := by rw [← hXe]; exact blk_new _ _ _
            have hXle : B0 ≤ X := by rw [← hXe]; exact Nat.le_trans hBle.out hbn.size
            have hne : X ≠ Y := by have := blk_lt hY; rw [hXe] at this; omega
            replace hY := blk_on hY (box_below _ (.cells (cells12 noTrip) 99)) (blk_lt hY)
            replace hbn := hbn.alloc (Nat.le_trans hBle.out hbn.size) (.cells (cells12 noTrip) 99)
            (try simp only [World.size_alloc] at hXe)
            have HXE := Lib.hid hXe
            clear hXe
            refine hK.out _ _ ?_ (fun hHeld => ?_)
            · (try dsimp only); (first | exact hbn | exact hbn.drew)
            clear hK K
            (try rw [HXE.out])
            (try simp only [Act.put, List.setIfInBounds_toArray, List.set_cons_zero, List.set_cons_succ])
            refine wpAnyH_ready (rs := [3]) (by kernel_rfl) (by simp) ?_
            refine AllReadyH.cons rfl (fun K hK => ?_) AllReadyH.nil
            · go_simp
              refine (sterms_calls _ _ _ _ _ _ _ _ _ _ _ _ _).mono ?_
              rintro e wn31 ⟨rfl, hbv⟩
              (try replace hbv := from_drew hbv)
              replace hbn := fb2 hbn hbv hBle.out
              replace hX := blk_on hX hbv (blk_lt hX)
              replace hY := blk_on hY hbv (blk_lt hY)
              clear hbv
              go_wp2_with fail
              refine hK.out _ _ ?_ (fun hHeld => ?_)
              · (try dsimp only); (first | exact hbn | exact hbn.drew)
              clear hK K
              (try simp only [Act.put, List.setIfInBounds_toArray, List.set_cons_zero, List.set_cons_succ])
              first
                | (obtain ⟨WW, hWW⟩ : ∃ WW, ((wn31).drewN 3) = WW := ⟨_, rfl⟩; rw [hWW]; have hX' : Blk WW X 99 (cells12 noTrip) := (by rw [← hWW]; exact hX); have hY' : Blk WW Y 99 (cells12 noTrip) := (by rw [← hWW]; exact hY); have hb' : Below B0 W0 WW := (by rw [← hWW]; exact drewN_below hbn 3); exact Eq.mp (by kernel_rfl) (KEY WW X Y ⟨hX', hY', hne, hXle, hYle, hb'⟩))
                | (obtain ⟨WW, hWW⟩ : ∃ WW, ((wn31).drewN 2) = WW := ⟨_, rfl⟩; rw [hWW]; have hX' : Blk WW X 99 (cells12 noTrip) := (by rw [← hWW]; exact hX); have hY' : Blk WW Y 99 (cells12 noTrip) := (by rw [← hWW]; exact hY); have hb' : Below B0 W0 WW := (by rw [← hWW]; exact drewN_below hbn 2); exact Eq.mp (by kernel_rfl) (KEY WW X Y ⟨hX', hY', hne, hXle, hYle, hb'⟩))
                | (obtain ⟨WW, hWW⟩ : ∃ WW, ((wn31).drew.drew) = WW := ⟨_, rfl⟩; rw [hWW]; have hX' : Blk WW X 99 (cells12 noTrip) := (by rw [← hWW]; exact hX); have hY' : Blk WW Y 99 (cells12 noTrip) := (by rw [← hWW]; exact hY); have hb' : Below B0 W0 WW := (by rw [← hWW]; exact hbn.drew.drew); exact Eq.mp (by kernel_rfl) (KEY WW X Y ⟨hX', hY', hne, hXle, hYle, hb'⟩))
                | (obtain ⟨WW, hWW⟩ : ∃ WW, ((wn31).drew) = WW := ⟨_, rfl⟩; rw [hWW]; have hX' : Blk WW X 99 (cells12 noTrip) := (by rw [← hWW]; exact hX); have hY' : Blk WW Y 99 (cells12 noTrip) := (by rw [← hWW]; exact hY); have hb' : Below B0 W0 WW := (by rw [← hWW]; exact hbn.drew); exact Eq.mp (by kernel_rfl) (KEY WW X Y ⟨hX', hY', hne, hXle, hYle, hb'⟩))
                | (obtain ⟨WW, hWW⟩ : ∃ WW, (wn31) = WW := ⟨_, rfl⟩; rw [hWW]; have hX' : Blk WW X 99 (cells12 noTrip) := (by rw [← hWW]; exact hX); have hY' : Blk WW Y 99 (cells12 noTrip) := (by rw [← hWW]; exact hY); have hb' : Below B0 W0 WW := (by rw [← hWW]; exact hbn); exact Eq.mp (by kernel_rfl) (KEY WW X Y ⟨hX', hY', hne, hXle, hYle, hb'⟩))
        · go_simp
          obtain ⟨X, hXe⟩ : ∃ X, (((W0).alloc (.cells (cells12 noTrip) 99))).heap.size = X := ⟨_, rfl⟩
          have hX : Blk ((((W0).alloc (.cells (cells12 noTrip) 99))).alloc (.cells (cells12 noTrip) 99)) X 99 (cells12 noTrip) := by rw [← hXe]; exact blk_new _ _ _
          have hXle : B0 ≤ X := by rw [← hXe]; exact Nat.le_trans hBle.out hbn.size
          have hne : X ≠ Y := by have := blk_lt hY; rw [hXe] at this; omega
          replace hY := blk_on hY (box_below _ (.cells (cells12 noTrip) 99)) (blk_lt hY)
          replace hbn := hbn.alloc (Nat.le_trans hBle.out hbn.size) (.cells (cells12 noTrip) 99)
          (try simp only [World.size_alloc] at hXe)
          have HXE := Lib.hid hXe
          clear hXe
          refine hK.out _ _ ?_ (fun hHeld => ?_)
          · (try dsimp only); (first | exact hbn | exact hbn.drew)
          clear hK K
          (try rw [HXE.out])
          (try simp only [Act.put, List.setIfInBounds_toArray, List.set_cons_zero, List.set_cons_succ])
          refine wpAnyH_ready (rs := [1]) (by kernel_rfl) (by simp) ?_
          refine AllReadyH.cons rfl (fun K hK => ?_) AllReadyH.nil
          · go_simp
            refine (sterms_calls _ _ _ _ _ _ _ _ _ _ _ _ _).mono ?_
            rintro e wn33 ⟨rfl, hbv⟩
            (try replace hbv := from_drew hbv)
            replace hbn := fb2 hbn hbv hBle.out
            replace hX := blk_on hX hbv (blk_lt hX)
            replace hY := blk_on hY hbv (blk_lt hY)
            clear hbv
            go_wp2_with fail
            refine hK.out _ _ ?_ (fun hHeld => ?_)
            · (try dsimp only); (first | exact hbn | exact hbn.drew)
            clear hK K
            (try simp only [Act.put, List.setIfInBounds_toArray, List.set_cons_zero, List.set_cons_succ])
            refine wpAnyH_ready (rs := [3]) (by kernel_rfl) (by simp) ?_
            refine AllReadyH.cons rfl (fun K hK => ?_) AllReadyH.nil
            · go_simp
              refine (sterms_calls _ _ _ _ _ _ _ _ _ _ _ _ _).mono ?_
              rintro e wn34 ⟨rfl, hbv⟩
              (try replace hbv := from_drew hbv)
              replace hbn := fb2 hbn hbv hBle.out
              replace hX := blk_on hX hbv (blk_lt hX)
              replace hY := blk_on hY hbv (blk_lt hY)
              clear hbv
              go_wp2_with fail
              refine hK.out _ _ ?_ (fun hHeld => ?_)
              · (try dsimp only); (first | exact hbn | exact hbn.drew)
              clear hK K
              (try simp only [Act.put, List.setIfInBounds_toArray, List.set_cons_zero, List.set_cons_succ])
              first
                | (obtain ⟨WW, hWW⟩ : ∃ WW, ((wn34).drewN 3) = WW := ⟨_, rfl⟩; rw [hWW]; have hX' : Blk WW X 99 (cells12 noTrip) := (by rw [← hWW]; exact hX); have hY' : Blk WW Y 99 (cells12 noTrip) := (by rw [← hWW]; exact hY); have hb' : Below B0 W0 WW := (by rw [← hWW]; exact drewN_below hbn 3); exact Eq.mp (by kernel_rfl) (KEY WW X Y ⟨hX', hY', hne, hXle, hYle, hb'⟩))
                | (obtain ⟨WW, hWW⟩ : ∃ WW, ((wn34).drewN 2) = WW := ⟨_, rfl⟩; rw [hWW]; have hX' : Blk WW X 99 (cells12 noTrip) := (by rw [← hWW]; exact hX); have hY' : Blk WW Y 99 (cells12 noTrip) := (by rw [← hWW]; exact hY); have hb' : Below B0 W0 WW := (by rw [← hWW]; exact drewN_below hbn 2); exact Eq.mp (by kernel_rfl) (KEY WW X Y ⟨hX', hY', hne, hXle, hYle, hb'⟩))
                | (obtain ⟨WW, hWW⟩ : ∃ WW, ((wn34).drew.drew) = WW := ⟨_, rfl⟩; rw [hWW]; have hX' : Blk WW X 99 (cells12 noTrip) := (by rw [← hWW]; exact hX); have hY' : Blk WW Y 99 (cells12 noTrip) := (by rw [← hWW]; exact hY); have hb' : Below B0 W0 WW := (by rw [← hWW]; exact hbn.drew.drew); exact Eq.mp (by kernel_rfl) (KEY WW X Y ⟨hX', hY', hne, hXle, hYle, hb'⟩))
                | (obtain ⟨WW, hWW⟩ : ∃ WW, ((wn34).drew) = WW := ⟨_, rfl⟩; rw [hWW]; have hX' : Blk WW X 99 (cells12 noTrip) := (by rw [← hWW]; exact hX); have hY' : Blk WW Y 99 (cells12 noTrip) := (by rw [← hWW]; exact hY); have hb' : Below B0 W0 WW := (by rw [← hWW]; exact hbn.drew); exact Eq.mp (by kernel_rfl) (KEY WW X Y ⟨hX', hY', hne, hXle, hYle, hb'⟩))
                | (obtain ⟨WW, hWW⟩ : ∃ WW, (wn34) = WW := ⟨_, rfl⟩; rw [hWW]; have hX' : Blk WW X 99 (cells12 noTrip) := (by rw [← hWW]; exact hX); have hY' : Blk WW Y 99 (cells12 noTrip) := (by rw [← hWW]; exact hY); have hb' : Below B0 W0 WW := (by rw [← hWW]; exact hbn); exact Eq.mp (by kernel_rfl) (KEY WW X Y ⟨hX', hY', hne, hXle, hYle, hb'⟩))
    case key =>
      rintro W X Y ⟨hX, hY, hne, hXle, hYle, hbn⟩
      refine wpAnyH_ready (rs := [6]) (by kernel_rfl) (by simp) ?_
      refine AllReadyH.cons rfl (fun K hK => ?_) AllReadyH.nil
      refine wp_store_row 99 (.tmp 9) (.tmp 14) rfl X #[.int .i64 ak, .string (bs ax), .string (bs ay), .string (bs az), .int .i64 bk, .string (bs bx), .string (bs by'), .string (bs bz), .int .i64 ck, .string (bs cx), .string (bs cy), .string (bs cz)] (by kernel_rfl) (by kernel_rfl) 99 (cells12 noTrip) (hX) (by kernel_rfl) rfl (by kernel_rfl) ?_
      replace hY := blk_row_other hY hne.symm #[.int .i64 ak, .string (bs ax), .string (bs ay), .string (bs az), .int .i64 bk, .string (bs bx), .string (bs by'), .string (bs bz), .int .i64 ck, .string (bs cx), .string (bs cy), .string (bs cz)]
      replace hX := blk_row hX #[.int .i64 ak, .string (bs ax), .string (bs ay), .string (bs az), .int .i64 bk, .string (bs bx), .string (bs by'), .string (bs bz), .int .i64 ck, .string (bs cx), .string (bs cy), .string (bs cz)]
      replace hbn := below_row hbn hXle #[.int .i64 ak, .string (bs ax), .string (bs ay), .string (bs az), .int .i64 bk, .string (bs bx), .string (bs by'), .string (bs bz), .int .i64 ck, .string (bs cx), .string (bs cy), .string (bs cz)]
      (try simp only [Act.put])
      refine hK.out _ _ ?_ (fun hHeld => ?_)
      · (try dsimp only); first | exact hbn | exact hbn.drew
      clear hK K
      refine wpAnyH_ready (rs := [7]) (by kernel_rfl) (by simp) ?_
      refine AllReadyH.cons rfl (fun K hK => ?_) AllReadyH.nil
      refine wp_store_row 99 (.tmp 10) (.tmp 16) rfl Y #[.int .i64 ak2, .string (bs ax2), .string (bs ay2), .string (bs az2), .int .i64 bk2, .string (bs bx2), .string (bs by2), .string (bs bz2), .int .i64 ck2, .string (bs cx2), .string (bs cy2), .string (bs cz2)] (by kernel_rfl) (by kernel_rfl) 99 (cells12 noTrip) (hY) (by kernel_rfl) rfl (by kernel_rfl) ?_
      replace hX := blk_row_other hX hne #[.int .i64 ak2, .string (bs ax2), .string (bs ay2), .string (bs az2), .int .i64 bk2, .string (bs bx2), .string (bs by2), .string (bs bz2), .int .i64 ck2, .string (bs cx2), .string (bs cy2), .string (bs cz2)]
      replace hY := blk_row hY #[.int .i64 ak2, .string (bs ax2), .string (bs ay2), .string (bs az2), .int .i64 bk2, .string (bs bx2), .string (bs by2), .string (bs bz2), .int .i64 ck2, .string (bs cx2), .string (bs cy2), .string (bs cz2)]
      replace hbn := below_row hbn hYle #[.int .i64 ak2, .string (bs ax2), .string (bs ay2), .string (bs az2), .int .i64 bk2, .string (bs bx2), .string (bs by2), .string (bs bz2), .int .i64 ck2, .string (bs cx2), .string (bs cy2), .string (bs cz2)]
      (try simp only [Act.put])
      refine hK.out _ _ ?_ (fun hHeld => ?_)
      · (try dsimp only); first | exact hbn | exact hbn.drew
      clear hK K
      refine wpAnyH_done (by kernel_rfl) ?_ _
      go_wp2_with fail
      go_meet
      exact ⟨X, Y, rfl, rfl, hX, hY, hb0.trans (by first | exact hbn.mono (by have := hx1.out; omega) | exact (hbn.mono (by have := hx1.out; omega)).drew)⟩
  case rest =>
    obtain ⟨X, Y, rfl, rfl, hX, hY, hb⟩ := hcut
    rw [← HA.out] at hX
    rw [← HB.out] at hY
    have HX := Lib.hid hX
    have HY := Lib.hid hY
    clear hX hY
    go_wp2
    go_loopw [18] (fun i wr => ∃ k : Nat, k ≤ n ∧ i = .int .i64 k ∧ Below wc.heap.size wc wr ∧ Hid (cmpK a0 b0 (f + k) (n - k) = C)) (fun i _ => n - (intOf i).toNat)
    case atStart => exact ⟨0, Nat.zero_le _, rfl, Below.refl _ _, HC.out⟩
    case round =>
      obtain ⟨k, hk, rfl, hbw, hK⟩ := hrel
      by_cases hlt : k < n
      · obtain ⟨m, hm⟩ : ∃ m, (f + k) % 3 = m := ⟨_, rfl⟩
        have h3 : m < 3 := by omega
        have hrem := rem3 f k m hm
        have g1 : (0 : Int) ≤ (k : Int) := by omega
        have g2 : (k : Int) < (n : Int) := by omega
        have g3 : (m : Int) < 3 := by omega
        have g4 : (0 : Int) ≤ (m : Int) := by omega
        have hX2 := blk_on HX.out hbw (blk_lt HX.out)
        have hY2 := blk_on HY.out hbw (blk_lt HY.out)
        obtain ⟨x0, x1, x2, x3⟩ := blk_at3 hX2 m h3
        obtain ⟨y0, y1, y2, y3⟩ := blk_at3 hY2 m h3
        have hpx := blk_lt hX2
        have hpy := blk_lt hY2
        clear hX2 hY2
        have hneq := fun W => neq_term (at3 a0 m) (at3 b0 m) W
        have HE : at3 a0 m = at3 b0 m → Hid (cmpK a0 b0 (f + (k + 1)) (n - (k + 1)) = C) := fun e => by rw [← hm] at e; exact (cmpK_eq hlt e).symm.trans hK.out
        have HN : at3 a0 m ≠ at3 b0 m → Hid ((at3 a0 m).cmp (at3 b0 m) = C) := fun e => by rw [← hm] at e ⊢; exact (cmpK_ne hlt e).symm.trans hK.out
        clear hK hm
        generalize at3 a0 m = u at x0 x1 x2 x3 hneq HE HN
        generalize at3 b0 m = v at y0 y1 y2 y3 hneq HE HN
        by_cases hq : u = v
        · have HE' := HE hq
          subst hq
          have hneq' : ∀ W, (binOp .neq 27 (.agg #[.int .i64 u.k, .string (bs u.x), .string (bs u.y), .string (bs u.z)]) (.agg #[.int .i64 u.k, .string (bs u.x), .string (bs u.y), .string (bs u.z)])).run Tryz.prog W = .ok (.bool false) W := fun W => by
            have := hneq W; rw [teq_self] at this; exact this
          clear hneq HE HN
          go_wp2
          go_quiet (fail)
          go_wp2
          go_roundw
          case rel => exact ⟨k + 1, by omega, by go_num, drewN_below hbw _, HE'⟩
          case measure => simp [intOf]; omega
        · have HN' := HN hq
          have hneq' : ∀ W, (binOp .neq 27 (.agg #[.int .i64 u.k, .string (bs u.x), .string (bs u.y), .string (bs u.z)]) (.agg #[.int .i64 v.k, .string (bs v.x), .string (bs v.y), .string (bs v.z)])).run Tryz.prog W = .ok (.bool true) W := fun W => by
            have := hneq W; rw [teq_ne hq] at this; exact this
          clear hneq HE HN
          go_wp2
          go_quiet (fail)
          go_wp2_with fail
          refine wp_region_held_drew (S := (fun W => Below wr.heap.size wr W)) (by kernel_rfl) ?_ (fun hHeld => ?_)
          · (try dsimp only); first | exact Below.refl _ _ | exact (Below.refl _ _).drew | exact drewN_below (Below.refl _ _) _ | exact (drewN_below (Below.refl _ _) _).drew
          refine wpAnyH_take (i := 0) (v := ?_) rfl (by kernel_rfl) (by kernel_rfl) (by kernel_rfl) (fun _ _ _ h => h) (Or.inl ⟨by rfl, ?_⟩) (by assumption) ?_
          rotate_left
          · (intro ww hSw; (try dsimp only at hSw); go_simp); (try with_reducible rfl)
          (try simp only [Act.put])
          refine wpAnyH_take (i := 1) (v := ?_) rfl (by kernel_rfl) (by kernel_rfl) (by kernel_rfl) (fun _ _ _ h => h) (Or.inl ⟨by rfl, ?_⟩) (by assumption) ?_
          rotate_left
          · (intro ww hSw; (try dsimp only at hSw); go_simp); (try with_reducible rfl)
          (try simp only [Act.put])
          refine wpAnyH_take (i := 2) (v := ?_) rfl (by kernel_rfl) (by kernel_rfl) (by kernel_rfl) (fun _ _ _ h => h) (Or.inl ⟨by kernel_rfl, ?_⟩) (by assumption) ?_
          rotate_left
          · (intro ww hSw; (try dsimp only at hSw); have c0 := keptC x0 hSw hpx; have c1 := keptC x1 hSw hpx; have c2 := keptC x2 hSw hpx; have c3 := keptC x3 hSw hpx; go_simp); (try with_reducible rfl)
          (try simp only [Act.put])
          refine wpAnyH_take (i := 3) (v := ?_) rfl (by kernel_rfl) (by kernel_rfl) (by kernel_rfl) (fun _ _ _ h => h) (Or.inl ⟨by rfl, ?_⟩) (by assumption) ?_
          rotate_left
          · (intro ww hSw; (try dsimp only at hSw); go_simp); (try with_reducible rfl)
          (try simp only [Act.put])
          refine wpAnyH_take (i := 4) (v := ?_) rfl (by kernel_rfl) (by kernel_rfl) (by kernel_rfl) (fun _ _ _ h => h) (Or.inl ⟨by rfl, ?_⟩) (by assumption) ?_
          rotate_left
          · (intro ww hSw; (try dsimp only at hSw); go_simp); (try with_reducible rfl)
          (try simp only [Act.put])
          refine wpAnyH_take (i := 5) (v := ?_) rfl (by kernel_rfl) (by kernel_rfl) (by kernel_rfl) (fun _ _ _ h => h) (Or.inl ⟨by kernel_rfl, ?_⟩) (by assumption) ?_
          rotate_left
          · (intro ww hSw; (try dsimp only at hSw); have c0 := keptC y0 hSw hpy; have c1 := keptC y1 hSw hpy; have c2 := keptC y2 hSw hpy; have c3 := keptC y3 hSw hpy; go_simp); (try with_reducible rfl)
          (try simp only [Act.put])
          refine wpAnyH_ready (rs := [6]) (by kernel_rfl) (by simp) ?_
          refine AllReadyH.cons rfl (fun K hK => ?_) AllReadyH.nil
          go_simp
          refine (Compare_calls u.k (bs u.x) (bs u.y) (bs u.z) v.k (bs v.x) (bs v.y) (bs v.z) _).mono ?_
          rintro e w2 ⟨rfl, hbv⟩
          (first | replace hbv := from_drew hbv | replace hbv := from_drewN hbv | skip)
          simp only [bs_data]
          go_wp2_with fail
          refine hK.out _ _ ?_ (fun hHeld => ?_)
          · (try dsimp only); first | exact hbv | exact hbv.drew
          clear hK K
          (try simp only [Act.put, List.setIfInBounds_toArray, List.set_cons_zero, List.set_cons_succ])
          refine wpAnyH_take (i := 7) (oi := ⟨some 8, _, _, _, _, _⟩) (v := ?_) rfl (by kernel_rfl) (by kernel_rfl) (by kernel_rfl) (fun _ _ _ h => h) (Or.inl ⟨by rfl, ?_⟩) (by assumption) ?_
          rotate_left
          · (intro ww hSw; (try dsimp only at hSw); go_simp); (try with_reducible rfl)
          (try simp only [Act.put])
          refine wpAnyH_done (by kernel_rfl) ?_ _
          go_wp2
          go_ret
          exact ⟨by first | rfl | (rw [← HN'.out]; rfl), by first | exact first_below (first_below hb hbw) hbv | exact (first_below (first_below hb hbw) hbv).drew⟩
      · obtain rfl : k = n := by omega
        have HZ := hK.out
        rw [Nat.sub_self] at HZ
        have HZ' := Lib.hid HZ
        clear HZ hK
        go_wp2
        go_ret
        exact ⟨by rw [← HZ'.out]; rfl, first_below hb hbw⟩
  

end Go.Proofs.YtnojdchodmogbaaGreat
