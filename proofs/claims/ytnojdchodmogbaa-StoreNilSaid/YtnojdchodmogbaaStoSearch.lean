/- The piece of a list that a pattern's given terms choose: sort.Search, package store's near. -/
import Derived.Test.YtnojdchodmogbaaStoGiven
import Derived.Test.YtnojdchodmogbaaStoSegPlain
namespace Go.Proofs.Ytnojdchodmogbaa
open Go.RowKit

/- sort.Search over a function that says no up to some place, and yes from there on -/
def SearchT (P : Nat → Bool) (N : Nat) (w : World) (e : Ending) (w' : World) : Prop := ∃ k : Nat, e = .returned (.int .i64 k) ∧ Edge P N k ∧ Below w.heap.size w w'

set_option maxRecDepth 100000 in
set_option maxHeartbeats 2000000 in
theorem search_calls (g : Nat) (lb : Array Value) (eg : ∀ args w, (callFunc g args).run Try.prog w = .ok (.enter g args) w) (P : Nat → Bool) (N : Nat) (hN : N ≤ 1000000) (w : World)
    (hm : ∀ a b, a ≤ b → b < N → P a = true → P b = true)
    (hcall : ∀ (W : World) (j : Nat), Below w.heap.size w W → j < N → Calls Try.prog g (#[.int .i64 j] ++ lb) W fun e w' => e = .returned (.bool (P j)) ∧ Below W.heap.size W w') :
    Calls Try.prog 45 #[.int .i64 N, .func (.func g) #[] lb] w (SearchT P N w) := by
  have HC := Lib.hid hcall
  have HM := Lib.hid hm
  clear hcall hm
  go_enter Try.func45, Try.ntmps45
  go_wp2
  go_loopg [5, 6] N (fun kx s9 s10 wr => ∃ lo hi : Nat, s9 = .int .i64 lo ∧ s10 = .int .i64 hi ∧ lo ≤ hi ∧ hi ≤ N ∧ hi - lo ≤ kx ∧ Hid (Below w.heap.size w wr) ∧ Hid ((∀ j, j < lo → P j = false) ∧ (∀ j, hi ≤ j → j < N → P j = true)))
  case atStart => exact ⟨0, N, rfl, rfl, Nat.zero_le _, Nat.le_refl _, by omega, Below.refl _ _, (show (∀ j, j < 0 → P j = false) ∧ (∀ j, N ≤ j → j < N → P j = true) from ⟨fun j h => by omega, fun j h h2 => by omega⟩)⟩
  case round =>
    obtain ⟨lo, hi, rfl, rfl, hlh, hin, hgk, BW, IV⟩ := hrel
    by_cases hlt : lo < hi
    · obtain ⟨m, hm⟩ : ∃ m, (lo + hi) / 2 = m := ⟨_, rfl⟩
      have hmid : ((lo : Int) + (hi : Int)) / 2 = (m : Int) := by omega
      have hmN : m < N := by omega
      have hli : (lo : Int) < (hi : Int) := by omega
      have HMM := Lib.hid hm
      clear hm
      have hc := HC.out wr m BW.out hmN
      cases hP : P m with
      | false =>
        rw [hP] at hc
        have HP := Lib.hid hP
        clear hP
        go_wp2_with (go_at_fn g; refine hc.mono ?_; rintro e w2 ⟨rfl, hbv⟩)
        go_roundg (hi - (m + 1))
        case measure => have := HMM.out; omega
        case rel =>
          have hm := HMM.out
          have hI1 : ∀ j, j < m + 1 → P j = false := fun j hj => by
            cases hq : P j with
            | false => rfl
            | true =>
              have := HM.out j m (by omega) hmN hq
              rw [HP.out] at this
              exact this.symm
          have I2 : Hid ((∀ j, j < m + 1 → P j = false) ∧ (∀ j, hi ≤ j → j < N → P j = true)) := ⟨hI1, IV.out.2⟩
          exact ⟨m + 1, hi, by go_num, rfl, by omega, hin, Nat.le_refl _, first_below BW.out hbv, I2⟩
      | true =>
        rw [hP] at hc
        have HP := Lib.hid hP
        clear hP
        go_wp2_with (go_at_fn g; refine hc.mono ?_; rintro e w2 ⟨rfl, hbv⟩)
        go_roundg (m - lo)
        case measure => have := HMM.out; omega
        case rel =>
          have hm := HMM.out
          have I2 : Hid ((∀ j, j < lo → P j = false) ∧ (∀ j, m ≤ j → j < N → P j = true)) := ⟨IV.out.1, fun j h1 h2 => HM.out m j h1 h2 HP.out⟩
          exact ⟨lo, m, rfl, by go_num, by omega, by omega, Nat.le_refl _, first_below BW.out hbv, I2⟩
    · obtain rfl : hi = lo := by omega
      go_wp2
      go_ret
      exact ⟨hi, rfl, ⟨hin, IV.out⟩, BW.out⟩

/- what near's functions see: a list, a pattern, two numbers, each in a block of its own -/
structure Seen (W : World) (bl bp bf bn g cap f n : Nat) (l : List TripL) (p : TripL) : Prop where
  cl : W.cell? ⟨bl, 0, none⟩ = some (.slice (some ⟨g, 0, none⟩) l.length cap)
  cp : Box12 W bp p
  cf : W.cell? ⟨bf, 0, none⟩ = some (.int .i64 f)
  cn : W.cell? ⟨bn, 0, none⟩ = some (.int .i64 n)
  row : ∀ j (h : j < l.length), Cells12 W g j l[j]
  lt : bl < W.heap.size ∧ bp < W.heap.size ∧ bf < W.heap.size ∧ bn < W.heap.size ∧ g < W.heap.size
theorem seen_on {W W' : World} {bl bp bf bn g cap f n B : Nat} {l : List TripL} {p : TripL} (h : Seen W bl bp bf bn g cap f n l p) (hb : Below B W W') (hB : W.heap.size ≤ B) : Seen W' bl bp bf bn g cap f n l p := by
  obtain ⟨l1, l2, l3, l4, l5⟩ := h.lt
  have hs := hb.size
  exact ⟨keptC h.cl hb (by omega), box_on h.cp hb (by omega), keptC h.cf hb (by omega), keptC h.cn hb (by omega), fun j hj => cells_on (h.row j hj) hb (by omega), by omega, by omega, by omega, by omega, by omega⟩

set_option maxRecDepth 100000 in
set_option maxHeartbeats 4000000 in
theorem near1_calls (bl bp bf bn g cap f n j : Nat) (l : List TripL) (p : TripL) (hf : f ≤ 2) (hn : n ≤ 3) (hj : j < l.length) (w : World) (h : Seen w bl bp bf bn g cap f n l p) :
    Calls Try.prog 46 #[.int .i64 j, .pointer (some ⟨bl, 0, none⟩), .pointer (some ⟨bp, 0, none⟩), .pointer (some ⟨bf, 0, none⟩), .pointer (some ⟨bn, 0, none⟩)] w fun e w' => e = .returned (.bool (decide (0 ≤ cmpK l[j] p f n))) ∧ Below w.heap.size w w' := by
  have H := Lib.hid h
  have cm := Lib.hid (h.row j hj)
  generalize l[j] = y at cm
  obtain ⟨N, hN⟩ : ∃ N, l.length = N := ⟨_, rfl⟩
  have cl := h.cl
  rw [hN] at cl hj
  have CL := Lib.hid cl
  have hjN : (j : Int) < (N : Int) := by omega
  have hj0 : (0 : Int) ≤ (j : Int) := by omega
  clear h hN cl
  obtain ⟨C, hC⟩ : ∃ C, cmpK y p f n = C := ⟨_, rfl⟩
  have HCC := Lib.hid hC
  rw [hC]
  clear hC
  go_enter Try.func46, Try.ntmps46
  go_wp2_with fail
  refine wp_region_held_drew (S := (fun W => Below w.heap.size w W)) (by kernel_rfl) ?_ (fun hHeld => ?_)
  · (try dsimp only); first | exact Below.refl _ _ | exact (Below.refl _ _).drew
  refine wpAnyH_take (i := 0) (oi := ⟨some 7, _, _, _, _, _⟩) (v := ?_) rfl (by kernel_rfl) (by kernel_rfl) (by kernel_rfl) (fun _ _ _ h => h) (Or.inl ⟨by kernel_rfl, ?_⟩) (by assumption) ?_
  rotate_left
  · (intro ww hSw; (try dsimp only at hSw); have c0 := keptC CL.out hSw H.out.lt.1; go_simp); (try with_reducible rfl)
  (try simp only [Act.put, List.setIfInBounds_toArray, List.set_cons_zero, List.set_cons_succ])
  refine wpAnyH_take (i := 1) (oi := ⟨some 8, _, _, _, _, _⟩) (v := ?_) rfl (by kernel_rfl) (by kernel_rfl) (by kernel_rfl) (fun _ _ _ h => h) (Or.inl ⟨by kernel_rfl, ?_⟩) (by assumption) ?_
  rotate_left
  · (intro ww hSw; (try dsimp only at hSw); go_simp); (try with_reducible rfl)
  (try simp only [Act.put, List.setIfInBounds_toArray, List.set_cons_zero, List.set_cons_succ])
  refine wpAnyH_take (i := 2) (oi := ⟨some 9, _, _, _, _, _⟩) (v := ?_) rfl (by kernel_rfl) (by kernel_rfl) (by kernel_rfl) (fun _ _ _ h => h) (Or.inl ⟨by kernel_rfl, ?_⟩) (by assumption) ?_
  rotate_left
  · (intro ww hSw; (try dsimp only at hSw); go_simp); (try with_reducible rfl)
  (try simp only [Act.put, List.setIfInBounds_toArray, List.set_cons_zero, List.set_cons_succ])
  refine wpAnyH_take (i := 3) (oi := ⟨some 10, _, _, _, _, _⟩) (v := ?_) rfl (by kernel_rfl) (by kernel_rfl) (by kernel_rfl) (fun _ _ _ h => h) (Or.inl ⟨by kernel_rfl, ?_⟩) (by assumption) ?_
  rotate_left
  · (intro ww hSw; (try dsimp only at hSw); obtain ⟨⟨c0, c1, c2, c3⟩, ⟨c4, c5, c6, c7⟩, ⟨c8, c9, c10, c11⟩⟩ := cells_on cm.out hSw H.out.lt.2.2.2.2; go_simp); (try with_reducible rfl)
  (try simp only [Act.put, List.setIfInBounds_toArray, List.set_cons_zero, List.set_cons_succ])
  refine wpAnyH_take (i := 4) (oi := ⟨some 11, _, _, _, _, _⟩) (v := ?_) rfl (by kernel_rfl) (by kernel_rfl) (by kernel_rfl) (fun _ _ _ h => h) (Or.inl ⟨by kernel_rfl, ?_⟩) (by assumption) ?_
  rotate_left
  · (intro ww hSw; (try dsimp only at hSw); obtain ⟨⟨c0, c1, c2, c3⟩, ⟨c4, c5, c6, c7⟩, ⟨c8, c9, c10, c11⟩⟩ := box_on H.out.cp hSw H.out.lt.2.1; go_simp); (try with_reducible rfl)
  (try simp only [Act.put, List.setIfInBounds_toArray, List.set_cons_zero, List.set_cons_succ])
  refine wpAnyH_take (i := 5) (oi := ⟨some 12, _, _, _, _, _⟩) (v := ?_) rfl (by kernel_rfl) (by kernel_rfl) (by kernel_rfl) (fun _ _ _ h => h) (Or.inl ⟨by kernel_rfl, ?_⟩) (by assumption) ?_
  rotate_left
  · (intro ww hSw; (try dsimp only at hSw); have c0 := keptC H.out.cf hSw H.out.lt.2.2.1; go_simp); (try with_reducible rfl)
  (try simp only [Act.put, List.setIfInBounds_toArray, List.set_cons_zero, List.set_cons_succ])
  refine wpAnyH_take (i := 6) (oi := ⟨some 13, _, _, _, _, _⟩) (v := ?_) rfl (by kernel_rfl) (by kernel_rfl) (by kernel_rfl) (fun _ _ _ h => h) (Or.inl ⟨by kernel_rfl, ?_⟩) (by assumption) ?_
  rotate_left
  · (intro ww hSw; (try dsimp only at hSw); have c0 := keptC H.out.cn hSw H.out.lt.2.2.2.1; go_simp); (try with_reducible rfl)
  (try simp only [Act.put, List.setIfInBounds_toArray, List.set_cons_zero, List.set_cons_succ])
  refine wpAnyH_ready (rs := [7]) (by kernel_rfl) (by simp) ?_
  refine AllReadyH.cons rfl (fun K hK => ?_) AllReadyH.nil
  go_simp
  refine (scompare_calls y p f n hf hn _).mono ?_
  rintro e w2 ⟨rfl, hbv⟩
  (first | replace hbv := from_drew hbv | replace hbv := from_drewN hbv | skip)
  rw [HCC.out]
  go_wp2_with fail
  refine hK.out _ _ ?_ (fun hHeld => ?_)
  · (try dsimp only); first | exact hbv | exact hbv.drew
  clear hK K
  (try simp only [Act.put, List.setIfInBounds_toArray, List.set_cons_zero, List.set_cons_succ])
  refine wpAnyH_take (i := 8) (oi := ⟨some 15, _, _, _, _, _⟩) (v := ?_) rfl (by kernel_rfl) (by kernel_rfl) (by kernel_rfl) (fun _ _ _ h => h) (Or.inl ⟨by kernel_rfl, ?_⟩) (by assumption) ?_
  rotate_left
  · (intro ww hSw; (try dsimp only at hSw); go_simp); (try with_reducible rfl)
  (try simp only [Act.put, List.setIfInBounds_toArray, List.set_cons_zero, List.set_cons_succ])
  refine wpAnyH_take (i := 9) (oi := ⟨some 6, _, _, _, _, _⟩) (v := ?_) rfl (by kernel_rfl) (by kernel_rfl) (by kernel_rfl) (fun _ _ _ h => h) (Or.inl ⟨by kernel_rfl, ?_⟩) (by assumption) ?_
  rotate_left
  · (intro ww hSw; (try dsimp only at hSw); go_simp); (try with_reducible rfl)
  (try simp only [Act.put, List.setIfInBounds_toArray, List.set_cons_zero, List.set_cons_succ])
  refine wpAnyH_done (by kernel_rfl) ?_ _
  go_wp2
  go_ret
  exact ⟨rfl, by first | exact hbv | exact hbv.drew⟩

set_option maxRecDepth 100000 in
set_option maxHeartbeats 4000000 in
theorem near2_calls (bl bp bf bn g cap f n j : Nat) (l : List TripL) (p : TripL) (hf : f ≤ 2) (hn : n ≤ 3) (hj : j < l.length) (w : World) (h : Seen w bl bp bf bn g cap f n l p) :
    Calls Try.prog 47 #[.int .i64 j, .pointer (some ⟨bl, 0, none⟩), .pointer (some ⟨bp, 0, none⟩), .pointer (some ⟨bf, 0, none⟩), .pointer (some ⟨bn, 0, none⟩)] w fun e w' => e = .returned (.bool (decide (0 < cmpK l[j] p f n))) ∧ Below w.heap.size w w' := by
  have H := Lib.hid h
  have cm := Lib.hid (h.row j hj)
  generalize l[j] = y at cm
  obtain ⟨N, hN⟩ : ∃ N, l.length = N := ⟨_, rfl⟩
  have cl := h.cl
  rw [hN] at cl hj
  have CL := Lib.hid cl
  have hjN : (j : Int) < (N : Int) := by omega
  have hj0 : (0 : Int) ≤ (j : Int) := by omega
  clear h hN cl
  obtain ⟨C, hC⟩ : ∃ C, cmpK y p f n = C := ⟨_, rfl⟩
  have HCC := Lib.hid hC
  rw [hC]
  clear hC
  go_enter Try.func47, Try.ntmps47
  go_wp2_with fail
  refine wp_region_held_drew (S := (fun W => Below w.heap.size w W)) (by kernel_rfl) ?_ (fun hHeld => ?_)
  · (try dsimp only); first | exact Below.refl _ _ | exact (Below.refl _ _).drew
  refine wpAnyH_take (i := 0) (oi := ⟨some 7, _, _, _, _, _⟩) (v := ?_) rfl (by kernel_rfl) (by kernel_rfl) (by kernel_rfl) (fun _ _ _ h => h) (Or.inl ⟨by kernel_rfl, ?_⟩) (by assumption) ?_
  rotate_left
  · (intro ww hSw; (try dsimp only at hSw); have c0 := keptC CL.out hSw H.out.lt.1; go_simp); (try with_reducible rfl)
  (try simp only [Act.put, List.setIfInBounds_toArray, List.set_cons_zero, List.set_cons_succ])
  refine wpAnyH_take (i := 1) (oi := ⟨some 8, _, _, _, _, _⟩) (v := ?_) rfl (by kernel_rfl) (by kernel_rfl) (by kernel_rfl) (fun _ _ _ h => h) (Or.inl ⟨by kernel_rfl, ?_⟩) (by assumption) ?_
  rotate_left
  · (intro ww hSw; (try dsimp only at hSw); go_simp); (try with_reducible rfl)
  (try simp only [Act.put, List.setIfInBounds_toArray, List.set_cons_zero, List.set_cons_succ])
  refine wpAnyH_take (i := 2) (oi := ⟨some 9, _, _, _, _, _⟩) (v := ?_) rfl (by kernel_rfl) (by kernel_rfl) (by kernel_rfl) (fun _ _ _ h => h) (Or.inl ⟨by kernel_rfl, ?_⟩) (by assumption) ?_
  rotate_left
  · (intro ww hSw; (try dsimp only at hSw); go_simp); (try with_reducible rfl)
  (try simp only [Act.put, List.setIfInBounds_toArray, List.set_cons_zero, List.set_cons_succ])
  refine wpAnyH_take (i := 3) (oi := ⟨some 10, _, _, _, _, _⟩) (v := ?_) rfl (by kernel_rfl) (by kernel_rfl) (by kernel_rfl) (fun _ _ _ h => h) (Or.inl ⟨by kernel_rfl, ?_⟩) (by assumption) ?_
  rotate_left
  · (intro ww hSw; (try dsimp only at hSw); obtain ⟨⟨c0, c1, c2, c3⟩, ⟨c4, c5, c6, c7⟩, ⟨c8, c9, c10, c11⟩⟩ := cells_on cm.out hSw H.out.lt.2.2.2.2; go_simp); (try with_reducible rfl)
  (try simp only [Act.put, List.setIfInBounds_toArray, List.set_cons_zero, List.set_cons_succ])
  refine wpAnyH_take (i := 4) (oi := ⟨some 11, _, _, _, _, _⟩) (v := ?_) rfl (by kernel_rfl) (by kernel_rfl) (by kernel_rfl) (fun _ _ _ h => h) (Or.inl ⟨by kernel_rfl, ?_⟩) (by assumption) ?_
  rotate_left
  · (intro ww hSw; (try dsimp only at hSw); obtain ⟨⟨c0, c1, c2, c3⟩, ⟨c4, c5, c6, c7⟩, ⟨c8, c9, c10, c11⟩⟩ := box_on H.out.cp hSw H.out.lt.2.1; go_simp); (try with_reducible rfl)
  (try simp only [Act.put, List.setIfInBounds_toArray, List.set_cons_zero, List.set_cons_succ])
  refine wpAnyH_take (i := 5) (oi := ⟨some 12, _, _, _, _, _⟩) (v := ?_) rfl (by kernel_rfl) (by kernel_rfl) (by kernel_rfl) (fun _ _ _ h => h) (Or.inl ⟨by kernel_rfl, ?_⟩) (by assumption) ?_
  rotate_left
  · (intro ww hSw; (try dsimp only at hSw); have c0 := keptC H.out.cf hSw H.out.lt.2.2.1; go_simp); (try with_reducible rfl)
  (try simp only [Act.put, List.setIfInBounds_toArray, List.set_cons_zero, List.set_cons_succ])
  refine wpAnyH_take (i := 6) (oi := ⟨some 13, _, _, _, _, _⟩) (v := ?_) rfl (by kernel_rfl) (by kernel_rfl) (by kernel_rfl) (fun _ _ _ h => h) (Or.inl ⟨by kernel_rfl, ?_⟩) (by assumption) ?_
  rotate_left
  · (intro ww hSw; (try dsimp only at hSw); have c0 := keptC H.out.cn hSw H.out.lt.2.2.2.1; go_simp); (try with_reducible rfl)
  (try simp only [Act.put, List.setIfInBounds_toArray, List.set_cons_zero, List.set_cons_succ])
  refine wpAnyH_ready (rs := [7]) (by kernel_rfl) (by simp) ?_
  refine AllReadyH.cons rfl (fun K hK => ?_) AllReadyH.nil
  go_simp
  refine (scompare_calls y p f n hf hn _).mono ?_
  rintro e w2 ⟨rfl, hbv⟩
  (first | replace hbv := from_drew hbv | replace hbv := from_drewN hbv | skip)
  rw [HCC.out]
  go_wp2_with fail
  refine hK.out _ _ ?_ (fun hHeld => ?_)
  · (try dsimp only); first | exact hbv | exact hbv.drew
  clear hK K
  (try simp only [Act.put, List.setIfInBounds_toArray, List.set_cons_zero, List.set_cons_succ])
  refine wpAnyH_take (i := 8) (oi := ⟨some 15, _, _, _, _, _⟩) (v := ?_) rfl (by kernel_rfl) (by kernel_rfl) (by kernel_rfl) (fun _ _ _ h => h) (Or.inl ⟨by kernel_rfl, ?_⟩) (by assumption) ?_
  rotate_left
  · (intro ww hSw; (try dsimp only at hSw); go_simp); (try with_reducible rfl)
  (try simp only [Act.put, List.setIfInBounds_toArray, List.set_cons_zero, List.set_cons_succ])
  refine wpAnyH_take (i := 9) (oi := ⟨some 6, _, _, _, _, _⟩) (v := ?_) rfl (by kernel_rfl) (by kernel_rfl) (by kernel_rfl) (fun _ _ _ h => h) (Or.inl ⟨by kernel_rfl, ?_⟩) (by assumption) ?_
  rotate_left
  · (intro ww hSw; (try dsimp only at hSw); go_simp); (try with_reducible rfl)
  (try simp only [Act.put, List.setIfInBounds_toArray, List.set_cons_zero, List.set_cons_succ])
  refine wpAnyH_done (by kernel_rfl) ?_ _
  go_wp2
  go_ret
  exact ⟨rfl, by first | exact hbv | exact hbv.drew⟩


end Go.Proofs.Ytnojdchodmogbaa
