/- The piece of a list that a pattern's given terms choose: sort.Search, package store's near. The piece of a store's list that a pattern's given terms choose: package store's near. -/
import Derived.Test.YtnojdchodmogbaaGreatStoGiven
import Derived.Test.YtnojdchodmogbaaGreatStoPlains
namespace Go.Proofs.YtnojdchodmogbaaGreat
open Go.RowKit

/- sort.Search over a function that says no up to some place, and yes from there on -/
def SearchT (P : Nat → Bool) (N : Nat) (w : World) (e : Ending) (w' : World) : Prop := ∃ k : Nat, e = .returned (.int .i64 k) ∧ Edge P N k ∧ Below w.heap.size w w'

set_option maxRecDepth 100000 in
set_option maxHeartbeats 2000000 in
theorem search_calls (g : Nat) (lb : Array Value) (eg : ∀ args w, (callFunc g args).run Tryz.prog w = .ok (.enter g args) w) (P : Nat → Bool) (N : Nat) (hN : N ≤ 1000000) (w : World)
    (hm : ∀ a b, a ≤ b → b < N → P a = true → P b = true)
    (hcall : ∀ (W : World) (j : Nat), Below w.heap.size w W → j < N → Calls Tryz.prog g (#[.int .i64 j] ++ lb) W fun e w' => e = .returned (.bool (P j)) ∧ Below W.heap.size W w') :
    Calls Tryz.prog 71 #[.int .i64 N, .func (.func g) #[] lb] w (SearchT P N w) := by
  have HC := Lib.hid hcall
  have HM := Lib.hid hm
  clear hcall hm
  go_enter Tryz.func71, Tryz.ntmps71
  go_wp2
  go_loopg [5, 6] N (fun kx s9 s10 wr => ∃ lo hi : Nat, s9 = .int .i64 lo ∧ s10 = .int .i64 hi ∧ lo ≤ hi ∧ hi ≤ N ∧ hi - lo ≤ kx ∧ Hid (Below w.heap.size w wr) ∧ Hid ((∀ j, j < lo → P j = false) ∧ (∀ j, hi ≤ j → j < N → P j = true)))
  case atStart => exact ⟨0, N, rfl, rfl, Nat.zero_le _, Nat.le_refl _, by omega, Below.refl _ _, (show (∀ j, j < 0 → P j = false) ∧ (∀ j, N ≤ j → j < N → P j = true) from ⟨fun j h => by omega, fun j h h2 => by omega⟩)⟩
  case round =>
    obtain ⟨lo, hi, rfl, rfl, hlh, hin, hgk, BW, IV⟩ := hrel
    by_cases hlt : lo < hi
    · obtain ⟨m, hm⟩ : ∃ m, (lo + hi) / 2 = m := ⟨_, rfl⟩
      have hmid : ((lo : Int) + (hi : Int)) / 2 = (m : Int) := by omega
      have hmN : m < N := by omega
      have hli : (lo : Int) < (hi : Int) := by omega
      have HMM := Lib.hid hm
      clear hm
      have hc := HC.out wr m BW.out hmN
      cases hP : P m with
      | false =>
        rw [hP] at hc
        have HP := Lib.hid hP
        clear hP
        go_wp2_with (go_at_fn g; refine hc.mono ?_; rintro e w2 ⟨rfl, hbv⟩)
        go_roundg (hi - (m + 1))
        case measure => have := HMM.out; omega
        case rel =>
          have hm := HMM.out
          have hI1 : ∀ j, j < m + 1 → P j = false := fun j hj => by
            cases hq : P j with
            | false => rfl
            | true =>
              have := HM.out j m (by omega) hmN hq
              rw [HP.out] at this
              exact this.symm
          have I2 : Hid ((∀ j, j < m + 1 → P j = false) ∧ (∀ j, hi ≤ j → j < N → P j = true)) := ⟨hI1, IV.out.2⟩
          exact ⟨m + 1, hi, by go_num, rfl, by omega, hin, Nat.le_refl _, first_below BW.out hbv, I2⟩
      | true =>
        rw [hP] at hc
        have HP := Lib.hid hP
        clear hP
        go_wp2_with (go_at_fn g; refine hc.mono ?_; rintro e w2 ⟨rfl, hbv⟩)
        go_roundg (m - lo)
        case measure => have := HMM.out; omega
        case rel =>
          have hm := HMM.out
          have I2 : Hid ((∀ j, j < lo → P j = false) ∧ (∀ j, m ≤ j → j < N → P j = true)) := ⟨IV.out.1, fun j h1 h2 => HM.out m j h1 h2 HP.out⟩
          exact ⟨lo, m, rfl, by go_num, by omega, by omega, Nat.le_refl _, first_below BW.out hbv, I2⟩
    · obtain rfl : hi = lo := by omega
      go_wp2
      go_ret
      exact ⟨hi, rfl, ⟨hin, IV.out⟩, BW.out⟩

/- what near's functions see: a list, a pattern, two numbers, each in a block of its own -/
structure Seen (W : World) (bl bp bf bn g cap f n : Nat) (l : List TripL) (p : TripL) : Prop where
  cl : W.cell? ⟨bl, 0, none⟩ = some (.slice (some ⟨g, 0, none⟩) l.length cap)
  cp : Box12 W bp p
  cf : W.cell? ⟨bf, 0, none⟩ = some (.int .i64 f)
  cn : W.cell? ⟨bn, 0, none⟩ = some (.int .i64 n)
  row : ∀ j (h : j < l.length), Cells12 W g j l[j]
  lt : bl < W.heap.size ∧ bp < W.heap.size ∧ bf < W.heap.size ∧ bn < W.heap.size ∧ g < W.heap.size
theorem seen_on {W W' : World} {bl bp bf bn g cap f n B : Nat} {l : List TripL} {p : TripL} (h : Seen W bl bp bf bn g cap f n l p) (hb : Below B W W') (hB : W.heap.size ≤ B) : Seen W' bl bp bf bn g cap f n l p := by
  obtain ⟨l1, l2, l3, l4, l5⟩ := h.lt
  have hs := hb.size
  exact ⟨keptC h.cl hb (by omega), box_on h.cp hb (by omega), keptC h.cf hb (by omega), keptC h.cn hb (by omega), fun j hj => cells_on (h.row j hj) hb (by omega), by omega, by omega, by omega, by omega, by omega⟩

set_option maxRecDepth 100000 in
set_option maxHeartbeats 4000000 in
theorem near1_calls (bl bp bf bn g cap f n j : Nat) (l : List TripL) (p : TripL) (hf : f ≤ 2) (hn : n ≤ 3) (hj : j < l.length) (w : World) (h : Seen w bl bp bf bn g cap f n l p) :
    Calls Tryz.prog 72 #[.int .i64 j, .pointer (some ⟨bl, 0, none⟩), .pointer (some ⟨bp, 0, none⟩), .pointer (some ⟨bf, 0, none⟩), .pointer (some ⟨bn, 0, none⟩)] w fun e w' => e = .returned (.bool (decide (0 ≤ cmpK l[j] p f n))) ∧ Below w.heap.size w w' := by
  have H := Lib.hid h
  have cm := Lib.hid (h.row j hj)
  generalize l[j] = y at cm
  obtain ⟨N, hN⟩ : ∃ N, l.length = N := ⟨_, rfl⟩
  have cl := h.cl
  rw [hN] at cl hj
  have CL := Lib.hid cl
  have hjN : (j : Int) < (N : Int) := by omega
  have hj0 : (0 : Int) ≤ (j : Int) := by omega
  clear h hN cl
  obtain ⟨C, hC⟩ : ∃ C, cmpK y p f n = C := ⟨_, rfl⟩
  have HCC := Lib.hid hC
  rw [hC]
  clear hC
  go_enter Tryz.func72, Tryz.ntmps72
  go_wp2_with fail
  refine wp_region_held_drew (S := (fun W => Below w.heap.size w W)) (by kernel_rfl) ?_ (fun hHeld => ?_)
  · (try dsimp only); first | exact Below.refl _ _ | exact (Below.refl _ _).drew
  refine wpAnyH_take (i := 0) (oi := ⟨some 7, _, _, _, _, _⟩) (v := ?_) rfl (by kernel_rfl) (by kernel_rfl) (by kernel_rfl) (fun _ _ _ h => h) (Or.inl ⟨by kernel_rfl, ?_⟩) (by assumption) ?_
  rotate_left
  · (intro ww hSw; (try dsimp only at hSw); have c0 := keptC CL.out hSw H.out.lt.1; go_simp); (try with_reducible rfl)
  (try simp only [Act.put, List.setIfInBounds_toArray, List.set_cons_zero, List.set_cons_succ])
  refine wpAnyH_take (i := 1) (oi := ⟨some 8, _, _, _, _, _⟩) (v := ?_) rfl (by kernel_rfl) (by kernel_rfl) (by kernel_rfl) (fun _ _ _ h => h) (Or.inl ⟨by kernel_rfl, ?_⟩) (by assumption) ?_
  rotate_left
  · (intro ww hSw; (try dsimp only at hSw); go_simp); (try with_reducible rfl)
  (try simp only [Act.put, List.setIfInBounds_toArray, List.set_cons_zero, List.set_cons_succ])
  refine wpAnyH_take (i := 2) (oi := ⟨some 9, _, _, _, _, _⟩) (v := ?_) rfl (by kernel_rfl) (by kernel_rfl) (by kernel_rfl) (fun _ _ _ h => h) (Or.inl ⟨by kernel_rfl, ?_⟩) (by assumption) ?_
  rotate_left
  · (intro ww hSw; (try dsimp only at hSw); go_simp); (try with_reducible rfl)
  (try simp only [Act.put, List.setIfInBounds_toArray, List.set_cons_zero, List.set_cons_succ])
  refine wpAnyH_take (i := 3) (oi := ⟨some 10, _, _, _, _, _⟩) (v := ?_) rfl (by kernel_rfl) (by kernel_rfl) (by kernel_rfl) (fun _ _ _ h => h) (Or.inl ⟨by kernel_rfl, ?_⟩) (by assumption) ?_
  rotate_left
  · (intro ww hSw; (try dsimp only at hSw); obtain ⟨⟨c0, c1, c2, c3⟩, ⟨c4, c5, c6, c7⟩, ⟨c8, c9, c10, c11⟩⟩ := cells_on cm.out hSw H.out.lt.2.2.2.2; go_simp); (try with_reducible rfl)
  (try simp only [Act.put, List.setIfInBounds_toArray, List.set_cons_zero, List.set_cons_succ])
  refine wpAnyH_take (i := 4) (oi := ⟨some 11, _, _, _, _, _⟩) (v := ?_) rfl (by kernel_rfl) (by kernel_rfl) (by kernel_rfl) (fun _ _ _ h => h) (Or.inl ⟨by kernel_rfl, ?_⟩) (by assumption) ?_
  rotate_left
  · (intro ww hSw; (try dsimp only at hSw); obtain ⟨⟨c0, c1, c2, c3⟩, ⟨c4, c5, c6, c7⟩, ⟨c8, c9, c10, c11⟩⟩ := box_on H.out.cp hSw H.out.lt.2.1; go_simp); (try with_reducible rfl)
  (try simp only [Act.put, List.setIfInBounds_toArray, List.set_cons_zero, List.set_cons_succ])
  refine wpAnyH_take (i := 5) (oi := ⟨some 12, _, _, _, _, _⟩) (v := ?_) rfl (by kernel_rfl) (by kernel_rfl) (by kernel_rfl) (fun _ _ _ h => h) (Or.inl ⟨by kernel_rfl, ?_⟩) (by assumption) ?_
  rotate_left
  · (intro ww hSw; (try dsimp only at hSw); have c0 := keptC H.out.cf hSw H.out.lt.2.2.1; go_simp); (try with_reducible rfl)
  (try simp only [Act.put, List.setIfInBounds_toArray, List.set_cons_zero, List.set_cons_succ])
  refine wpAnyH_take (i := 6) (oi := ⟨some 13, _, _, _, _, _⟩) (v := ?_) rfl (by kernel_rfl) (by kernel_rfl) (by kernel_rfl) (fun _ _ _ h => h) (Or.inl ⟨by kernel_rfl, ?_⟩) (by assumption) ?_
  rotate_left
  · (intro ww hSw; (try dsimp only at hSw); have c0 := keptC H.out.cn hSw H.out.lt.2.2.2.1; go_simp); (try with_reducible rfl)
  (try simp only [Act.put, List.setIfInBounds_toArray, List.set_cons_zero, List.set_cons_succ])
  refine wpAnyH_ready (rs := [7]) (by kernel_rfl) (by simp) ?_
  refine AllReadyH.cons rfl (fun K hK => ?_) AllReadyH.nil
  go_simp
  refine (scompare_calls y p f n hf hn _).mono ?_
  rintro e w2 ⟨rfl, hbv⟩
  (first | replace hbv := from_drew hbv | replace hbv := from_drewN hbv | skip)
  rw [HCC.out]
  go_wp2_with fail
  refine hK.out _ _ ?_ (fun hHeld => ?_)
  · (try dsimp only); first | exact hbv | exact hbv.drew
  clear hK K
  (try simp only [Act.put, List.setIfInBounds_toArray, List.set_cons_zero, List.set_cons_succ])
  refine wpAnyH_take (i := 8) (oi := ⟨some 15, _, _, _, _, _⟩) (v := ?_) rfl (by kernel_rfl) (by kernel_rfl) (by kernel_rfl) (fun _ _ _ h => h) (Or.inl ⟨by kernel_rfl, ?_⟩) (by assumption) ?_
  rotate_left
  · (intro ww hSw; (try dsimp only at hSw); go_simp); (try with_reducible rfl)
  (try simp only [Act.put, List.setIfInBounds_toArray, List.set_cons_zero, List.set_cons_succ])
  refine wpAnyH_take (i := 9) (oi := ⟨some 6, _, _, _, _, _⟩) (v := ?_) rfl (by kernel_rfl) (by kernel_rfl) (by kernel_rfl) (fun _ _ _ h => h) (Or.inl ⟨by kernel_rfl, ?_⟩) (by assumption) ?_
  rotate_left
  · (intro ww hSw; (try dsimp only at hSw); go_simp); (try with_reducible rfl)
  (try simp only [Act.put, List.setIfInBounds_toArray, List.set_cons_zero, List.set_cons_succ])
  refine wpAnyH_done (by kernel_rfl) ?_ _
  go_wp2
  go_ret
  exact ⟨rfl, by first | exact hbv | exact hbv.drew⟩

set_option maxRecDepth 100000 in
set_option maxHeartbeats 4000000 in
theorem near2_calls (bl bp bf bn g cap f n j : Nat) (l : List TripL) (p : TripL) (hf : f ≤ 2) (hn : n ≤ 3) (hj : j < l.length) (w : World) (h : Seen w bl bp bf bn g cap f n l p) :
    Calls Tryz.prog 73 #[.int .i64 j, .pointer (some ⟨bl, 0, none⟩), .pointer (some ⟨bp, 0, none⟩), .pointer (some ⟨bf, 0, none⟩), .pointer (some ⟨bn, 0, none⟩)] w fun e w' => e = .returned (.bool (decide (0 < cmpK l[j] p f n))) ∧ Below w.heap.size w w' := by
  have H := Lib.hid h
  have cm := Lib.hid (h.row j hj)
  generalize l[j] = y at cm
  obtain ⟨N, hN⟩ : ∃ N, l.length = N := ⟨_, rfl⟩
  have cl := h.cl
  rw [hN] at cl hj
  have CL := Lib.hid cl
  have hjN : (j : Int) < (N : Int) := by omega
  have hj0 : (0 : Int) ≤ (j : Int) := by omega
  clear h hN cl
  obtain ⟨C, hC⟩ : ∃ C, cmpK y p f n = C := ⟨_, rfl⟩
  have HCC := Lib.hid hC
  rw [hC]
  clear hC
  go_enter Tryz.func73, Tryz.ntmps73
  go_wp2_with fail
  refine wp_region_held_drew (S := (fun W => Below w.heap.size w W)) (by kernel_rfl) ?_ (fun hHeld => ?_)
  · (try dsimp only); first | exact Below.refl _ _ | exact (Below.refl _ _).drew
  refine wpAnyH_take (i := 0) (oi := ⟨some 7, _, _, _, _, _⟩) (v := ?_) rfl (by kernel_rfl) (by kernel_rfl) (by kernel_rfl) (fun _ _ _ h => h) (Or.inl ⟨by kernel_rfl, ?_⟩) (by assumption) ?_
  rotate_left
  · (intro ww hSw; (try dsimp only at hSw); have c0 := keptC CL.out hSw H.out.lt.1; go_simp); (try with_reducible rfl)
  (try simp only [Act.put, List.setIfInBounds_toArray, List.set_cons_zero, List.set_cons_succ])
  refine wpAnyH_take (i := 1) (oi := ⟨some 8, _, _, _, _, _⟩) (v := ?_) rfl (by kernel_rfl) (by kernel_rfl) (by kernel_rfl) (fun _ _ _ h => h) (Or.inl ⟨by kernel_rfl, ?_⟩) (by assumption) ?_
  rotate_left
  · (intro ww hSw; (try dsimp only at hSw); go_simp); (try with_reducible rfl)
  (try simp only [Act.put, List.setIfInBounds_toArray, List.set_cons_zero, List.set_cons_succ])
  refine wpAnyH_take (i := 2) (oi := ⟨some 9, _, _, _, _, _⟩) (v := ?_) rfl (by kernel_rfl) (by kernel_rfl) (by kernel_rfl) (fun _ _ _ h => h) (Or.inl ⟨by kernel_rfl, ?_⟩) (by assumption) ?_
  rotate_left
  · (intro ww hSw; (try dsimp only at hSw); go_simp); (try with_reducible rfl)
  (try simp only [Act.put, List.setIfInBounds_toArray, List.set_cons_zero, List.set_cons_succ])
  refine wpAnyH_take (i := 3) (oi := ⟨some 10, _, _, _, _, _⟩) (v := ?_) rfl (by kernel_rfl) (by kernel_rfl) (by kernel_rfl) (fun _ _ _ h => h) (Or.inl ⟨by kernel_rfl, ?_⟩) (by assumption) ?_
  rotate_left
  · (intro ww hSw; (try dsimp only at hSw); obtain ⟨⟨c0, c1, c2, c3⟩, ⟨c4, c5, c6, c7⟩, ⟨c8, c9, c10, c11⟩⟩ := cells_on cm.out hSw H.out.lt.2.2.2.2; go_simp); (try with_reducible rfl)
  (try simp only [Act.put, List.setIfInBounds_toArray, List.set_cons_zero, List.set_cons_succ])
  refine wpAnyH_take (i := 4) (oi := ⟨some 11, _, _, _, _, _⟩) (v := ?_) rfl (by kernel_rfl) (by kernel_rfl) (by kernel_rfl) (fun _ _ _ h => h) (Or.inl ⟨by kernel_rfl, ?_⟩) (by assumption) ?_
  rotate_left
  · (intro ww hSw; (try dsimp only at hSw); obtain ⟨⟨c0, c1, c2, c3⟩, ⟨c4, c5, c6, c7⟩, ⟨c8, c9, c10, c11⟩⟩ := box_on H.out.cp hSw H.out.lt.2.1; go_simp); (try with_reducible rfl)
  (try simp only [Act.put, List.setIfInBounds_toArray, List.set_cons_zero, List.set_cons_succ])
  refine wpAnyH_take (i := 5) (oi := ⟨some 12, _, _, _, _, _⟩) (v := ?_) rfl (by kernel_rfl) (by kernel_rfl) (by kernel_rfl) (fun _ _ _ h => h) (Or.inl ⟨by kernel_rfl, ?_⟩) (by assumption) ?_
  rotate_left
  · (intro ww hSw; (try dsimp only at hSw); have c0 := keptC H.out.cf hSw H.out.lt.2.2.1; go_simp); (try with_reducible rfl)
  (try simp only [Act.put, List.setIfInBounds_toArray, List.set_cons_zero, List.set_cons_succ])
  refine wpAnyH_take (i := 6) (oi := ⟨some 13, _, _, _, _, _⟩) (v := ?_) rfl (by kernel_rfl) (by kernel_rfl) (by kernel_rfl) (fun _ _ _ h => h) (Or.inl ⟨by kernel_rfl, ?_⟩) (by assumption) ?_
  rotate_left
  · (intro ww hSw; (try dsimp only at hSw); have c0 := keptC H.out.cn hSw H.out.lt.2.2.2.1; go_simp); (try with_reducible rfl)
  (try simp only [Act.put, List.setIfInBounds_toArray, List.set_cons_zero, List.set_cons_succ])
  refine wpAnyH_ready (rs := [7]) (by kernel_rfl) (by simp) ?_
  refine AllReadyH.cons rfl (fun K hK => ?_) AllReadyH.nil
  go_simp
  refine (scompare_calls y p f n hf hn _).mono ?_
  rintro e w2 ⟨rfl, hbv⟩
  (first | replace hbv := from_drew hbv | replace hbv := from_drewN hbv | skip)
  rw [HCC.out]
  go_wp2_with fail
  refine hK.out _ _ ?_ (fun hHeld => ?_)
  · (try dsimp only); first | exact hbv | exact hbv.drew
  clear hK K
  (try simp only [Act.put, List.setIfInBounds_toArray, List.set_cons_zero, List.set_cons_succ])
  refine wpAnyH_take (i := 8) (oi := ⟨some 15, _, _, _, _, _⟩) (v := ?_) rfl (by kernel_rfl) (by kernel_rfl) (by kernel_rfl) (fun _ _ _ h => h) (Or.inl ⟨by kernel_rfl, ?_⟩) (by assumption) ?_
  rotate_left
  · (intro ww hSw; (try dsimp only at hSw); go_simp); (try with_reducible rfl)
  (try simp only [Act.put, List.setIfInBounds_toArray, List.set_cons_zero, List.set_cons_succ])
  refine wpAnyH_take (i := 9) (oi := ⟨some 6, _, _, _, _, _⟩) (v := ?_) rfl (by kernel_rfl) (by kernel_rfl) (by kernel_rfl) (fun _ _ _ h => h) (Or.inl ⟨by kernel_rfl, ?_⟩) (by assumption) ?_
  rotate_left
  · (intro ww hSw; (try dsimp only at hSw); go_simp); (try with_reducible rfl)
  (try simp only [Act.put, List.setIfInBounds_toArray, List.set_cons_zero, List.set_cons_succ])
  refine wpAnyH_done (by kernel_rfl) ?_ _
  go_wp2
  go_ret
  exact ⟨rfl, by first | exact hbv | exact hbv.drew⟩


end Go.Proofs.YtnojdchodmogbaaGreat

namespace Go.Proofs.YtnojdchodmogbaaGreat
open Go.RowKit

def selV (f : Nat) (a b c : Value) : Value := if f = 0 then a else if f = 1 then b else c
def selL (f : Nat) (a b c : List TripL) : List TripL := if f = 0 then a else if f = 1 then b else c
theorem sel_facts {w : World} {B b : Nat} {v0 v1 v2 : Value} {L l1 l2 : List TripL} (h : Sto w B b v0 v1 v2 L l1 l2) (f : Nat) (hf : f ≤ 2) :
    w.cell? ⟨b, f, none⟩ = some (selV f v0 v1 v2) ∧ Own w B (selV f v0 v1 v2) (selL f L l1 l2) ∧ Ord f (selL f L l1 l2) ∧ (∀ t, t ∈ selL f L l1 l2 ↔ t ∈ L) ∧ (selL f L l1 l2).length = L.length := by
  obtain ⟨q0, q1, q2⟩ := sto_cells h
  rcases (by omega : f = 0 ∨ f = 1 ∨ f = 2) with rfl | rfl | rfl
  · exact ⟨q0, h.r0, h.o0, fun _ => Iff.rfl, rfl⟩
  · exact ⟨q1, h.r1, h.o1, h.m1, h.n1⟩
  · exact ⟨q2, h.r2, h.o2, h.m2, h.n2⟩

/- a piece of a list, as a slice -/
def Piece (w : World) (v : Value) (M : List TripL) : Prop :=
  (∃ a c, v = .slice a 0 c ∧ M = []) ∨ ∃ g o cap, v = .slice (some ⟨g, o * 12, none⟩) M.length cap ∧ g < w.heap.size ∧ M.length ≤ cap ∧ ∀ j (h : j < M.length), Cells12 w g (o + j) M[j]
def NearT (M : List TripL) (w : World) (e : Ending) (w' : World) : Prop := ∃ v', e = .returned v' ∧ Piece w' v' M ∧ Below w.heap.size w w'
theorem getD_at {l : List TripL} {j : Nat} (h : j < l.length) : l.getD j default = l[j] := by simp [List.getD, h]

set_option maxRecDepth 100000 in
set_option maxHeartbeats 8000000 in
theorem near_calls (B b : Nat) (v0 v1 v2 : Value) (L l1 l2 : List TripL) (p : TripL) (w : World) (h : Sto w B b v0 v1 v2 L l1 l2) :
    Calls Tryz.prog 46 #[.pointer (some ⟨b, 0, none⟩), p.v] w (NearT ((selL (gv p 3).1 L l1 l2).filter (fun x => decide (cmpK x p (gv p 3).1 (gv p 3).2 = 0))) w) := by
  have hblt := blk_lt h.blk
  obtain ⟨hf, hn⟩ := gv_le p 3 (Nat.le_refl _)
  obtain ⟨qf, ho, hord, _, hlen⟩ := sel_facts h (gv p 3).1 hf
  have hl : (selL (gv p 3).1 L l1 l2).length ≤ 4096 := by rw [hlen]; exact h.most
  have bx0 := blk_new w 29 (cells12 p)
  have eg1 : ∀ args w, (callFunc 72 args).run Tryz.prog w = .ok (.enter 72 args) w := enters_of Tryz.func72 (by kernel_rfl) rfl
  have eg2 : ∀ args w, (callFunc 73 args).run Tryz.prog w = .ok (.enter 73 args) w := enters_of Tryz.func73 (by kernel_rfl) rfl
  obtain ⟨f, hfe⟩ : ∃ f, (gv p 3).1 = f := ⟨_, rfl⟩
  obtain ⟨n, hne⟩ : ∃ n, (gv p 3).2 = n := ⟨_, rfl⟩
  rw [hfe] at hf qf ho hord hl
  rw [hne] at hn
  rw [hfe, hne]
  obtain ⟨l, hle⟩ : ∃ l, selL f L l1 l2 = l := ⟨_, rfl⟩
  rw [hle] at ho hord hl ⊢
  obtain ⟨v, hve⟩ : ∃ v, selV f v0 v1 v2 = v := ⟨_, rfl⟩
  rw [hve] at qf ho
  have HFE := Lib.hid hfe
  have HNE := Lib.hid hne
  have HORD := Lib.hid hord
  have HOWN := Lib.hid ho
  have HQF := Lib.hid qf
  have BX0 := Lib.hid bx0
  clear h hfe hne hle hve hord hlen bx0 qf
  simp only [TripL.v]
  go_enter Tryz.func46, Tryz.ntmps46
  go_wp2_with fail
  refine (given_calls p _).mono ?_
  rintro e w1 ⟨rfl, hb1⟩
  have bx1 := Lib.hid (blk_on BX0.out hb1 (blk_lt BX0.out))
  replace hb1 := one_box hb1
  rw [HFE.out, HNE.out]
  go_wp2_with fail
  refine name_world (fun W2 hW2 => ?_)
  have hb2 : Below w1.heap.size w1 W2 := by rw [hW2]; first | exact two_alloc _ _ _ | exact ((two_alloc _ _ _).setCell (by simp) _).setCell (by simp) _
  have hs2 : W2.heap.size = w1.heap.size + 2 := by rw [hW2]; simp
  have cf2 : W2.cell? ⟨w1.heap.size, 0, none⟩ = some (.int .i64 f) := by rw [hW2]; simp [go_sem]
  have cn2 : W2.cell? ⟨w1.heap.size + 1, 0, none⟩ = some (.int .i64 n) := by rw [hW2]; simp [go_sem]
  clear hW2
  have hbw := first_below hb1 hb2
  have qf2 := keptC HQF.out hbw hblt
  have bx2 := blk_on bx1.out hb2 (blk_lt bx1.out)
  have hbb : b < W2.heap.size := Nat.lt_of_lt_of_le hblt hbw.size
  obtain ⟨S1, hS1⟩ : ∃ S1, w1.heap.size = S1 := ⟨_, rfl⟩
  rw [hS1] at hs2 cf2 cn2
  simp only [hS1]
  obtain ⟨T0, hT0⟩ : ∃ T0, w.heap.size = T0 := ⟨_, rfl⟩
  rw [hT0] at bx2
  simp only [hT0]
  have hT1 : T0 < W2.heap.size := blk_lt bx2
  have HT0 := Lib.hid hT0
  have HS2 := Lib.hid hs2
  have CF2 := Lib.hid cf2
  have CN2 := Lib.hid cn2
  have QF2 := Lib.hid qf2
  have BX2 := Lib.hid bx2
  have HBW := Lib.hid hbw
  clear hb1 hb2 hS1 hT0 hs2 cn2 qf2 bx2 hbw
  have hf3 : (f : Int) < 3 := by omega
  have hf0 : (0 : Int) ≤ (f : Int) := by omega
  rcases own_cases HOWN.out with ⟨hv, hl0⟩ | ⟨g, cap, hv, hg, hcap, _, _, hrow⟩
  · subst hv
    subst hl0
    go_wp2_with fail
    refine wp_region_held_drew (S := (fun W => Below W2.heap.size W2 W)) (by kernel_rfl) ?_ (fun hHeld => ?_)
    · (try dsimp only); first | exact Below.refl _ _ | exact (Below.refl _ _).drew
    refine wpAnyH_take (i := 0) (oi := ⟨some 15, _, _, _, _, _⟩) (v := ?_) rfl (by kernel_rfl) (by kernel_rfl) (by kernel_rfl) (fun _ _ _ h => h) (Or.inl ⟨by kernel_rfl, ?_⟩) (by assumption) ?_
    rotate_left
    · (intro ww hSw; (try dsimp only at hSw); go_simp); (try with_reducible rfl)
    (try simp only [Act.put, List.setIfInBounds_toArray, List.set_cons_zero, List.set_cons_succ])
    refine wpAnyH_take (i := 1) (oi := ⟨some 16, _, _, _, _, _⟩) (v := ?_) rfl (by kernel_rfl) (by kernel_rfl) (by kernel_rfl) (fun _ _ _ h => h) (Or.inl ⟨by kernel_rfl, ?_⟩) (by assumption) ?_
    rotate_left
    · (intro ww hSw; (try dsimp only at hSw); have c0 := keptC CF2.out hSw (by have := HS2.out; omega); go_simp); (try with_reducible rfl)
    (try simp only [Act.put, List.setIfInBounds_toArray, List.set_cons_zero, List.set_cons_succ])
    refine wpAnyH_take (i := 2) (oi := ⟨some 17, _, _, _, _, _⟩) (v := ?_) rfl (by kernel_rfl) (by kernel_rfl) (by kernel_rfl) (fun _ _ _ h => h) (Or.inl ⟨by kernel_rfl, ?_⟩) (by assumption) ?_
    rotate_left
    · (intro ww hSw; (try dsimp only at hSw); go_simp); (try with_reducible rfl)
    (try simp only [Act.put, List.setIfInBounds_toArray, List.set_cons_zero, List.set_cons_succ])
    refine wpAnyH_take (i := 3) (oi := ⟨some 18, _, _, _, _, _⟩) (v := ?_) rfl (by kernel_rfl) (by kernel_rfl) (by kernel_rfl) (fun _ _ _ h => h) (Or.inl ⟨by kernel_rfl, ?_⟩) (by assumption) ?_
    rotate_left
    · (intro ww hSw; (try dsimp only at hSw); go_simp); (try with_reducible rfl)
    (try simp only [Act.put, List.setIfInBounds_toArray, List.set_cons_zero, List.set_cons_succ])
    refine wpAnyH_take (i := 4) (oi := ⟨some 19, _, _, _, _, _⟩) (v := ?_) rfl (by kernel_rfl) (by kernel_rfl) (by kernel_rfl) (fun _ _ _ h => h) (Or.inl ⟨by kernel_rfl, ?_⟩) (by assumption) ?_
    rotate_left
    · (intro ww hSw; (try dsimp only at hSw); go_simp); (try with_reducible rfl)
    (try simp only [Act.put, List.setIfInBounds_toArray, List.set_cons_zero, List.set_cons_succ])
    refine wpAnyH_take (i := 5) (oi := ⟨some 20, _, _, _, _, _⟩) (v := ?_) rfl (by kernel_rfl) (by kernel_rfl) (by kernel_rfl) (fun _ _ _ h => h) (Or.inl ⟨by kernel_rfl, ?_⟩) (by assumption) ?_
    rotate_left
    · (intro ww hSw; (try dsimp only at hSw); have c0 := keptC QF2.out hSw hbb; go_simp); (try with_reducible rfl)
    (try simp only [Act.put, List.setIfInBounds_toArray, List.set_cons_zero, List.set_cons_succ])
    refine wpAnyH_ready (rs := [6]) (by kernel_rfl) (by simp) ?_
    refine AllReadyH.cons rfl (fun K hK => ?_) AllReadyH.nil
    go_simp
    refine hK.out _ _ ?_ (fun hHeld => ?_)
    · (try dsimp only); exact (Below.refl _ _).drew.alloc (Nat.le_refl _) _
    clear hK K
    (try simp only [Act.put, List.setIfInBounds_toArray, List.set_cons_zero, List.set_cons_succ])
    refine wpAnyH_ready (rs := [7]) (by kernel_rfl) (by simp) ?_
    refine AllReadyH.cons rfl (fun K hK => ?_) AllReadyH.nil
    go_simp
    refine hK.out _ _ ?_ (fun hHeld => ?_)
    · (try dsimp only); first | exact (box_below _ _).drew | exact ((Below.refl W2.heap.size W2).drew.alloc (Nat.le_refl W2.heap.size) _).setCell (Nat.le_refl W2.heap.size) _
    clear hK K
    (try simp only [Act.put, List.setIfInBounds_toArray, List.set_cons_zero, List.set_cons_succ])
    refine wpAnyH_done (by kernel_rfl) ?_ _
    go_wp2_with fail
    have hb3 : Below W2.heap.size W2 ((W2.alloc (.cells #[.slice none 0 0] 25)).drew) := (box_below _ _).drew
    refine (search_calls 72 #[.pointer (some ⟨W2.heap.size, 0, none⟩), .pointer (some ⟨T0, 0, none⟩), .pointer (some ⟨S1, 0, none⟩), .pointer (some ⟨S1 + 1, 0, none⟩)] eg1 (fun _ => true) 0 (by omega) _ (fun _ _ _ _ h => h) (fun _ j _ hj => by omega)).mono ?_
    rintro e w4 ⟨k1, rfl, hk1, hb4⟩
    obtain rfl : k1 = 0 := by have := hk1.1; omega
    replace hb3 := first_below hb3 hb4
    have cl4 : w4.cell? ⟨W2.heap.size, 0, none⟩ = some (.slice none 0 0) := keptC (B := W2.heap.size + 1) (by show (W2.alloc _).cell? _ = _; simp [go_sem]) (hb4.mono (by simp [World.drew])) (by omega)
    clear hb4 hk1
    go_wp2_with fail
    refine (search_calls 73 #[.pointer (some ⟨W2.heap.size, 0, none⟩), .pointer (some ⟨T0, 0, none⟩), .pointer (some ⟨S1, 0, none⟩), .pointer (some ⟨S1 + 1, 0, none⟩)] eg2 (fun _ => true) 0 (by omega) _ (fun _ _ _ _ h => h) (fun _ j _ hj => by omega)).mono ?_
    rintro e w5 ⟨k2, rfl, hk2, hb5⟩
    obtain rfl : k2 = 0 := by have := hk2.1; omega
    have cl5 : w5.cell? ⟨W2.heap.size, 0, none⟩ = some (.slice none 0 0) := keptC cl4 hb5 (World.block_lt_of_cell? _ _ cl4)
    replace hb3 := first_below hb3 hb5
    clear hb5 hk2
    go_wp2
    go_ret
    exact ⟨_, rfl, .inl ⟨_, _, rfl, rfl⟩, first_below HBW.out hb3⟩
  · subst hv
    have hlN : l.length ≤ 1000000 := by omega
    have seen3 : Seen ((W2.alloc (.cells #[.slice (some ⟨g, 0, none⟩) l.length cap] 25)).drew) W2.heap.size T0 S1 (S1 + 1) g cap f n l p := by
      have hbx : Below W2.heap.size W2 ((W2.alloc (.cells #[.slice (some ⟨g, 0, none⟩) l.length cap] 25)).drew) := (box_below _ _).drew
      have hgw : g < W2.heap.size := Nat.lt_of_lt_of_le hg HBW.out.size
      have hsz : ((W2.alloc (.cells #[.slice (some ⟨g, 0, none⟩) l.length cap] 25)).drew).heap.size = W2.heap.size + 1 := by simp [World.drew]
      refine ⟨by show (W2.alloc _).cell? _ = _; simp [go_sem], box_on (box12_of BX2.out) hbx hT1, keptC CF2.out hbx (by have := HS2.out; omega), keptC CN2.out hbx (by have := HS2.out; omega), fun j hj => cells_on (cells_on (hrow j hj) HBW.out hg) hbx hgw, ?_⟩
      rw [hsz]
      have := HS2.out
      exact ⟨by omega, by omega, by omega, by omega, by omega⟩
    have hb3 : Below W2.heap.size W2 ((W2.alloc (.cells #[.slice (some ⟨g, 0, none⟩) l.length cap] 25)).drew) := (box_below _ _).drew
    have SEEN3 := Lib.hid seen3
    clear seen3 hrow
    go_wp2_with fail
    refine wp_region_held_drew (S := (fun W => Below W2.heap.size W2 W)) (by kernel_rfl) ?_ (fun hHeld => ?_)
    · (try dsimp only); first | exact Below.refl _ _ | exact (Below.refl _ _).drew
    refine wpAnyH_take (i := 0) (oi := ⟨some 15, _, _, _, _, _⟩) (v := ?_) rfl (by kernel_rfl) (by kernel_rfl) (by kernel_rfl) (fun _ _ _ h => h) (Or.inl ⟨by kernel_rfl, ?_⟩) (by assumption) ?_
    rotate_left
    · (intro ww hSw; (try dsimp only at hSw); go_simp); (try with_reducible rfl)
    (try simp only [Act.put, List.setIfInBounds_toArray, List.set_cons_zero, List.set_cons_succ])
    refine wpAnyH_take (i := 1) (oi := ⟨some 16, _, _, _, _, _⟩) (v := ?_) rfl (by kernel_rfl) (by kernel_rfl) (by kernel_rfl) (fun _ _ _ h => h) (Or.inl ⟨by kernel_rfl, ?_⟩) (by assumption) ?_
    rotate_left
    · (intro ww hSw; (try dsimp only at hSw); have c0 := keptC CF2.out hSw (by have := HS2.out; omega); go_simp); (try with_reducible rfl)
    (try simp only [Act.put, List.setIfInBounds_toArray, List.set_cons_zero, List.set_cons_succ])
    refine wpAnyH_take (i := 2) (oi := ⟨some 17, _, _, _, _, _⟩) (v := ?_) rfl (by kernel_rfl) (by kernel_rfl) (by kernel_rfl) (fun _ _ _ h => h) (Or.inl ⟨by kernel_rfl, ?_⟩) (by assumption) ?_
    rotate_left
    · (intro ww hSw; (try dsimp only at hSw); go_simp); (try with_reducible rfl)
    (try simp only [Act.put, List.setIfInBounds_toArray, List.set_cons_zero, List.set_cons_succ])
    refine wpAnyH_take (i := 3) (oi := ⟨some 18, _, _, _, _, _⟩) (v := ?_) rfl (by kernel_rfl) (by kernel_rfl) (by kernel_rfl) (fun _ _ _ h => h) (Or.inl ⟨by kernel_rfl, ?_⟩) (by assumption) ?_
    rotate_left
    · (intro ww hSw; (try dsimp only at hSw); go_simp); (try with_reducible rfl)
    (try simp only [Act.put, List.setIfInBounds_toArray, List.set_cons_zero, List.set_cons_succ])
    refine wpAnyH_take (i := 4) (oi := ⟨some 19, _, _, _, _, _⟩) (v := ?_) rfl (by kernel_rfl) (by kernel_rfl) (by kernel_rfl) (fun _ _ _ h => h) (Or.inl ⟨by kernel_rfl, ?_⟩) (by assumption) ?_
    rotate_left
    · (intro ww hSw; (try dsimp only at hSw); go_simp); (try with_reducible rfl)
    (try simp only [Act.put, List.setIfInBounds_toArray, List.set_cons_zero, List.set_cons_succ])
    refine wpAnyH_take (i := 5) (oi := ⟨some 20, _, _, _, _, _⟩) (v := ?_) rfl (by kernel_rfl) (by kernel_rfl) (by kernel_rfl) (fun _ _ _ h => h) (Or.inl ⟨by kernel_rfl, ?_⟩) (by assumption) ?_
    rotate_left
    · (intro ww hSw; (try dsimp only at hSw); have c0 := keptC QF2.out hSw hbb; go_simp); (try with_reducible rfl)
    (try simp only [Act.put, List.setIfInBounds_toArray, List.set_cons_zero, List.set_cons_succ])
    refine wpAnyH_ready (rs := [6]) (by kernel_rfl) (by simp) ?_
    refine AllReadyH.cons rfl (fun K hK => ?_) AllReadyH.nil
    go_simp
    refine hK.out _ _ ?_ (fun hHeld => ?_)
    · (try dsimp only); exact (Below.refl _ _).drew.alloc (Nat.le_refl _) _
    clear hK K
    (try simp only [Act.put, List.setIfInBounds_toArray, List.set_cons_zero, List.set_cons_succ])
    refine wpAnyH_ready (rs := [7]) (by kernel_rfl) (by simp) ?_
    refine AllReadyH.cons rfl (fun K hK => ?_) AllReadyH.nil
    go_simp
    refine hK.out _ _ ?_ (fun hHeld => ?_)
    · (try dsimp only); first | exact (box_below _ _).drew | exact ((Below.refl W2.heap.size W2).drew.alloc (Nat.le_refl W2.heap.size) _).setCell (Nat.le_refl W2.heap.size) _
    clear hK K
    (try simp only [Act.put, List.setIfInBounds_toArray, List.set_cons_zero, List.set_cons_succ])
    refine wpAnyH_done (by kernel_rfl) ?_ _
    go_wp2_with fail
    refine (search_calls 72 #[.pointer (some ⟨W2.heap.size, 0, none⟩), .pointer (some ⟨T0, 0, none⟩), .pointer (some ⟨S1, 0, none⟩), .pointer (some ⟨S1 + 1, 0, none⟩)] eg1 (fun j => decide (0 ≤ cmpK (l.getD j default) p f n)) l.length hlN _ (fun a b h1 h2 h3 => ?_) (fun W j hW hj => ?_)).mono ?_
    · have h3' := of_decide_eq_true h3
      rw [getD_at (by omega)] at h3'
      rw [getD_at h2]
      exact decide_eq_true (seg_ge HORD.out hn h1 h2 h3')
    · rw [getD_at hj]
      exact near1_calls _ _ _ _ _ _ f n j l p hf hn hj W (seen_on SEEN3.out hW (Nat.le_refl _))
    rintro e w4 ⟨k1, rfl, hk1, hb4⟩
    have SEEN4 := Lib.hid (seen_on SEEN3.out hb4 (Nat.le_refl _))
    replace hb3 := first_below hb3 hb4
    have HK1 := Lib.hid hk1
    have cl4 := SEEN4.out.cl
    clear hb4 hk1
    go_wp2_with fail
    refine (search_calls 73 #[.pointer (some ⟨W2.heap.size, 0, none⟩), .pointer (some ⟨T0, 0, none⟩), .pointer (some ⟨S1, 0, none⟩), .pointer (some ⟨S1 + 1, 0, none⟩)] eg2 (fun j => decide (0 < cmpK (l.getD j default) p f n)) l.length hlN _ (fun a b h1 h2 h3 => ?_) (fun W j hW hj => ?_)).mono ?_
    · have h3' := of_decide_eq_true h3
      rw [getD_at (by omega)] at h3'
      rw [getD_at h2]
      exact decide_eq_true (seg_gt HORD.out hn h1 h2 h3')
    · rw [getD_at hj]
      exact near2_calls _ _ _ _ _ _ f n j l p hf hn hj W (seen_on SEEN4.out hW (Nat.le_refl _))
    rintro e w5 ⟨k2, rfl, hk2, hb5⟩
    have SEEN5 := Lib.hid (seen_on SEEN4.out hb5 (Nat.le_refl _))
    replace hb3 := first_below hb3 hb5
    have cl5 := SEEN5.out.cl
    obtain ⟨hle, hfil⟩ := seg_filter HK1.out hk2
    have hk2N := hk2.1
    have HFIL := Lib.hid hfil
    clear hb5 hk2 hfil cl4
    have i1 : (k1 : Int) ≤ (k2 : Int) := by omega
    have i2 : (k2 : Int) ≤ (cap : Int) := by omega
    have i3 : (0 : Int) ≤ (k1 : Int) := by omega
    have hlen2 : (l.filter (fun x => decide (cmpK x p f n = 0))).length = k2 - k1 := by rw [← HFIL.out, List.length_take, List.length_drop]; omega
    have HLEN2 := Lib.hid hlen2
    clear hlen2
    have hfin := first_below HBW.out hb3
    have HROW := Lib.hid SEEN5.out.row
    have hg5 := SEEN5.out.lt.2.2.2.2
    generalize hNl : l.length = N at cl5 hk2N hcap
    have HNL := Lib.hid hNl
    clear hNl
    by_cases hc : cap = k1
    · go_wp2
      go_ret
      exact ⟨_, rfl, .inl ⟨_, _, by first | rfl | (rw [show k2 - k1 = 0 by omega]; rfl), List.eq_nil_of_length_eq_zero (by rw [HLEN2.out]; omega)⟩, hfin⟩
    · go_wp2
      go_ret
      refine ⟨_, rfl, .inr ⟨g, k1, cap - k1, by rw [HLEN2.out]; rfl, hg5, by rw [HLEN2.out]; omega, fun j hj => ?_⟩, hfin⟩
      rw [HLEN2.out] at hj
      have hjl : k1 + j < l.length := by rw [HNL.out]; omega
      have e : (l.filter (fun x => decide (cmpK x p f n = 0)))[j]'(by rw [HLEN2.out]; exact hj) = l[k1 + j] := by
        have := HFIL.out
        simp only [← this, List.getElem_take, List.getElem_drop]
      rw [e]
      exact HROW.out (k1 + j) hjl

end Go.Proofs.YtnojdchodmogbaaGreat
