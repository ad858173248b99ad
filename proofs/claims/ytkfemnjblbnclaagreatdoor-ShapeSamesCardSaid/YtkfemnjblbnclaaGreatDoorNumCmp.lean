/- Which of two right numbers is less, by package number and by the document. -/
import Derived.Test.YtkfemnjblbnclaaGreatDoorGNumC
namespace Go.Proofs.YtkfemnjblbnclaaGreatDoor.Nm
open Go.RowKit

theorem gone (w : World) (o o2 : Obj) : Below w.heap.size w ((w.alloc o).alloc o2) := (box_below w o).alloc (by simp) _
def boxed2 (w : World) (t : TypeId) (a b c a' b' c' : Value) : World := (w.alloc (.cells #[a, b, c] t)).alloc (.cells #[a', b', c'] t)
theorem boxes2 {w W : World} {a b c a' b' c' : Value} {t : TypeId} (hB : Below (boxed2 w t a b c a' b' c').heap.size (boxed2 w t a b c a' b' c') W) :
    W.cell? ⟨w.heap.size, 0, none⟩ = some a ∧ W.cell? ⟨w.heap.size, 1, none⟩ = some b ∧ W.cell? ⟨w.heap.size, 2, none⟩ = some c ∧ W.cell? ⟨w.heap.size + 1, 0, none⟩ = some a' ∧ W.cell? ⟨w.heap.size + 1, 1, none⟩ = some b' ∧ W.cell? ⟨w.heap.size + 1, 2, none⟩ = some c' := by
  unfold boxed2 at hB
  have h0 : ∀ i, W.cell? ⟨w.heap.size, i, none⟩ = (#[a, b, c] : Array Value)[i]? := fun i => by
    rw [hB.cell (p := ⟨w.heap.size, i, none⟩) (by simp; omega), World.cell?_alloc_past _ _ _ (by simp), World.cell?_alloc_at _ _ _ _ rfl]
  have h1 : ∀ i, W.cell? ⟨w.heap.size + 1, i, none⟩ = (#[a', b', c'] : Array Value)[i]? := fun i => by
    rw [hB.cell (p := ⟨w.heap.size + 1, i, none⟩) (by simp), World.cell?_alloc_at _ _ _ _ (by simp)]
  exact ⟨h0 0, h0 1, h0 2, h1 0, h1 1, h1 2⟩
theorem boxed2_below {w W : World} {a b c a' b' c' : Value} {t : TypeId} (hB : Below (boxed2 w t a b c a' b' c').heap.size (boxed2 w t a b c a' b' c') W) : Below w.heap.size w W :=
  (gone w _ _).trans (hB.mono (by simp [boxed2]; omega))

def cmpI (a b : Int) : Int := if a < b then -1 else if b < a then 1 else 0
theorem cmpI_lt {a b : Int} (h : a < b) : cmpI a b = -1 := by unfold cmpI; rw [if_pos h]
theorem cmpI_gt {a b : Int} (h : b < a) : cmpI a b = 1 := by unfold cmpI; rw [if_neg (by omega), if_pos h]
theorem cmpI_eq {a b : Int} (h1 : ¬ a < b) (h2 : ¬ b < a) : cmpI a b = 0 := by unfold cmpI; rw [if_neg h1, if_neg h2]

set_option maxHeartbeats 400000 in
theorem cmp_calls (a b : Int) (w : World) :
    Calls Tryz.prog 80 #[.int .i64 a, .int .i64 b] w fun e w' => e = .returned (.int .i64 (cmpI a b)) ∧ w' = w := by
  have g1 : (a != a) = false := by simp
  have g2 : (b != b) = false := by simp
  rcases Int.lt_trichotomy a b with h | h | h
  · have H := Lib.hid (cmpI_lt h)
    go_enter Tryz.func80, Tryz.ntmps80
    go_wp2
    go_ret
    exact ⟨ret_int H.out.symm, rfl⟩
  · have H := Lib.hid (cmpI_eq (show ¬ a < b by omega) (show ¬ b < a by omega))
    have k1 : ¬ a < b := by omega
    have k2 : ¬ b < a := by omega
    clear h
    go_enter Tryz.func80, Tryz.ntmps80
    go_wp2
    go_ret
    exact ⟨ret_int H.out.symm, rfl⟩
  · have H := Lib.hid (cmpI_gt h)
    have k1 : ¬ a < b := by omega
    go_enter Tryz.func80, Tryz.ntmps80
    go_wp2
    go_ret
    exact ⟨ret_int H.out.symm, rfl⟩

set_option maxHeartbeats 2000000 in
theorem Compare_right (v : Int) (s : Nat) (d : Bool) (v' : Int) (s' : Nat) (d' : Bool) (w : World) (hg : Good w) (hr : rightZ v s d = true) (hr' : rightZ v' s' d' = true) (hs : s ≤ 4) (h1 : -999999999 ≤ v) (h2 : v ≤ 999999999) (hs' : s' ≤ 4) (h1' : -999999999 ≤ v') (h2' : v' ≤ 999999999) :
    Calls Tryz.prog 61 #[.agg #[.int .i64 v, .int .i64 s, .bool d], .agg #[.int .i64 v', .int .i64 s', .bool d']] w fun e w' => e = .returned (.tuple #[.int .i64 (cmpI (amt v s) (amt v' s')), .int .i64 0]) ∧ Below w.heap.size w w' := by
  have HR := Lib.hid hr
  have HR' := Lib.hid hr'
  have hb := amt_bound v s h1 h2 hs
  have hb' := amt_bound v' s' h1' h2' hs'
  have hsp : ∀ W, Good W → Calls Tryz.prog 81 #[.agg #[.int .i64 v, .int .i64 s, .bool d]] W fun e w' => e = .returned (.int .i64 (amt v s)) ∧ Below W.heap.size W w' := fun W hW => spread_calls v s d W hW hs h1 h2
  have hsp' : ∀ W, Good W → Calls Tryz.prog 81 #[.agg #[.int .i64 v', .int .i64 s', .bool d']] W fun e w' => e = .returned (.int .i64 (amt v' s')) ∧ Below W.heap.size W w' := fun W hW => spread_calls v' s' d' W hW hs' h1' h2'
  have HS := Lib.hid hsp
  have HS' := Lib.hid hsp'
  have HG := Lib.hid hg
  clear hr hr' hsp hsp' hg
  generalize amt v s = A at hb HS ⊢
  generalize amt v' s' = B at hb' HS' ⊢
  go_enter Tryz.func61, Tryz.ntmps61
  go_wp2_with fail
  refine (right_calls _ _ _ _).mono ?_
  rintro e w1 ⟨rfl, hb1⟩
  rw [HR.out]
  obtain ⟨hc, hf⟩ := bcell hb1
  have hz : w.heap.size + 1 < w1.heap.size := by have := hb1.size; simp at this; omega
  go_wp2_with fail
  refine (right_calls _ _ _ _).mono ?_
  rintro e w2 ⟨rfl, hb2'⟩
  rw [HR'.out]
  have hb2 := bnext hb1 hb2'
  clear hc hf hz
  obtain ⟨hc, hf⟩ := bcell hb2
  have hz : w.heap.size + 1 < w2.heap.size := by have := hb2.size; simp at this; omega
  go_wp2_with fail
  have hG : Good w2 := (((HG.out.alloc _).alloc _)).on hb2
  have hB : Below (boxed2 w 58 (.int .i64 v) (.int .i64 s) (.bool d) (.int .i64 v') (.int .i64 s') (.bool d')).heap.size (boxed2 w 58 (.int .i64 v) (.int .i64 s) (.bool d) (.int .i64 v') (.int .i64 s') (.bool d')) w2 := hb2
  clear hb1 hb2 hb2' hf hz
  obtain ⟨c0, c1, c2, c3, c4, c5⟩ := boxes2 hB
  clear hc
  refine wp_region_held_drew (S := (fun W => W.cell? ⟨w.heap.size, 0, none⟩ = some (.int .i64 v) ∧ W.cell? ⟨w.heap.size, 1, none⟩ = some (.int .i64 s) ∧ W.cell? ⟨w.heap.size, 2, none⟩ = some (.bool d) ∧ W.cell? ⟨w.heap.size + 1, 0, none⟩ = some (.int .i64 v') ∧ W.cell? ⟨w.heap.size + 1, 1, none⟩ = some (.int .i64 s') ∧ W.cell? ⟨w.heap.size + 1, 2, none⟩ = some (.bool d'))) (by kernel_rfl) ?_ (fun hHeld => ?_)
  · (try dsimp only); go_keep
  refine wpAnyH_take (i := 0) (v := ?_) rfl (by kernel_rfl) (by kernel_rfl) (by kernel_rfl) (fun _ _ _ h => h) (Or.inl ⟨by rfl, ?_⟩) (by assumption) ?_
  rotate_left
  · (intro ww hSw; (try dsimp only at hSw); go_simp); (try with_reducible rfl)
  (try simp only [Act.put])
  refine wpAnyH_take (i := 2) (v := ?_) rfl (by kernel_rfl) (by kernel_rfl) (by kernel_rfl) (fun _ _ _ h => h) (Or.inl ⟨by rfl, ?_⟩) (by assumption) ?_
  rotate_left
  · (intro ww hSw; (try dsimp only at hSw); go_simp); (try with_reducible rfl)
  (try simp only [Act.put])
  refine wpAnyH_ready (rs := [1]) (by kernel_rfl) (by simp) ?_
  refine AllReadyH.cons rfl (fun K hK => ?_) AllReadyH.nil
  go_simp
  refine (HS.out _ ?_).mono ?_
  · first | exact hG | exact hG.drew
  rintro e wn ⟨rfl, hbn⟩
  (first | replace hG := hG.on hbn | replace hG := hG.drew.on hbn)
  (first | replace hB := bnext hB hbn | replace hB := bnext hB.drew hbn)
  clear hbn c0 c1 c2 c3 c4 c5
  obtain ⟨c0, c1, c2, c3, c4, c5⟩ := boxes2 hB
  go_wp2_with fail
  refine hK.out _ _ ?_ (fun hHeld => ?_)
  · (try dsimp only); go_keep
  clear hK K
  (try simp only [Act.put, List.setIfInBounds_toArray, List.set_cons_zero, List.set_cons_succ])
  refine wpAnyH_ready (rs := [3]) (by kernel_rfl) (by simp) ?_
  refine AllReadyH.cons rfl (fun K hK => ?_) AllReadyH.nil
  go_simp
  refine (HS'.out _ ?_).mono ?_
  · first | exact hG | exact hG.drew
  rintro e wn ⟨rfl, hbn⟩
  (first | replace hG := hG.on hbn | replace hG := hG.drew.on hbn)
  (first | replace hB := bnext hB hbn | replace hB := bnext hB.drew hbn)
  clear hbn c0 c1 c2 c3 c4 c5
  obtain ⟨c0, c1, c2, c3, c4, c5⟩ := boxes2 hB
  go_wp2_with fail
  refine hK.out _ _ ?_ (fun hHeld => ?_)
  · (try dsimp only); go_keep
  clear hK K
  (try simp only [Act.put, List.setIfInBounds_toArray, List.set_cons_zero, List.set_cons_succ])
  refine wpAnyH_ready (rs := [4]) (by kernel_rfl) (by simp) ?_
  refine AllReadyH.cons rfl (fun K hK => ?_) AllReadyH.nil
  go_simp
  refine (cmp_calls _ _ _).mono ?_
  rintro e wq ⟨rfl, hwq⟩
  obtain rfl := hwq.symm
  clear hwq
  go_wp2_with fail
  refine hK.out _ _ ?_ (fun hHeld => ?_)
  · (try dsimp only); go_keep
  clear hK K
  (try simp only [Act.put, List.setIfInBounds_toArray, List.set_cons_zero, List.set_cons_succ])
  refine wpAnyH_take (i := 5) (oi := ⟨some 4, _, _, _, _, _⟩) (v := ?_) rfl (by kernel_rfl) (by kernel_rfl) (by kernel_rfl) (fun _ _ _ h => h) (Or.inl ⟨by rfl, ?_⟩) (by assumption) ?_
  rotate_left
  · (intro ww hSw; (try dsimp only at hSw); go_simp); (try with_reducible rfl)
  (try simp only [Act.put])
  refine wpAnyH_take (i := 6) (oi := ⟨some 5, _, _, _, _, _⟩) (v := ?_) rfl (by kernel_rfl) (by kernel_rfl) (by kernel_rfl) (fun _ _ _ h => h) (Or.inl ⟨by rfl, ?_⟩) (by assumption) ?_
  rotate_left
  · (intro ww hSw; (try dsimp only at hSw); go_simp); (try with_reducible rfl)
  (try simp only [Act.put])
  refine wpAnyH_done (by kernel_rfl) ?_ _
  go_wp2
  go_ret2
  exact ⟨rfl, boxed2_below hB⟩

set_option maxHeartbeats 2000000 in
theorem rCompare_calls (v : Int) (s : Nat) (d : Bool) (v' : Int) (s' : Nat) (d' : Bool) (w : World) (hs : s ≤ 4) (h1 : -999999999 ≤ v) (h2 : v ≤ 999999999) (hs' : s' ≤ 4) (h1' : -999999999 ≤ v') (h2' : v' ≤ 999999999) :
    Calls Tryz.prog 42 #[.agg #[.int .i64 v, .int .i64 s, .bool d], .agg #[.int .i64 v', .int .i64 s', .bool d']] w fun e w' => e = .returned (.int .i64 (cmpI (amt v s) (amt v' s'))) ∧ Below w.heap.size w w' := by
  have hb := amt_bound v s h1 h2 hs
  have hb' := amt_bound v' s' h1' h2' hs'
  have hsp : ∀ W, Calls Tryz.prog 67 #[.agg #[.int .i64 v, .int .i64 s, .bool d]] W fun e w' => e = .returned (.int .i64 (amt v s)) ∧ Below W.heap.size W w' := fun W => rAmount_calls v s d W hs h1 h2
  have hsp' : ∀ W, Calls Tryz.prog 67 #[.agg #[.int .i64 v', .int .i64 s', .bool d']] W fun e w' => e = .returned (.int .i64 (amt v' s')) ∧ Below W.heap.size W w' := fun W => rAmount_calls v' s' d' W hs' h1' h2'
  have HS := Lib.hid hsp
  have HS' := Lib.hid hsp'
  clear hsp hsp'
  generalize amt v s = A at hb HS ⊢
  generalize amt v' s' = B at hb' HS' ⊢
  have hB : Below (boxed2 w 58 (.int .i64 v) (.int .i64 s) (.bool d) (.int .i64 v') (.int .i64 s') (.bool d')).heap.size (boxed2 w 58 (.int .i64 v) (.int .i64 s) (.bool d) (.int .i64 v') (.int .i64 s') (.bool d')) (boxed2 w 58 (.int .i64 v) (.int .i64 s) (.bool d) (.int .i64 v') (.int .i64 s') (.bool d')) := Below.refl _ _
  obtain ⟨c0, c1, c2, c3, c4, c5⟩ := boxes2 hB
  rcases Int.lt_trichotomy A B with h | h | h
  · have H := Lib.hid (cmpI_lt h)
    go_enter Tryz.func42, Tryz.ntmps42
    go_wp2_with fail
    change Code.wp _ _ _ _ (boxed2 _ _ _ _ _ _ _ _)
    refine wp_region_held_drew (S := (fun W => W.cell? ⟨w.heap.size, 0, none⟩ = some (.int .i64 v) ∧ W.cell? ⟨w.heap.size, 1, none⟩ = some (.int .i64 s) ∧ W.cell? ⟨w.heap.size, 2, none⟩ = some (.bool d) ∧ W.cell? ⟨w.heap.size + 1, 0, none⟩ = some (.int .i64 v') ∧ W.cell? ⟨w.heap.size + 1, 1, none⟩ = some (.int .i64 s') ∧ W.cell? ⟨w.heap.size + 1, 2, none⟩ = some (.bool d'))) (by kernel_rfl) ?_ (fun hHeld => ?_)
    · (try dsimp only); go_keep
    refine wpAnyH_take (i := 0) (v := ?_) rfl (by kernel_rfl) (by kernel_rfl) (by kernel_rfl) (fun _ _ _ h => h) (Or.inl ⟨by rfl, ?_⟩) (by assumption) ?_
    rotate_left
    · (intro ww hSw; (try dsimp only at hSw); go_simp); (try with_reducible rfl)
    (try simp only [Act.put])
    refine wpAnyH_take (i := 2) (v := ?_) rfl (by kernel_rfl) (by kernel_rfl) (by kernel_rfl) (fun _ _ _ h => h) (Or.inl ⟨by rfl, ?_⟩) (by assumption) ?_
    rotate_left
    · (intro ww hSw; (try dsimp only at hSw); go_simp); (try with_reducible rfl)
    (try simp only [Act.put])
    refine wpAnyH_ready (rs := [1]) (by kernel_rfl) (by simp) ?_
    refine AllReadyH.cons rfl (fun K hK => ?_) AllReadyH.nil
    go_simp
    refine (HS.out _).mono ?_
    rintro e wn ⟨rfl, hbn⟩
    (first | replace hB := bnext hB hbn | replace hB := bnext hB.drew hbn)
    clear hbn c0 c1 c2 c3 c4 c5
    obtain ⟨c0, c1, c2, c3, c4, c5⟩ := boxes2 hB
    go_wp2_with fail
    refine hK.out _ _ ?_ (fun hHeld => ?_)
    · (try dsimp only); go_keep
    clear hK K
    (try simp only [Act.put, List.setIfInBounds_toArray, List.set_cons_zero, List.set_cons_succ])
    refine wpAnyH_ready (rs := [3]) (by kernel_rfl) (by simp) ?_
    refine AllReadyH.cons rfl (fun K hK => ?_) AllReadyH.nil
    go_simp
    refine (HS'.out _).mono ?_
    rintro e wn ⟨rfl, hbn⟩
    (first | replace hB := bnext hB hbn | replace hB := bnext hB.drew hbn)
    clear hbn c0 c1 c2 c3 c4 c5
    obtain ⟨c0, c1, c2, c3, c4, c5⟩ := boxes2 hB
    go_wp2_with fail
    refine hK.out _ _ ?_ (fun hHeld => ?_)
    · (try dsimp only); go_keep
    clear hK K
    (try simp only [Act.put, List.setIfInBounds_toArray, List.set_cons_zero, List.set_cons_succ])
    refine wpAnyH_take (i := 4) (oi := ⟨some 9, _, _, _, _, _⟩) (v := ?_) rfl (by kernel_rfl) (by kernel_rfl) (by kernel_rfl) (fun _ _ _ h => h) (Or.inl ⟨by rfl, ?_⟩) (by assumption) ?_
    rotate_left
    · (intro ww hSw; (try dsimp only at hSw); go_simp); (try with_reducible rfl)
    (try simp only [Act.put])
    refine wpAnyH_done (by kernel_rfl) ?_ _
    go_wp2
    go_ret
    exact ⟨ret_int H.out.symm, boxed2_below hB⟩
  · have H := Lib.hid (cmpI_eq (show ¬ A < B by omega) (show ¬ B < A by omega))
    have k1 : ¬ A < B := by omega
    have k2 : ¬ B < A := by omega
    clear h
    go_enter Tryz.func42, Tryz.ntmps42
    go_wp2_with fail
    change Code.wp _ _ _ _ (boxed2 _ _ _ _ _ _ _ _)
    refine wp_region_held_drew (S := (fun W => W.cell? ⟨w.heap.size, 0, none⟩ = some (.int .i64 v) ∧ W.cell? ⟨w.heap.size, 1, none⟩ = some (.int .i64 s) ∧ W.cell? ⟨w.heap.size, 2, none⟩ = some (.bool d) ∧ W.cell? ⟨w.heap.size + 1, 0, none⟩ = some (.int .i64 v') ∧ W.cell? ⟨w.heap.size + 1, 1, none⟩ = some (.int .i64 s') ∧ W.cell? ⟨w.heap.size + 1, 2, none⟩ = some (.bool d'))) (by kernel_rfl) ?_ (fun hHeld => ?_)
    · (try dsimp only); go_keep
    refine wpAnyH_take (i := 0) (v := ?_) rfl (by kernel_rfl) (by kernel_rfl) (by kernel_rfl) (fun _ _ _ h => h) (Or.inl ⟨by rfl, ?_⟩) (by assumption) ?_
    rotate_left
    · (intro ww hSw; (try dsimp only at hSw); go_simp); (try with_reducible rfl)
    (try simp only [Act.put])
    refine wpAnyH_take (i := 2) (v := ?_) rfl (by kernel_rfl) (by kernel_rfl) (by kernel_rfl) (fun _ _ _ h => h) (Or.inl ⟨by rfl, ?_⟩) (by assumption) ?_
    rotate_left
    · (intro ww hSw; (try dsimp only at hSw); go_simp); (try with_reducible rfl)
    (try simp only [Act.put])
    refine wpAnyH_ready (rs := [1]) (by kernel_rfl) (by simp) ?_
    refine AllReadyH.cons rfl (fun K hK => ?_) AllReadyH.nil
    go_simp
    refine (HS.out _).mono ?_
    rintro e wn ⟨rfl, hbn⟩
    (first | replace hB := bnext hB hbn | replace hB := bnext hB.drew hbn)
    clear hbn c0 c1 c2 c3 c4 c5
    obtain ⟨c0, c1, c2, c3, c4, c5⟩ := boxes2 hB
    go_wp2_with fail
    refine hK.out _ _ ?_ (fun hHeld => ?_)
    · (try dsimp only); go_keep
    clear hK K
    (try simp only [Act.put, List.setIfInBounds_toArray, List.set_cons_zero, List.set_cons_succ])
    refine wpAnyH_ready (rs := [3]) (by kernel_rfl) (by simp) ?_
    refine AllReadyH.cons rfl (fun K hK => ?_) AllReadyH.nil
    go_simp
    refine (HS'.out _).mono ?_
    rintro e wn ⟨rfl, hbn⟩
    (first | replace hB := bnext hB hbn | replace hB := bnext hB.drew hbn)
    clear hbn c0 c1 c2 c3 c4 c5
    obtain ⟨c0, c1, c2, c3, c4, c5⟩ := boxes2 hB
    go_wp2_with fail
    refine hK.out _ _ ?_ (fun hHeld => ?_)
    · (try dsimp only); go_keep
    clear hK K
    (try simp only [Act.put, List.setIfInBounds_toArray, List.set_cons_zero, List.set_cons_succ])
    refine wpAnyH_take (i := 4) (oi := ⟨some 9, _, _, _, _, _⟩) (v := ?_) rfl (by kernel_rfl) (by kernel_rfl) (by kernel_rfl) (fun _ _ _ h => h) (Or.inl ⟨by rfl, ?_⟩) (by assumption) ?_
    rotate_left
    · (intro ww hSw; (try dsimp only at hSw); go_simp); (try with_reducible rfl)
    (try simp only [Act.put])
    refine wpAnyH_done (by kernel_rfl) ?_ _
    go_wp2_with fail
    refine wp_region_held_drew (S := (fun W => W.cell? ⟨w.heap.size, 0, none⟩ = some (.int .i64 v) ∧ W.cell? ⟨w.heap.size, 1, none⟩ = some (.int .i64 s) ∧ W.cell? ⟨w.heap.size, 2, none⟩ = some (.bool d) ∧ W.cell? ⟨w.heap.size + 1, 0, none⟩ = some (.int .i64 v') ∧ W.cell? ⟨w.heap.size + 1, 1, none⟩ = some (.int .i64 s') ∧ W.cell? ⟨w.heap.size + 1, 2, none⟩ = some (.bool d'))) (by kernel_rfl) ?_ (fun hHeld => ?_)
    · (try dsimp only); go_keep
    refine wpAnyH_take (i := 0) (v := ?_) rfl (by kernel_rfl) (by kernel_rfl) (by kernel_rfl) (fun _ _ _ h => h) (Or.inl ⟨by rfl, ?_⟩) (by assumption) ?_
    rotate_left
    · (intro ww hSw; (try dsimp only at hSw); go_simp); (try with_reducible rfl)
    (try simp only [Act.put])
    refine wpAnyH_take (i := 2) (v := ?_) rfl (by kernel_rfl) (by kernel_rfl) (by kernel_rfl) (fun _ _ _ h => h) (Or.inl ⟨by rfl, ?_⟩) (by assumption) ?_
    rotate_left
    · (intro ww hSw; (try dsimp only at hSw); go_simp); (try with_reducible rfl)
    (try simp only [Act.put])
    refine wpAnyH_ready (rs := [1]) (by kernel_rfl) (by simp) ?_
    refine AllReadyH.cons rfl (fun K hK => ?_) AllReadyH.nil
    go_simp
    refine (HS.out _).mono ?_
    rintro e wn ⟨rfl, hbn⟩
    (first | replace hB := bnext hB hbn | replace hB := bnext hB.drew hbn)
    clear hbn c0 c1 c2 c3 c4 c5
    obtain ⟨c0, c1, c2, c3, c4, c5⟩ := boxes2 hB
    go_wp2_with fail
    refine hK.out _ _ ?_ (fun hHeld => ?_)
    · (try dsimp only); go_keep
    clear hK K
    (try simp only [Act.put, List.setIfInBounds_toArray, List.set_cons_zero, List.set_cons_succ])
    refine wpAnyH_ready (rs := [3]) (by kernel_rfl) (by simp) ?_
    refine AllReadyH.cons rfl (fun K hK => ?_) AllReadyH.nil
    go_simp
    refine (HS'.out _).mono ?_
    rintro e wn ⟨rfl, hbn⟩
    (first | replace hB := bnext hB hbn | replace hB := bnext hB.drew hbn)
    clear hbn c0 c1 c2 c3 c4 c5
    obtain ⟨c0, c1, c2, c3, c4, c5⟩ := boxes2 hB
    go_wp2_with fail
    refine hK.out _ _ ?_ (fun hHeld => ?_)
    · (try dsimp only); go_keep
    clear hK K
    (try simp only [Act.put, List.setIfInBounds_toArray, List.set_cons_zero, List.set_cons_succ])
    refine wpAnyH_take (i := 4) (oi := ⟨some 14, _, _, _, _, _⟩) (v := ?_) rfl (by kernel_rfl) (by kernel_rfl) (by kernel_rfl) (fun _ _ _ h => h) (Or.inl ⟨by rfl, ?_⟩) (by assumption) ?_
    rotate_left
    · (intro ww hSw; (try dsimp only at hSw); go_simp); (try with_reducible rfl)
    (try simp only [Act.put])
    refine wpAnyH_done (by kernel_rfl) ?_ _
    go_wp2
    go_ret
    exact ⟨ret_int H.out.symm, boxed2_below hB⟩
  · have H := Lib.hid (cmpI_gt h)
    have k1 : ¬ A < B := by omega
    go_enter Tryz.func42, Tryz.ntmps42
    go_wp2_with fail
    change Code.wp _ _ _ _ (boxed2 _ _ _ _ _ _ _ _)
    refine wp_region_held_drew (S := (fun W => W.cell? ⟨w.heap.size, 0, none⟩ = some (.int .i64 v) ∧ W.cell? ⟨w.heap.size, 1, none⟩ = some (.int .i64 s) ∧ W.cell? ⟨w.heap.size, 2, none⟩ = some (.bool d) ∧ W.cell? ⟨w.heap.size + 1, 0, none⟩ = some (.int .i64 v') ∧ W.cell? ⟨w.heap.size + 1, 1, none⟩ = some (.int .i64 s') ∧ W.cell? ⟨w.heap.size + 1, 2, none⟩ = some (.bool d'))) (by kernel_rfl) ?_ (fun hHeld => ?_)
    · (try dsimp only); go_keep
    refine wpAnyH_take (i := 0) (v := ?_) rfl (by kernel_rfl) (by kernel_rfl) (by kernel_rfl) (fun _ _ _ h => h) (Or.inl ⟨by rfl, ?_⟩) (by assumption) ?_
    rotate_left
    · (intro ww hSw; (try dsimp only at hSw); go_simp); (try with_reducible rfl)
    (try simp only [Act.put])
    refine wpAnyH_take (i := 2) (v := ?_) rfl (by kernel_rfl) (by kernel_rfl) (by kernel_rfl) (fun _ _ _ h => h) (Or.inl ⟨by rfl, ?_⟩) (by assumption) ?_
    rotate_left
    · (intro ww hSw; (try dsimp only at hSw); go_simp); (try with_reducible rfl)
    (try simp only [Act.put])
    refine wpAnyH_ready (rs := [1]) (by kernel_rfl) (by simp) ?_
    refine AllReadyH.cons rfl (fun K hK => ?_) AllReadyH.nil
    go_simp
    refine (HS.out _).mono ?_
    rintro e wn ⟨rfl, hbn⟩
    (first | replace hB := bnext hB hbn | replace hB := bnext hB.drew hbn)
    clear hbn c0 c1 c2 c3 c4 c5
    obtain ⟨c0, c1, c2, c3, c4, c5⟩ := boxes2 hB
    go_wp2_with fail
    refine hK.out _ _ ?_ (fun hHeld => ?_)
    · (try dsimp only); go_keep
    clear hK K
    (try simp only [Act.put, List.setIfInBounds_toArray, List.set_cons_zero, List.set_cons_succ])
    refine wpAnyH_ready (rs := [3]) (by kernel_rfl) (by simp) ?_
    refine AllReadyH.cons rfl (fun K hK => ?_) AllReadyH.nil
    go_simp
    refine (HS'.out _).mono ?_
    rintro e wn ⟨rfl, hbn⟩
    (first | replace hB := bnext hB hbn | replace hB := bnext hB.drew hbn)
    clear hbn c0 c1 c2 c3 c4 c5
    obtain ⟨c0, c1, c2, c3, c4, c5⟩ := boxes2 hB
    go_wp2_with fail
    refine hK.out _ _ ?_ (fun hHeld => ?_)
    · (try dsimp only); go_keep
    clear hK K
    (try simp only [Act.put, List.setIfInBounds_toArray, List.set_cons_zero, List.set_cons_succ])
    refine wpAnyH_take (i := 4) (oi := ⟨some 9, _, _, _, _, _⟩) (v := ?_) rfl (by kernel_rfl) (by kernel_rfl) (by kernel_rfl) (fun _ _ _ h => h) (Or.inl ⟨by rfl, ?_⟩) (by assumption) ?_
    rotate_left
    · (intro ww hSw; (try dsimp only at hSw); go_simp); (try with_reducible rfl)
    (try simp only [Act.put])
    refine wpAnyH_done (by kernel_rfl) ?_ _
    go_wp2_with fail
    refine wp_region_held_drew (S := (fun W => W.cell? ⟨w.heap.size, 0, none⟩ = some (.int .i64 v) ∧ W.cell? ⟨w.heap.size, 1, none⟩ = some (.int .i64 s) ∧ W.cell? ⟨w.heap.size, 2, none⟩ = some (.bool d) ∧ W.cell? ⟨w.heap.size + 1, 0, none⟩ = some (.int .i64 v') ∧ W.cell? ⟨w.heap.size + 1, 1, none⟩ = some (.int .i64 s') ∧ W.cell? ⟨w.heap.size + 1, 2, none⟩ = some (.bool d'))) (by kernel_rfl) ?_ (fun hHeld => ?_)
    · (try dsimp only); go_keep
    refine wpAnyH_take (i := 0) (v := ?_) rfl (by kernel_rfl) (by kernel_rfl) (by kernel_rfl) (fun _ _ _ h => h) (Or.inl ⟨by rfl, ?_⟩) (by assumption) ?_
    rotate_left
    · (intro ww hSw; (try dsimp only at hSw); go_simp); (try with_reducible rfl)
    (try simp only [Act.put])
    refine wpAnyH_take (i := 2) (v := ?_) rfl (by kernel_rfl) (by kernel_rfl) (by kernel_rfl) (fun _ _ _ h => h) (Or.inl ⟨by rfl, ?_⟩) (by assumption) ?_
    rotate_left
    · (intro ww hSw; (try dsimp only at hSw); go_simp); (try with_reducible rfl)
    (try simp only [Act.put])
    refine wpAnyH_ready (rs := [1]) (by kernel_rfl) (by simp) ?_
    refine AllReadyH.cons rfl (fun K hK => ?_) AllReadyH.nil
    go_simp
    refine (HS.out _).mono ?_
    rintro e wn ⟨rfl, hbn⟩
    (first | replace hB := bnext hB hbn | replace hB := bnext hB.drew hbn)
    clear hbn c0 c1 c2 c3 c4 c5
    obtain ⟨c0, c1, c2, c3, c4, c5⟩ := boxes2 hB
    go_wp2_with fail
    refine hK.out _ _ ?_ (fun hHeld => ?_)
    · (try dsimp only); go_keep
    clear hK K
    (try simp only [Act.put, List.setIfInBounds_toArray, List.set_cons_zero, List.set_cons_succ])
    refine wpAnyH_ready (rs := [3]) (by kernel_rfl) (by simp) ?_
    refine AllReadyH.cons rfl (fun K hK => ?_) AllReadyH.nil
    go_simp
    refine (HS'.out _).mono ?_
    rintro e wn ⟨rfl, hbn⟩
    (first | replace hB := bnext hB hbn | replace hB := bnext hB.drew hbn)
    clear hbn c0 c1 c2 c3 c4 c5
    obtain ⟨c0, c1, c2, c3, c4, c5⟩ := boxes2 hB
    go_wp2_with fail
    refine hK.out _ _ ?_ (fun hHeld => ?_)
    · (try dsimp only); go_keep
    clear hK K
    (try simp only [Act.put, List.setIfInBounds_toArray, List.set_cons_zero, List.set_cons_succ])
    refine wpAnyH_take (i := 4) (oi := ⟨some 14, _, _, _, _, _⟩) (v := ?_) rfl (by kernel_rfl) (by kernel_rfl) (by kernel_rfl) (fun _ _ _ h => h) (Or.inl ⟨by rfl, ?_⟩) (by assumption) ?_
    rotate_left
    · (intro ww hSw; (try dsimp only at hSw); go_simp); (try with_reducible rfl)
    (try simp only [Act.put])
    refine wpAnyH_done (by kernel_rfl) ?_ _
    go_wp2
    go_ret
    exact ⟨ret_int H.out.symm, boxed2_below hB⟩

end Go.Proofs.YtkfemnjblbnclaaGreatDoor.Nm