/- NumSpread, NumBox, NumCmp, NumSums, put together. -/
import Derived.Test.YtdnfaoanaehjhaaGreatDoorH15
import Derived.Deep.RegionHeld3

/- What a right number comes to with the scale 4, by package number and by the document. -/
namespace Go.Proofs.YtdnfaoanaehjhaaGreatDoor.Nm
open Go.RowKit

def amt (v : Int) (s : Nat) : Int := v * ten (4 - s)
theorem ten_le (k : Nat) (h : k ≤ 4) : ten k ≤ 10000 := by
  match k, h with
  | 0, _ => decide
  | 1, _ => decide
  | 2, _ => decide
  | 3, _ => decide
  | 4, _ => decide
theorem mul_bound (v T B C : Int) (h1 : -B ≤ v) (h2 : v ≤ B) (h3 : 0 ≤ T) (h4 : T ≤ C) (hB : 0 ≤ B) : -(B * C) ≤ v * T ∧ v * T ≤ B * C := by
  have a : v * T ≤ B * T := Int.mul_le_mul_of_nonneg_right h2 h3
  have b : B * T ≤ B * C := Int.mul_le_mul_of_nonneg_left h4 hB
  have c : -B * T ≤ v * T := Int.mul_le_mul_of_nonneg_right h1 h3
  rw [Int.neg_mul] at c
  omega
theorem amt_bound (v : Int) (s : Nat) (h1 : -999999999 ≤ v) (h2 : v ≤ 999999999) (hs : s ≤ 4) : -9999999990000 ≤ amt v s ∧ amt v s ≤ 9999999990000 := by
  have := mul_bound v (ten (4 - s)) 999999999 10000 h1 h2 (by have := ten_pos (4 - s); omega) (ten_le _ (by omega)) (by omega)
  unfold amt; omega

set_option maxHeartbeats 400000 in
theorem spread_calls (v : Int) (s : Nat) (d : Bool) (w : World) (hg : Good w) (hs : s ≤ 4) (h1 : -999999999 ≤ v) (h2 : v ≤ 999999999) :
    Calls Tryz.prog 124 #[.agg #[.int .i64 v, .int .i64 s, .bool d]] w fun e w' => e = .returned (.int .i64 (amt v s)) ∧ Below w.heap.size w w' := by
  have hc := hg.cell (4 - s) (by omega)
  have hbig := hg.big
  rw [pow_ten _ (by omega)] at hc
  have hm := amt_bound v s h1 h2 hs
  have HA := Lib.hid (show amt v s = v * ten (4 - s) from rfl)
  unfold amt at hm
  generalize ten (4 - s) = T at hc hm HA
  have e1 : IntKind.i64.wrap (4 - (s : Int)) = 4 - (s : Int) := IntWalk.i64_in _ (by omega)
  have e2 : (4 - (s : Int)).toNat = 4 - s := by omega
  have e3 : IntKind.i64.wrap (v * T) = v * T := IntWalk.i64_in _ (by omega)
  have e4 : 0 ≤ 4 - (s : Int) := by omega
  go_enter Tryz.func124, Tryz.ntmps124
  go_wp2
  go_quiet (fail)
  go_wp2
  go_ret
  exact ⟨ret_int (by rw [HA.out]), below_drewN (box_below _ _) _⟩

set_option maxHeartbeats 400000 in
theorem rAmount_calls (v : Int) (s : Nat) (d : Bool) (w : World) (hs : s ≤ 4) (h1 : -999999999 ≤ v) (h2 : v ≤ 999999999) :
    Calls Tryz.prog 84 #[.agg #[.int .i64 v, .int .i64 s, .bool d]] w fun e w' => e = .returned (.int .i64 (amt v s)) ∧ Below w.heap.size w w' := by
  have hm := amt_bound v s h1 h2 hs
  have HA := Lib.hid (show amt v s = v * ten (4 - s) from rfl)
  unfold amt at hm
  have hten : ∀ W, Calls Tryz.prog 101 #[.int .i64 (4 - (s : Int))] W fun e w' => e = .returned (.int .i64 (ten (4 - s))) ∧ w' = W := fun W => by
    have := rTen_calls (4 - s) W (by omega)
    rw [show ((4 - s : Nat) : Int) = 4 - (s : Int) by omega] at this
    exact this
  have HT := Lib.hid hten
  clear hten
  generalize ten (4 - s) = T at hm HA HT
  have e1 : IntKind.i64.wrap (4 - (s : Int)) = 4 - (s : Int) := IntWalk.i64_in _ (by omega)
  have e3 : IntKind.i64.wrap (v * T) = v * T := IntWalk.i64_in _ (by omega)
  go_enter Tryz.func84, Tryz.ntmps84
  go_wp2
  go_quiet ((go_at_call 101; exact Calls.quiet_of_same (HT.out _)))
  go_wp2
  go_ret
  exact ⟨ret_int (by rw [HA.out]), below_drewN (box_below _ _) _⟩

end Go.Proofs.YtdnfaoanaehjhaaGreatDoor.Nm

/- What a reckoning's boxes hold while it goes on. -/
namespace Go.Proofs.YtdnfaoanaehjhaaGreatDoor.Nm
open Go.RowKit

/- what the two boxes of a reckoning hold, and its result's, as long as all that was there stays -/
def boxed (w : World) (t : TypeId) (a b c a' b' c' x y z : Value) : World := ((w.alloc (.cells #[a, b, c] t)).alloc (.cells #[a', b', c'] t)).alloc (.cells #[x, y, z] t)
theorem boxes {w W : World} {a b c a' b' c' x y z : Value} {t : TypeId} (hB : Below (boxed w t a b c a' b' c' x y z).heap.size (boxed w t a b c a' b' c' x y z) W) :
    W.cell? ⟨w.heap.size, 0, none⟩ = some a ∧ W.cell? ⟨w.heap.size, 1, none⟩ = some b ∧ W.cell? ⟨w.heap.size, 2, none⟩ = some c ∧ W.cell? ⟨w.heap.size + 1, 0, none⟩ = some a' ∧ W.cell? ⟨w.heap.size + 1, 1, none⟩ = some b' ∧ W.cell? ⟨w.heap.size + 1, 2, none⟩ = some c' ∧
    (W.cell? ⟨w.heap.size + 1 + 1, 0, none⟩ = some x ∧ W.cell? ⟨w.heap.size + 1 + 1, 1, none⟩ = some y ∧ W.cell? ⟨w.heap.size + 1 + 1, 2, none⟩ = some z) ∧ (∀ i, W.frozen? ⟨w.heap.size + 1 + 1, i, none⟩ = false) := by
  unfold boxed at hB
  have h0 : ∀ i, W.cell? ⟨w.heap.size, i, none⟩ = (#[a, b, c] : Array Value)[i]? := fun i => by
    rw [hB.cell (p := ⟨w.heap.size, i, none⟩) (by simp; omega), World.cell?_alloc_past _ _ _ (by simp; omega), World.cell?_alloc_past _ _ _ (by simp), World.cell?_alloc_at _ _ _ _ rfl]
  have h1 : ∀ i, W.cell? ⟨w.heap.size + 1, i, none⟩ = (#[a', b', c'] : Array Value)[i]? := fun i => by
    rw [hB.cell (p := ⟨w.heap.size + 1, i, none⟩) (by simp), World.cell?_alloc_past _ _ _ (by simp), World.cell?_alloc_at _ _ _ _ (by simp)]
  have h2 : ∀ i, W.cell? ⟨w.heap.size + 1 + 1, i, none⟩ = (#[x, y, z] : Array Value)[i]? := fun i => by
    rw [hB.cell (p := ⟨w.heap.size + 1 + 1, i, none⟩) (by simp), World.cell?_alloc_at _ _ _ _ (by simp)]
  have h3 : ∀ i, W.frozen? ⟨w.heap.size + 1 + 1, i, none⟩ = false := fun i => by
    rw [hB.frozen (p := ⟨w.heap.size + 1 + 1, i, none⟩) (by simp), World.frozen?_alloc_at _ _ _ _ (by simp)]
  exact ⟨h0 0, h0 1, h0 2, h1 0, h1 1, h1 2, ⟨h2 0, h2 1, h2 2⟩, h3⟩
theorem boxed_size {w : World} {a b c a' b' c' x y z : Value} {t : TypeId} : (boxed w t a b c a' b' c' x y z).heap.size = w.heap.size + 3 := by simp [boxed]
theorem boxed_below {w W : World} {a b c a' b' c' x y z : Value} {t : TypeId} (hB : Below (boxed w t a b c a' b' c' x y z).heap.size (boxed w t a b c a' b' c' x y z) W) : Below w.heap.size w W := by
  have h : Below w.heap.size w (boxed w t a b c a' b' c' x y z) := (((Below.refl _ _).alloc (Nat.le_refl _) _).alloc (by simp) _).alloc (by simp; omega) _
  exact h.trans (hB.mono (by rw [boxed_size]; omega))

def decOf (d d' : Bool) : Bool := d || d'

end Go.Proofs.YtdnfaoanaehjhaaGreatDoor.Nm

/- Which of two right numbers is less, by package number and by the document. -/
namespace Go.Proofs.YtdnfaoanaehjhaaGreatDoor.Nm
open Go.RowKit

theorem gone (w : World) (o o2 : Obj) : Below w.heap.size w ((w.alloc o).alloc o2) := (box_below w o).alloc (by simp) _
def boxed2 (w : World) (t : TypeId) (a b c a' b' c' : Value) : World := (w.alloc (.cells #[a, b, c] t)).alloc (.cells #[a', b', c'] t)
theorem boxes2 {w W : World} {a b c a' b' c' : Value} {t : TypeId} (hB : Below (boxed2 w t a b c a' b' c').heap.size (boxed2 w t a b c a' b' c') W) :
    W.cell? ⟨w.heap.size, 0, none⟩ = some a ∧ W.cell? ⟨w.heap.size, 1, none⟩ = some b ∧ W.cell? ⟨w.heap.size, 2, none⟩ = some c ∧ W.cell? ⟨w.heap.size + 1, 0, none⟩ = some a' ∧ W.cell? ⟨w.heap.size + 1, 1, none⟩ = some b' ∧ W.cell? ⟨w.heap.size + 1, 2, none⟩ = some c' := by
  unfold boxed2 at hB
  have h0 : ∀ i, W.cell? ⟨w.heap.size, i, none⟩ = (#[a, b, c] : Array Value)[i]? := fun i => by
    rw [hB.cell (p := ⟨w.heap.size, i, none⟩) (by simp; omega), World.cell?_alloc_past _ _ _ (by simp), World.cell?_alloc_at _ _ _ _ rfl]
  have h1 : ∀ i, W.cell? ⟨w.heap.size + 1, i, none⟩ = (#[a', b', c'] : Array Value)[i]? := fun i => by
    rw [hB.cell (p := ⟨w.heap.size + 1, i, none⟩) (by simp), World.cell?_alloc_at _ _ _ _ (by simp)]
  exact ⟨h0 0, h0 1, h0 2, h1 0, h1 1, h1 2⟩
theorem boxed2_below {w W : World} {a b c a' b' c' : Value} {t : TypeId} (hB : Below (boxed2 w t a b c a' b' c').heap.size (boxed2 w t a b c a' b' c') W) : Below w.heap.size w W :=
  (gone w _ _).trans (hB.mono (by simp [boxed2]; omega))

def cmpI (a b : Int) : Int := if a < b then -1 else if b < a then 1 else 0
theorem cmpI_lt {a b : Int} (h : a < b) : cmpI a b = -1 := by unfold cmpI; rw [if_pos h]
theorem cmpI_gt {a b : Int} (h : b < a) : cmpI a b = 1 := by unfold cmpI; rw [if_neg (by omega), if_pos h]
theorem cmpI_eq {a b : Int} (h1 : ¬ a < b) (h2 : ¬ b < a) : cmpI a b = 0 := by unfold cmpI; rw [if_neg h1, if_neg h2]

set_option maxHeartbeats 400000 in
theorem cmp_calls (a b : Int) (w : World) :
    Calls Tryz.prog 126 #[.int .i64 a, .int .i64 b] w fun e w' => e = .returned (.int .i64 (cmpI a b)) ∧ w' = w := by
  have g1 : (a != a) = false := by simp
  have g2 : (b != b) = false := by simp
  rcases Int.lt_trichotomy a b with h | h | h
  · have H := Lib.hid (cmpI_lt h)
    go_enter Tryz.func126, Tryz.ntmps126
    go_wp2
    go_ret
    exact ⟨ret_int H.out.symm, rfl⟩
  · have H := Lib.hid (cmpI_eq (show ¬ a < b by omega) (show ¬ b < a by omega))
    have k1 : ¬ a < b := by omega
    have k2 : ¬ b < a := by omega
    clear h
    go_enter Tryz.func126, Tryz.ntmps126
    go_wp2
    go_ret
    exact ⟨ret_int H.out.symm, rfl⟩
  · have H := Lib.hid (cmpI_gt h)
    have k1 : ¬ a < b := by omega
    go_enter Tryz.func126, Tryz.ntmps126
    go_wp2
    go_ret
    exact ⟨ret_int H.out.symm, rfl⟩

set_option maxHeartbeats 2000000 in
theorem Compare_right (v : Int) (s : Nat) (d : Bool) (v' : Int) (s' : Nat) (d' : Bool) (w : World) (hg : Good w) (hr : rightZ v s d = true) (hr' : rightZ v' s' d' = true) (hs : s ≤ 4) (h1 : -999999999 ≤ v) (h2 : v ≤ 999999999) (hs' : s' ≤ 4) (h1' : -999999999 ≤ v') (h2' : v' ≤ 999999999) :
    Calls Tryz.prog 111 #[.agg #[.int .i64 v, .int .i64 s, .bool d], .agg #[.int .i64 v', .int .i64 s', .bool d']] w fun e w' => e = .returned (.tuple #[.int .i64 (cmpI (amt v s) (amt v' s')), .int .i64 0]) ∧ Below w.heap.size w w' := by
  have HR := Lib.hid hr
  have HR' := Lib.hid hr'
  have hb := amt_bound v s h1 h2 hs
  have hb' := amt_bound v' s' h1' h2' hs'
  have hsp : ∀ W, Good W → Calls Tryz.prog 124 #[.agg #[.int .i64 v, .int .i64 s, .bool d]] W fun e w' => e = .returned (.int .i64 (amt v s)) ∧ Below W.heap.size W w' := fun W hW => spread_calls v s d W hW hs h1 h2
  have hsp' : ∀ W, Good W → Calls Tryz.prog 124 #[.agg #[.int .i64 v', .int .i64 s', .bool d']] W fun e w' => e = .returned (.int .i64 (amt v' s')) ∧ Below W.heap.size W w' := fun W hW => spread_calls v' s' d' W hW hs' h1' h2'
  have HS := Lib.hid hsp
  have HS' := Lib.hid hsp'
  have HG := Lib.hid hg
  clear hr hr' hsp hsp' hg
  generalize amt v s = A at hb HS ⊢
  generalize amt v' s' = B at hb' HS' ⊢
  go_enter Tryz.func111, Tryz.ntmps111
  go_wp2_with fail
  refine (right_calls _ _ _ _).mono ?_
  rintro e w1 ⟨rfl, hb1⟩
  rw [HR.out]
  obtain ⟨hc, hf⟩ := bcell hb1
  have hz : w.heap.size + 1 < w1.heap.size := by have := hb1.size; simp at this; omega
  go_wp2_with fail
  refine (right_calls _ _ _ _).mono ?_
  rintro e w2 ⟨rfl, hb2'⟩
  rw [HR'.out]
  have hb2 := bnext hb1 hb2'
  clear hc hf hz
  obtain ⟨hc, hf⟩ := bcell hb2
  have hz : w.heap.size + 1 < w2.heap.size := by have := hb2.size; simp at this; omega
  go_wp2_with fail
  have hG : Good w2 := (((HG.out.alloc _).alloc _)).on hb2
  have hB : Below (boxed2 w 48 (.int .i64 v) (.int .i64 s) (.bool d) (.int .i64 v') (.int .i64 s') (.bool d')).heap.size (boxed2 w 48 (.int .i64 v) (.int .i64 s) (.bool d) (.int .i64 v') (.int .i64 s') (.bool d')) w2 := hb2
  clear hb1 hb2 hb2' hf hz
  obtain ⟨c0, c1, c2, c3, c4, c5⟩ := boxes2 hB
  clear hc
  refine wp_region_held_drew (S := (fun W => W.cell? ⟨w.heap.size, 0, none⟩ = some (.int .i64 v) ∧ W.cell? ⟨w.heap.size, 1, none⟩ = some (.int .i64 s) ∧ W.cell? ⟨w.heap.size, 2, none⟩ = some (.bool d) ∧ W.cell? ⟨w.heap.size + 1, 0, none⟩ = some (.int .i64 v') ∧ W.cell? ⟨w.heap.size + 1, 1, none⟩ = some (.int .i64 s') ∧ W.cell? ⟨w.heap.size + 1, 2, none⟩ = some (.bool d'))) (by kernel_rfl) ?_ (fun hHeld => ?_)
  · (try dsimp only); go_keep
  refine wpAnyH_take (i := 0) (v := ?_) rfl (by kernel_rfl) (by kernel_rfl) (by kernel_rfl) (fun _ _ _ h => h) (Or.inl ⟨by rfl, ?_⟩) (by assumption) ?_
  rotate_left
  · (intro ww hSw; (try dsimp only at hSw); go_simp); (try with_reducible rfl)
  (try simp only [Act.put])
  refine wpAnyH_take (i := 2) (v := ?_) rfl (by kernel_rfl) (by kernel_rfl) (by kernel_rfl) (fun _ _ _ h => h) (Or.inl ⟨by rfl, ?_⟩) (by assumption) ?_
  rotate_left
  · (intro ww hSw; (try dsimp only at hSw); go_simp); (try with_reducible rfl)
  (try simp only [Act.put])
  refine wpAnyH_ready (rs := [1]) (by kernel_rfl) (by simp) ?_
  refine AllReadyH.cons rfl (fun K hK => ?_) AllReadyH.nil
  go_simp
  refine (HS.out _ ?_).mono ?_
  · first | exact hG | exact hG.drew
  rintro e wn ⟨rfl, hbn⟩
  (first | replace hG := hG.on hbn | replace hG := hG.drew.on hbn)
  (first | replace hB := bnext hB hbn | replace hB := bnext hB.drew hbn)
  clear hbn c0 c1 c2 c3 c4 c5
  obtain ⟨c0, c1, c2, c3, c4, c5⟩ := boxes2 hB
  go_wp2_with fail
  refine hK.out _ _ ?_ (fun hHeld => ?_)
  · (try dsimp only); go_keep
  clear hK K
  (try simp only [Act.put, List.setIfInBounds_toArray, List.set_cons_zero, List.set_cons_succ])
  refine wpAnyH_ready (rs := [3]) (by kernel_rfl) (by simp) ?_
  refine AllReadyH.cons rfl (fun K hK => ?_) AllReadyH.nil
  go_simp
  refine (HS'.out _ ?_).mono ?_
  · first | exact hG | exact hG.drew
  rintro e wn ⟨rfl, hbn⟩
  (first | replace hG := hG.on hbn | replace hG := hG.drew.on hbn)
  (first | replace hB := bnext hB hbn | replace hB := bnext hB.drew hbn)
  clear hbn c0 c1 c2 c3 c4 c5
  obtain ⟨c0, c1, c2, c3, c4, c5⟩ := boxes2 hB
  go_wp2_with fail
  refine hK.out _ _ ?_ (fun hHeld => ?_)
  · (try dsimp only); go_keep
  clear hK K
  (try simp only [Act.put, List.setIfInBounds_toArray, List.set_cons_zero, List.set_cons_succ])
  refine wpAnyH_ready (rs := [4]) (by kernel_rfl) (by simp) ?_
  refine AllReadyH.cons rfl (fun K hK => ?_) AllReadyH.nil
  go_simp
  refine (cmp_calls _ _ _).mono ?_
  rintro e wq ⟨rfl, hwq⟩
  obtain rfl := hwq.symm
  clear hwq
  go_wp2_with fail
  refine hK.out _ _ ?_ (fun hHeld => ?_)
  · (try dsimp only); go_keep
  clear hK K
  (try simp only [Act.put, List.setIfInBounds_toArray, List.set_cons_zero, List.set_cons_succ])
  refine wpAnyH_take (i := 5) (oi := ⟨some 4, _, _, _, _, _⟩) (v := ?_) rfl (by kernel_rfl) (by kernel_rfl) (by kernel_rfl) (fun _ _ _ h => h) (Or.inl ⟨by rfl, ?_⟩) (by assumption) ?_
  rotate_left
  · (intro ww hSw; (try dsimp only at hSw); go_simp); (try with_reducible rfl)
  (try simp only [Act.put])
  refine wpAnyH_take (i := 6) (oi := ⟨some 5, _, _, _, _, _⟩) (v := ?_) rfl (by kernel_rfl) (by kernel_rfl) (by kernel_rfl) (fun _ _ _ h => h) (Or.inl ⟨by rfl, ?_⟩) (by assumption) ?_
  rotate_left
  · (intro ww hSw; (try dsimp only at hSw); go_simp); (try with_reducible rfl)
  (try simp only [Act.put])
  refine wpAnyH_done (by kernel_rfl) ?_ _
  go_wp2
  go_ret2
  exact ⟨rfl, boxed2_below hB⟩

set_option maxHeartbeats 2000000 in
theorem rCompare_calls (v : Int) (s : Nat) (d : Bool) (v' : Int) (s' : Nat) (d' : Bool) (w : World) (hs : s ≤ 4) (h1 : -999999999 ≤ v) (h2 : v ≤ 999999999) (hs' : s' ≤ 4) (h1' : -999999999 ≤ v') (h2' : v' ≤ 999999999) :
    Calls Tryz.prog 56 #[.agg #[.int .i64 v, .int .i64 s, .bool d], .agg #[.int .i64 v', .int .i64 s', .bool d']] w fun e w' => e = .returned (.int .i64 (cmpI (amt v s) (amt v' s'))) ∧ Below w.heap.size w w' := by
  have hb := amt_bound v s h1 h2 hs
  have hb' := amt_bound v' s' h1' h2' hs'
  have hsp : ∀ W, Calls Tryz.prog 84 #[.agg #[.int .i64 v, .int .i64 s, .bool d]] W fun e w' => e = .returned (.int .i64 (amt v s)) ∧ Below W.heap.size W w' := fun W => rAmount_calls v s d W hs h1 h2
  have hsp' : ∀ W, Calls Tryz.prog 84 #[.agg #[.int .i64 v', .int .i64 s', .bool d']] W fun e w' => e = .returned (.int .i64 (amt v' s')) ∧ Below W.heap.size W w' := fun W => rAmount_calls v' s' d' W hs' h1' h2'
  have HS := Lib.hid hsp
  have HS' := Lib.hid hsp'
  clear hsp hsp'
  generalize amt v s = A at hb HS ⊢
  generalize amt v' s' = B at hb' HS' ⊢
  have hB : Below (boxed2 w 48 (.int .i64 v) (.int .i64 s) (.bool d) (.int .i64 v') (.int .i64 s') (.bool d')).heap.size (boxed2 w 48 (.int .i64 v) (.int .i64 s) (.bool d) (.int .i64 v') (.int .i64 s') (.bool d')) (boxed2 w 48 (.int .i64 v) (.int .i64 s) (.bool d) (.int .i64 v') (.int .i64 s') (.bool d')) := Below.refl _ _
  obtain ⟨c0, c1, c2, c3, c4, c5⟩ := boxes2 hB
  rcases Int.lt_trichotomy A B with h | h | h
  · have H := Lib.hid (cmpI_lt h)
    go_enter Tryz.func56, Tryz.ntmps56
    go_wp2_with fail
    change Code.wp _ _ _ _ (boxed2 _ _ _ _ _ _ _ _)
    refine wp_region_held_drew (S := (fun W => W.cell? ⟨w.heap.size, 0, none⟩ = some (.int .i64 v) ∧ W.cell? ⟨w.heap.size, 1, none⟩ = some (.int .i64 s) ∧ W.cell? ⟨w.heap.size, 2, none⟩ = some (.bool d) ∧ W.cell? ⟨w.heap.size + 1, 0, none⟩ = some (.int .i64 v') ∧ W.cell? ⟨w.heap.size + 1, 1, none⟩ = some (.int .i64 s') ∧ W.cell? ⟨w.heap.size + 1, 2, none⟩ = some (.bool d'))) (by kernel_rfl) ?_ (fun hHeld => ?_)
    · (try dsimp only); go_keep
    refine wpAnyH_take (i := 0) (v := ?_) rfl (by kernel_rfl) (by kernel_rfl) (by kernel_rfl) (fun _ _ _ h => h) (Or.inl ⟨by rfl, ?_⟩) (by assumption) ?_
    rotate_left
    · (intro ww hSw; (try dsimp only at hSw); go_simp); (try with_reducible rfl)
    (try simp only [Act.put])
    refine wpAnyH_take (i := 2) (v := ?_) rfl (by kernel_rfl) (by kernel_rfl) (by kernel_rfl) (fun _ _ _ h => h) (Or.inl ⟨by rfl, ?_⟩) (by assumption) ?_
    rotate_left
    · (intro ww hSw; (try dsimp only at hSw); go_simp); (try with_reducible rfl)
    (try simp only [Act.put])
    refine wpAnyH_ready (rs := [1]) (by kernel_rfl) (by simp) ?_
    refine AllReadyH.cons rfl (fun K hK => ?_) AllReadyH.nil
    go_simp
    refine (HS.out _).mono ?_
    rintro e wn ⟨rfl, hbn⟩
    (first | replace hB := bnext hB hbn | replace hB := bnext hB.drew hbn)
    clear hbn c0 c1 c2 c3 c4 c5
    obtain ⟨c0, c1, c2, c3, c4, c5⟩ := boxes2 hB
    go_wp2_with fail
    refine hK.out _ _ ?_ (fun hHeld => ?_)
    · (try dsimp only); go_keep
    clear hK K
    (try simp only [Act.put, List.setIfInBounds_toArray, List.set_cons_zero, List.set_cons_succ])
    refine wpAnyH_ready (rs := [3]) (by kernel_rfl) (by simp) ?_
    refine AllReadyH.cons rfl (fun K hK => ?_) AllReadyH.nil
    go_simp
    refine (HS'.out _).mono ?_
    rintro e wn ⟨rfl, hbn⟩
    (first | replace hB := bnext hB hbn | replace hB := bnext hB.drew hbn)
    clear hbn c0 c1 c2 c3 c4 c5
    obtain ⟨c0, c1, c2, c3, c4, c5⟩ := boxes2 hB
    go_wp2_with fail
    refine hK.out _ _ ?_ (fun hHeld => ?_)
    · (try dsimp only); go_keep
    clear hK K
    (try simp only [Act.put, List.setIfInBounds_toArray, List.set_cons_zero, List.set_cons_succ])
    refine wpAnyH_take (i := 4) (oi := ⟨some 9, _, _, _, _, _⟩) (v := ?_) rfl (by kernel_rfl) (by kernel_rfl) (by kernel_rfl) (fun _ _ _ h => h) (Or.inl ⟨by rfl, ?_⟩) (by assumption) ?_
    rotate_left
    · (intro ww hSw; (try dsimp only at hSw); go_simp); (try with_reducible rfl)
    (try simp only [Act.put])
    refine wpAnyH_done (by kernel_rfl) ?_ _
    go_wp2
    go_ret
    exact ⟨ret_int H.out.symm, boxed2_below hB⟩
  · have H := Lib.hid (cmpI_eq (show ¬ A < B by omega) (show ¬ B < A by omega))
    have k1 : ¬ A < B := by omega
    have k2 : ¬ B < A := by omega
    clear h
    go_enter Tryz.func56, Tryz.ntmps56
    go_wp2_with fail
    change Code.wp _ _ _ _ (boxed2 _ _ _ _ _ _ _ _)
    refine wp_region_held_drew (S := (fun W => W.cell? ⟨w.heap.size, 0, none⟩ = some (.int .i64 v) ∧ W.cell? ⟨w.heap.size, 1, none⟩ = some (.int .i64 s) ∧ W.cell? ⟨w.heap.size, 2, none⟩ = some (.bool d) ∧ W.cell? ⟨w.heap.size + 1, 0, none⟩ = some (.int .i64 v') ∧ W.cell? ⟨w.heap.size + 1, 1, none⟩ = some (.int .i64 s') ∧ W.cell? ⟨w.heap.size + 1, 2, none⟩ = some (.bool d'))) (by kernel_rfl) ?_ (fun hHeld => ?_)
    · (try dsimp only); go_keep
    refine wpAnyH_take (i := 0) (v := ?_) rfl (by kernel_rfl) (by kernel_rfl) (by kernel_rfl) (fun _ _ _ h => h) (Or.inl ⟨by rfl, ?_⟩) (by assumption) ?_
    rotate_left
    · (intro ww hSw; (try dsimp only at hSw); go_simp); (try with_reducible rfl)
    (try simp only [Act.put])
    refine wpAnyH_take (i := 2) (v := ?_) rfl (by kernel_rfl) (by kernel_rfl) (by kernel_rfl) (fun _ _ _ h => h) (Or.inl ⟨by rfl, ?_⟩) (by assumption) ?_
    rotate_left
    · (intro ww hSw; (try dsimp only at hSw); go_simp); (try with_reducible rfl)
    (try simp only [Act.put])
    refine wpAnyH_ready (rs := [1]) (by kernel_rfl) (by simp) ?_
    refine AllReadyH.cons rfl (fun K hK => ?_) AllReadyH.nil
    go_simp
    refine (HS.out _).mono ?_
    rintro e wn ⟨rfl, hbn⟩
    (first | replace hB := bnext hB hbn | replace hB := bnext hB.drew hbn)
    clear hbn c0 c1 c2 c3 c4 c5
    obtain ⟨c0, c1, c2, c3, c4, c5⟩ := boxes2 hB
    go_wp2_with fail
    refine hK.out _ _ ?_ (fun hHeld => ?_)
    · (try dsimp only); go_keep
    clear hK K
    (try simp only [Act.put, List.setIfInBounds_toArray, List.set_cons_zero, List.set_cons_succ])
    refine wpAnyH_ready (rs := [3]) (by kernel_rfl) (by simp) ?_
    refine AllReadyH.cons rfl (fun K hK => ?_) AllReadyH.nil
    go_simp
    refine (HS'.out _).mono ?_
    rintro e wn ⟨rfl, hbn⟩
    (first | replace hB := bnext hB hbn | replace hB := bnext hB.drew hbn)
    clear hbn c0 c1 c2 c3 c4 c5
    obtain ⟨c0, c1, c2, c3, c4, c5⟩ := boxes2 hB
    go_wp2_with fail
    refine hK.out _ _ ?_ (fun hHeld => ?_)
    · (try dsimp only); go_keep
    clear hK K
    (try simp only [Act.put, List.setIfInBounds_toArray, List.set_cons_zero, List.set_cons_succ])
    refine wpAnyH_take (i := 4) (oi := ⟨some 9, _, _, _, _, _⟩) (v := ?_) rfl (by kernel_rfl) (by kernel_rfl) (by kernel_rfl) (fun _ _ _ h => h) (Or.inl ⟨by rfl, ?_⟩) (by assumption) ?_
    rotate_left
    · (intro ww hSw; (try dsimp only at hSw); go_simp); (try with_reducible rfl)
    (try simp only [Act.put])
    refine wpAnyH_done (by kernel_rfl) ?_ _
    go_wp2_with fail
    refine wp_region_held_drew (S := (fun W => W.cell? ⟨w.heap.size, 0, none⟩ = some (.int .i64 v) ∧ W.cell? ⟨w.heap.size, 1, none⟩ = some (.int .i64 s) ∧ W.cell? ⟨w.heap.size, 2, none⟩ = some (.bool d) ∧ W.cell? ⟨w.heap.size + 1, 0, none⟩ = some (.int .i64 v') ∧ W.cell? ⟨w.heap.size + 1, 1, none⟩ = some (.int .i64 s') ∧ W.cell? ⟨w.heap.size + 1, 2, none⟩ = some (.bool d'))) (by kernel_rfl) ?_ (fun hHeld => ?_)
    · (try dsimp only); go_keep
    refine wpAnyH_take (i := 0) (v := ?_) rfl (by kernel_rfl) (by kernel_rfl) (by kernel_rfl) (fun _ _ _ h => h) (Or.inl ⟨by rfl, ?_⟩) (by assumption) ?_
    rotate_left
    · (intro ww hSw; (try dsimp only at hSw); go_simp); (try with_reducible rfl)
    (try simp only [Act.put])
    refine wpAnyH_take (i := 2) (v := ?_) rfl (by kernel_rfl) (by kernel_rfl) (by kernel_rfl) (fun _ _ _ h => h) (Or.inl ⟨by rfl, ?_⟩) (by assumption) ?_
    rotate_left
    · (intro ww hSw; (try dsimp only at hSw); go_simp); (try with_reducible rfl)
    (try simp only [Act.put])
    refine wpAnyH_ready (rs := [1]) (by kernel_rfl) (by simp) ?_
    refine AllReadyH.cons rfl (fun K hK => ?_) AllReadyH.nil
    go_simp
    refine (HS.out _).mono ?_
    rintro e wn ⟨rfl, hbn⟩
    (first | replace hB := bnext hB hbn | replace hB := bnext hB.drew hbn)
    clear hbn c0 c1 c2 c3 c4 c5
    obtain ⟨c0, c1, c2, c3, c4, c5⟩ := boxes2 hB
    go_wp2_with fail
    refine hK.out _ _ ?_ (fun hHeld => ?_)
    · (try dsimp only); go_keep
    clear hK K
    (try simp only [Act.put, List.setIfInBounds_toArray, List.set_cons_zero, List.set_cons_succ])
    refine wpAnyH_ready (rs := [3]) (by kernel_rfl) (by simp) ?_
    refine AllReadyH.cons rfl (fun K hK => ?_) AllReadyH.nil
    go_simp
    refine (HS'.out _).mono ?_
    rintro e wn ⟨rfl, hbn⟩
    (first | replace hB := bnext hB hbn | replace hB := bnext hB.drew hbn)
    clear hbn c0 c1 c2 c3 c4 c5
    obtain ⟨c0, c1, c2, c3, c4, c5⟩ := boxes2 hB
    go_wp2_with fail
    refine hK.out _ _ ?_ (fun hHeld => ?_)
    · (try dsimp only); go_keep
    clear hK K
    (try simp only [Act.put, List.setIfInBounds_toArray, List.set_cons_zero, List.set_cons_succ])
    refine wpAnyH_take (i := 4) (oi := ⟨some 14, _, _, _, _, _⟩) (v := ?_) rfl (by kernel_rfl) (by kernel_rfl) (by kernel_rfl) (fun _ _ _ h => h) (Or.inl ⟨by rfl, ?_⟩) (by assumption) ?_
    rotate_left
    · (intro ww hSw; (try dsimp only at hSw); go_simp); (try with_reducible rfl)
    (try simp only [Act.put])
    refine wpAnyH_done (by kernel_rfl) ?_ _
    go_wp2
    go_ret
    exact ⟨ret_int H.out.symm, boxed2_below hB⟩
  · have H := Lib.hid (cmpI_gt h)
    have k1 : ¬ A < B := by omega
    go_enter Tryz.func56, Tryz.ntmps56
    go_wp2_with fail
    change Code.wp _ _ _ _ (boxed2 _ _ _ _ _ _ _ _)
    refine wp_region_held_drew (S := (fun W => W.cell? ⟨w.heap.size, 0, none⟩ = some (.int .i64 v) ∧ W.cell? ⟨w.heap.size, 1, none⟩ = some (.int .i64 s) ∧ W.cell? ⟨w.heap.size, 2, none⟩ = some (.bool d) ∧ W.cell? ⟨w.heap.size + 1, 0, none⟩ = some (.int .i64 v') ∧ W.cell? ⟨w.heap.size + 1, 1, none⟩ = some (.int .i64 s') ∧ W.cell? ⟨w.heap.size + 1, 2, none⟩ = some (.bool d'))) (by kernel_rfl) ?_ (fun hHeld => ?_)
    · (try dsimp only); go_keep
    refine wpAnyH_take (i := 0) (v := ?_) rfl (by kernel_rfl) (by kernel_rfl) (by kernel_rfl) (fun _ _ _ h => h) (Or.inl ⟨by rfl, ?_⟩) (by assumption) ?_
    rotate_left
    · (intro ww hSw; (try dsimp only at hSw); go_simp); (try with_reducible rfl)
    (try simp only [Act.put])
    refine wpAnyH_take (i := 2) (v := ?_) rfl (by kernel_rfl) (by kernel_rfl) (by kernel_rfl) (fun _ _ _ h => h) (Or.inl ⟨by rfl, ?_⟩) (by assumption) ?_
    rotate_left
    · (intro ww hSw; (try dsimp only at hSw); go_simp); (try with_reducible rfl)
    (try simp only [Act.put])
    refine wpAnyH_ready (rs := [1]) (by kernel_rfl) (by simp) ?_
    refine AllReadyH.cons rfl (fun K hK => ?_) AllReadyH.nil
    go_simp
    refine (HS.out _).mono ?_
    rintro e wn ⟨rfl, hbn⟩
    (first | replace hB := bnext hB hbn | replace hB := bnext hB.drew hbn)
    clear hbn c0 c1 c2 c3 c4 c5
    obtain ⟨c0, c1, c2, c3, c4, c5⟩ := boxes2 hB
    go_wp2_with fail
    refine hK.out _ _ ?_ (fun hHeld => ?_)
    · (try dsimp only); go_keep
    clear hK K
    (try simp only [Act.put, List.setIfInBounds_toArray, List.set_cons_zero, List.set_cons_succ])
    refine wpAnyH_ready (rs := [3]) (by kernel_rfl) (by simp) ?_
    refine AllReadyH.cons rfl (fun K hK => ?_) AllReadyH.nil
    go_simp
    refine (HS'.out _).mono ?_
    rintro e wn ⟨rfl, hbn⟩
    (first | replace hB := bnext hB hbn | replace hB := bnext hB.drew hbn)
    clear hbn c0 c1 c2 c3 c4 c5
    obtain ⟨c0, c1, c2, c3, c4, c5⟩ := boxes2 hB
    go_wp2_with fail
    refine hK.out _ _ ?_ (fun hHeld => ?_)
    · (try dsimp only); go_keep
    clear hK K
    (try simp only [Act.put, List.setIfInBounds_toArray, List.set_cons_zero, List.set_cons_succ])
    refine wpAnyH_take (i := 4) (oi := ⟨some 9, _, _, _, _, _⟩) (v := ?_) rfl (by kernel_rfl) (by kernel_rfl) (by kernel_rfl) (fun _ _ _ h => h) (Or.inl ⟨by rfl, ?_⟩) (by assumption) ?_
    rotate_left
    · (intro ww hSw; (try dsimp only at hSw); go_simp); (try with_reducible rfl)
    (try simp only [Act.put])
    refine wpAnyH_done (by kernel_rfl) ?_ _
    go_wp2_with fail
    refine wp_region_held_drew (S := (fun W => W.cell? ⟨w.heap.size, 0, none⟩ = some (.int .i64 v) ∧ W.cell? ⟨w.heap.size, 1, none⟩ = some (.int .i64 s) ∧ W.cell? ⟨w.heap.size, 2, none⟩ = some (.bool d) ∧ W.cell? ⟨w.heap.size + 1, 0, none⟩ = some (.int .i64 v') ∧ W.cell? ⟨w.heap.size + 1, 1, none⟩ = some (.int .i64 s') ∧ W.cell? ⟨w.heap.size + 1, 2, none⟩ = some (.bool d'))) (by kernel_rfl) ?_ (fun hHeld => ?_)
    · (try dsimp only); go_keep
    refine wpAnyH_take (i := 0) (v := ?_) rfl (by kernel_rfl) (by kernel_rfl) (by kernel_rfl) (fun _ _ _ h => h) (Or.inl ⟨by rfl, ?_⟩) (by assumption) ?_
    rotate_left
    · (intro ww hSw; (try dsimp only at hSw); go_simp); (try with_reducible rfl)
    (try simp only [Act.put])
    refine wpAnyH_take (i := 2) (v := ?_) rfl (by kernel_rfl) (by kernel_rfl) (by kernel_rfl) (fun _ _ _ h => h) (Or.inl ⟨by rfl, ?_⟩) (by assumption) ?_
    rotate_left
    · (intro ww hSw; (try dsimp only at hSw); go_simp); (try with_reducible rfl)
    (try simp only [Act.put])
    refine wpAnyH_ready (rs := [1]) (by kernel_rfl) (by simp) ?_
    refine AllReadyH.cons rfl (fun K hK => ?_) AllReadyH.nil
    go_simp
    refine (HS.out _).mono ?_
    rintro e wn ⟨rfl, hbn⟩
    (first | replace hB := bnext hB hbn | replace hB := bnext hB.drew hbn)
    clear hbn c0 c1 c2 c3 c4 c5
    obtain ⟨c0, c1, c2, c3, c4, c5⟩ := boxes2 hB
    go_wp2_with fail
    refine hK.out _ _ ?_ (fun hHeld => ?_)
    · (try dsimp only); go_keep
    clear hK K
    (try simp only [Act.put, List.setIfInBounds_toArray, List.set_cons_zero, List.set_cons_succ])
    refine wpAnyH_ready (rs := [3]) (by kernel_rfl) (by simp) ?_
    refine AllReadyH.cons rfl (fun K hK => ?_) AllReadyH.nil
    go_simp
    refine (HS'.out _).mono ?_
    rintro e wn ⟨rfl, hbn⟩
    (first | replace hB := bnext hB hbn | replace hB := bnext hB.drew hbn)
    clear hbn c0 c1 c2 c3 c4 c5
    obtain ⟨c0, c1, c2, c3, c4, c5⟩ := boxes2 hB
    go_wp2_with fail
    refine hK.out _ _ ?_ (fun hHeld => ?_)
    · (try dsimp only); go_keep
    clear hK K
    (try simp only [Act.put, List.setIfInBounds_toArray, List.set_cons_zero, List.set_cons_succ])
    refine wpAnyH_take (i := 4) (oi := ⟨some 14, _, _, _, _, _⟩) (v := ?_) rfl (by kernel_rfl) (by kernel_rfl) (by kernel_rfl) (fun _ _ _ h => h) (Or.inl ⟨by rfl, ?_⟩) (by assumption) ?_
    rotate_left
    · (intro ww hSw; (try dsimp only at hSw); go_simp); (try with_reducible rfl)
    (try simp only [Act.put])
    refine wpAnyH_done (by kernel_rfl) ?_ _
    go_wp2
    go_ret
    exact ⟨ret_int H.out.symm, boxed2_below hB⟩

end Go.Proofs.YtdnfaoanaehjhaaGreatDoor.Nm

/- What was taken off and is added again is there: numbers cut down keep their amount (no program). -/
namespace Go.Proofs.YtdnfaoanaehjhaaGreatDoor.Nm

theorem decOf_comm (d d' : Bool) : decOf d d' = decOf d' d := Bool.or_comm d d'

theorem tdiv_mul_tmod (x : Int) (h : x.tmod 10 = 0) : x.tdiv 10 * 10 = x := by
  have := Int.mul_tdiv_add_tmod x 10
  omega
/- what is left when noughts are left out has the same amount -/
theorem strip_amt (k : Nat) : ∀ x : Int, k ≤ 4 → (strip k x).1 * ten (4 - (strip k x).2) = x * ten (4 - k) := by
  induction k with
  | zero => intro x _; rfl
  | succ k ih =>
    intro x hk
    by_cases h : x.tmod 10 = 0
    · rw [strip_yes k x h, ih (x.tdiv 10) (by omega)]
      have e := tdiv_mul_tmod x h
      have e4 : ten (4 - k) = 10 * ten (4 - (k + 1)) := by
        rw [show 4 - k = (4 - (k + 1)) + 1 by omega]; rfl
      rw [e4, ← Int.mul_assoc, e]
    · rw [strip_no k x h]
/- where it stops -/
theorem strip_end (k : Nat) : ∀ x : Int, (strip k x).2 = 0 ∨ (strip k x).1.tmod 10 ≠ 0 := by
  induction k with
  | zero => intro x; left; rfl
  | succ k ih =>
    intro x
    by_cases h : x.tmod 10 = 0
    · rw [strip_yes k x h]; exact ih _
    · rw [strip_no k x h]; right; exact h
/- noughts that were laid behind are left out again -/
theorem strip_back (j : Nat) : ∀ (k : Nat) (x : Int), (k = 0 ∨ x.tmod 10 ≠ 0) → strip (k + j) (x * ten j) = (x, k) := by
  induction j with
  | zero =>
    intro k x h
    rw [show ten 0 = 1 from rfl, Int.mul_one]
    rcases h with rfl | h
    · rfl
    · cases k with
      | zero => rfl
      | succ k => exact strip_no k x h
  | succ j ih =>
    intro k x h
    have e : x * ten (j + 1) = x * ten j * 10 := by show x * (10 * ten j) = _; rw [Int.mul_comm 10, Int.mul_assoc]
    rw [e, ← Nat.add_assoc, strip_yes _ _ (Int.mul_tmod_left _ _), Int.mul_tdiv_cancel _ (by omega)]
    exact ih k x h

theorem cut4 (x : Int) : cutZ x 4 = strip 4 x := by unfold cutZ; simp [ten]
theorem cut_amt (v : Int) (s : Nat) (hs : s ≤ 4) (h : s = 0 ∨ v.tmod 10 ≠ 0) : cutZ (amt v s) 4 = (v, s) := by
  rw [cut4]
  unfold amt
  have := strip_back (4 - s) s v h
  rw [show s + (4 - s) = 4 by omega] at this
  exact this
theorem cut_whole (x : Int) : ∀ y : Int, x = y * 10000 → (cutZ x 4).2 = 0 := by
  intro y h
  rw [cut4, h]
  have := strip_back 4 0 y (.inl rfl)
  rw [show ten 4 = 10000 from rfl] at this
  rw [show (4 : Nat) = 0 + 4 from rfl, this]

/- a difference is right, and its amount is the difference -/
theorem made_diff {v : Int} {s : Nat} {d : Bool} {v' : Int} {s' : Nat} {d' : Bool} (hr : rightZ v s d = true) (hr' : rightZ v' s' d' = true) (h : (madeL (amt v s - amt v' s') 4 (decOf d d')).2 = true) :
    ∃ (y : Int) (j : Nat), madeL (amt v s - amt v' s') 4 (decOf d d') = (⟨y, j, decOf d d'⟩, true) ∧ rightZ y j (decOf d d') = true ∧ j ≤ 4 ∧ -999999999 ≤ y ∧ y ≤ 999999999 ∧ amt y j = amt v s - amt v' s' := by
  obtain ⟨⟨p1, p2⟩, ⟨p3, p4⟩, p5⟩ := (rightZ_iff _ _ _).1 hr
  obtain ⟨⟨q1, q2⟩, ⟨q3, q4⟩, q5⟩ := (rightZ_iff _ _ _).1 hr'
  obtain ⟨X, hX⟩ : ∃ X, amt v s - amt v' s' = X := ⟨_, rfl⟩
  rw [hX] at h ⊢
  have hb : boundZ (cutZ X 4).1 = true := by
    cases e : boundZ (cutZ X 4).1
    · rw [madeL_no _ _ _ e] at h; cases h
    · rfl
  have hb' : -999999999 ≤ (cutZ X 4).1 ∧ (cutZ X 4).1 ≤ 999999999 := by simpa [boundZ] using hb
  have hj := cut_le X 4
  refine ⟨(cutZ X 4).1, (cutZ X 4).2, madeL_yes _ _ _ hb, ?_, hj, hb'.1, hb'.2, ?_⟩
  · rw [rightZ_iff]
    refine ⟨hb', ⟨by omega, by omega⟩, ?_⟩
    have he := strip_end 4 X
    rw [← cut4] at he
    rcases he with he | he
    · left; omega
    · cases hd : decOf d d' with
      | true => exact .inr ⟨rfl, he⟩
      | false =>
        left
        have hd0 : d = false ∧ d' = false := by cases d <;> cases d' <;> simp [decOf] at hd <;> simp
        have s0 : s = 0 := by
          rcases p5 with e | e
          · omega
          · rw [hd0.1] at e; cases e.1
        have s0' : s' = 0 := by
          rcases q5 with e | e
          · omega
          · rw [hd0.2] at e; cases e.1
        have e : X = (v - v') * 10000 := by
          rw [← hX, s0, s0']
          show v * 10000 - v' * 10000 = _
          omega
        have := cut_whole X _ e
        omega
  · have := strip_amt 4 X (by omega)
    rw [← cut4] at this
    unfold amt
    rw [this, show ten (4 - 4) = 1 from rfl, Int.mul_one]

/- what was taken off and is added again -/
theorem made_back {v : Int} {s : Nat} {d : Bool} {y : Int} {j : Nat} {v' : Int} {s' : Nat} {d' : Bool} (hr : rightZ v s d = true) (h : amt y j = amt v s - amt v' s') :
    madeL (amt y j + amt v' s') 4 (decOf (decOf d d') d') = (⟨v, s, decOf d d'⟩, true) := by
  obtain ⟨⟨p1, p2⟩, ⟨p3, p4⟩, p5⟩ := (rightZ_iff _ _ _).1 hr
  rw [show amt y j + amt v' s' = amt v s by omega]
  have hc : cutZ (amt v s) 4 = (v, s) := cut_amt v s (by omega) (p5.imp (fun h => by omega) fun h => h.2)
  have hb : boundZ (cutZ (amt v s) 4).1 = true := by rw [hc]; simp [boundZ]; omega
  rw [madeL_yes _ _ _ hb, hc]
  have e : decOf (decOf d d') d' = decOf d d' := by cases d <;> cases d' <;> rfl
  rw [e]

end Go.Proofs.YtdnfaoanaehjhaaGreatDoor.Nm
