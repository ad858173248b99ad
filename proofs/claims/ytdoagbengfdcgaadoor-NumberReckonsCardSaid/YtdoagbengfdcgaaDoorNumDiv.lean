/- Quotients of right numbers: package number's Div. -/
import Derived.Test.YtdoagbengfdcgaaDoorNumBox
namespace Go.Proofs.YtdoagbengfdcgaaDoor
open Go.RowKit

theorem tdiv_le_abs (v c : Int) (h : c ≠ 0) (b : Int) (h1 : -b ≤ v) (h2 : v ≤ b) : -b ≤ v.tdiv c ∧ v.tdiv c ≤ b := by
  rcases Int.lt_or_gt_of_ne h with hc | hc
  · have := tdiv_le v (-c) (by omega) b h1 h2
    rw [Int.tdiv_neg] at this; omega
  · exact tdiv_le v c (by omega) b h1 h2
theorem ten_le8 (k : Nat) (h : k ≤ 8) : ten k ≤ 100000000 := by
  match k, h with
  | 0, _ => decide
  | 1, _ => decide
  | 2, _ => decide
  | 3, _ => decide
  | 4, _ => decide
  | 5, _ => decide
  | 6, _ => decide
  | 7, _ => decide
  | 8, _ => decide
theorem amt_ne (v : Int) (s : Nat) (h : v ≠ 0) : amt v s ≠ 0 := by
  have := ten_pos (4 - s)
  exact Int.mul_ne_zero h (by omega)

set_option maxHeartbeats 2000000 in
theorem Div_right (v : Int) (s : Nat) (d : Bool) (v' : Int) (s' : Nat) (d' : Bool) (w : World) (hg : Good w) (hr : rightZ v s d = true) (hr' : rightZ v' s' d' = true) (hs : s ≤ 4) (h1 : -999999999 ≤ v) (h2 : v ≤ 999999999) (hs' : s' ≤ 4) (h1' : -999999999 ≤ v') (h2' : v' ≤ 999999999) (hv : v' ≠ 0) :
    Calls Tryd.prog 36 #[.agg #[.int .i64 v, .int .i64 s, .bool d], .agg #[.int .i64 v', .int .i64 s', .bool d']] w fun e w' => e = .returned (reckL (madeL ((v * ten (8 - s)).tdiv (amt v' s')) 4 true)) ∧ Below w.heap.size w w' := by
  have HR := Lib.hid hr
  have HR' := Lib.hid hr'
  have hb' := amt_bound v' s' h1' h2' hs'
  have hnz := amt_ne v' s' hv
  have hsp' : ∀ W, Good W → Calls Tryd.prog 39 #[.agg #[.int .i64 v', .int .i64 s', .bool d']] W fun e w' => e = .returned (.int .i64 (amt v' s')) ∧ Below W.heap.size W w' := fun W hW => spread_calls v' s' d' W hW hs' h1' h2'
  have hvt := mul_bound v (ten (8 - s)) 999999999 100000000 h1 h2 (by have := ten_pos (8 - s); omega) (ten_le8 _ (by omega)) (by omega)
  have hq := tdiv_le_abs (v * ten (8 - s)) (amt v' s') hnz 99999999900000000 (by omega) (by omega)
  have hre : ∀ W, Good W → Calls Tryd.prog 40 #[.int .i64 ((v * ten (8 - s)).tdiv (amt v' s')), .int .i64 4, .bool true] W fun e w' => e = .returned (reckL (madeL ((v * ten (8 - s)).tdiv (amt v' s')) 4 true)) ∧ Below W.heap.size W w' := fun W hW => reckoned_calls ((v * ten (8 - s)).tdiv (amt v' s')) 4 true W hW (by omega) (by omega) (by omega)
  have hpc : ∀ W, Good W → W.cell? ⟨0, 8 - s, none⟩ = some (.int .i64 (ten (8 - s))) := fun W hW => by rw [← pow_ten _ (by omega)]; exact hW.cell (8 - s) (by omega)
  have hzv : (v' == 0) = false := beq_eq_false_iff_ne.2 hv
  have HS' := Lib.hid hsp'
  have HM := Lib.hid hre
  have HG := Lib.hid hg
  have HP := Lib.hid hpc
  clear hr hr' hsp' hre hg hpc hv
  generalize ten (8 - s) = T at HM HP hvt hq ⊢
  generalize amt v' s' = B at hb' HS' HM hq hnz ⊢
  have hw0 : IntKind.i64.wrap (v * T) = v * T := IntWalk.i64_in _ (by omega)
  have hw1 : IntKind.i64.wrap ((v * T).tdiv B) = (v * T).tdiv B := IntWalk.i64_in _ (by omega)
  have hw2 : IntKind.i64.wrap (8 - (s : Int)) = 8 - (s : Int) := IntWalk.i64_in _ (by omega)
  have hw3 : (8 - (s : Int)).toNat = 8 - s := by omega
  have hw4 : 0 ≤ 8 - (s : Int) := by omega
  have hw6 : (s : Int) ≤ 8 := by omega
  have hw7 : 8 - (s : Int) < 9 := by omega
  have hw5 : (B == 0) = false := beq_eq_false_iff_ne.2 hnz
  generalize hQ : (v * T).tdiv B = Q at HM hq hw1
  generalize madeL Q 4 true = R at HM ⊢
  obtain ⟨⟨Rv, Rs, Rd⟩, Rb⟩ := R
  have n1 : ¬ w.heap.size = w.heap.size + 1 + 1 := by omega
  have n2 : ¬ w.heap.size + 1 + 1 = w.heap.size := by omega
  go_enter Tryd.func36, Tryd.ntmps36
  go_wp2_with fail
  refine (right_calls _ _ _ _).mono ?_
  rintro e w1 ⟨rfl, hb1⟩
  rw [HR.out]
  obtain ⟨hc, hf⟩ := bcell hb1
  have hz : w.heap.size + 2 < w1.heap.size := by have := hb1.size; simp at this; omega
  go_wp2_with fail
  refine (right_calls _ _ _ _).mono ?_
  rintro e w2 ⟨rfl, hb2'⟩
  rw [HR'.out]
  have hb2 := bnext hb1 hb2'
  clear hc hf hz
  obtain ⟨hc, hf⟩ := bcell hb2
  have hz : w.heap.size + 2 < w2.heap.size := by have := hb2.size; simp at this; omega
  go_wp2_with fail
  have hG : Good w2 := ((((HG.out.alloc _).alloc _).alloc _)).on hb2
  have hB : Below (boxed w 23 (.int .i64 v) (.int .i64 s) (.bool d) (.int .i64 v') (.int .i64 s') (.bool d') (.int .i64 0) (.int .i64 0) (.bool false)).heap.size (boxed w 23 (.int .i64 v) (.int .i64 s) (.bool d) (.int .i64 v') (.int .i64 s') (.bool d') (.int .i64 0) (.int .i64 0) (.bool false)) w2 := hb2
  clear hb1 hb2 hb2' hf hz
  obtain ⟨c0, c1, c2, c3, c4, c5, ⟨c6, c7, c8⟩, c9⟩ := boxes hB
  have cp : w2.cell? ⟨0, 8 - s, none⟩ = some (.int .i64 T) := HP.out _ hG
  clear hc
  refine wp_region_held_drew (S := (fun W => W.cell? ⟨w.heap.size, 0, none⟩ = some (.int .i64 v) ∧ W.cell? ⟨w.heap.size, 1, none⟩ = some (.int .i64 s) ∧ W.cell? ⟨w.heap.size, 2, none⟩ = some (.bool d) ∧ W.cell? ⟨w.heap.size + 1, 0, none⟩ = some (.int .i64 v') ∧ W.cell? ⟨w.heap.size + 1, 1, none⟩ = some (.int .i64 s') ∧ W.cell? ⟨w.heap.size + 1, 2, none⟩ = some (.bool d') ∧ W.cell? ⟨0, 8 - s, none⟩ = some (.int .i64 T))) (by kernel_rfl) ?_ (fun hHeld => ?_)
  · (try dsimp only); go_keep
  refine wpAnyH_take (i := 0) (v := ?_) rfl (by kernel_rfl) (by kernel_rfl) (by kernel_rfl) (fun _ _ _ h => h) (Or.inl ⟨by rfl, ?_⟩) (by assumption) ?_
  rotate_left
  · (intro ww hSw; (try dsimp only at hSw); go_simp); (try with_reducible rfl)
  (try simp only [Act.put])
  refine wpAnyH_take (i := 1) (v := ?_) rfl (by kernel_rfl) (by kernel_rfl) (by kernel_rfl) (fun _ _ _ h => h) (Or.inl ⟨by rfl, ?_⟩) (by assumption) ?_
  rotate_left
  · (intro ww hSw; (try dsimp only at hSw); go_simp); (try with_reducible rfl)
  (try simp only [Act.put])
  refine wpAnyH_take (i := 2) (v := ?_) rfl (by kernel_rfl) (by kernel_rfl) (by kernel_rfl) (fun _ _ _ h => h) (Or.inl ⟨by rfl, ?_⟩) (by assumption) ?_
  rotate_left
  · (intro ww hSw; (try dsimp only at hSw); go_simp); (try with_reducible rfl)
  (try simp only [Act.put])
  refine wpAnyH_take (i := 3) (v := ?_) rfl (by kernel_rfl) (by kernel_rfl) (by kernel_rfl) (fun _ _ _ h => h) (Or.inl ⟨by rfl, ?_⟩) (by assumption) ?_
  rotate_left
  · (intro ww hSw; (try dsimp only at hSw); go_simp); (try with_reducible rfl)
  (try simp only [Act.put])
  refine wpAnyH_take (i := 4) (v := ?_) rfl (by kernel_rfl) (by kernel_rfl) (by kernel_rfl) (fun _ _ _ h => h) (Or.inl ⟨by rfl, ?_⟩) (by assumption) ?_
  rotate_left
  · (intro ww hSw; (try dsimp only at hSw); go_simp); (try with_reducible rfl)
  (try simp only [Act.put])
  refine wpAnyH_take (i := 5) (v := ?_) rfl (by kernel_rfl) (by kernel_rfl) (by kernel_rfl) (fun _ _ _ h => h) (Or.inl ⟨by rfl, ?_⟩) (by assumption) ?_
  rotate_left
  · (intro ww hSw; (try dsimp only at hSw); go_simp); (try with_reducible rfl)
  (try simp only [Act.put])
  refine wpAnyH_take (i := 6) (v := ?_) rfl (by kernel_rfl) (by kernel_rfl) (by kernel_rfl) (fun _ _ _ h => h) (Or.inl ⟨by rfl, ?_⟩) (by assumption) ?_
  rotate_left
  · (intro ww hSw; (try dsimp only at hSw); go_simp); (try with_reducible rfl)
  (try simp only [Act.put])
  refine wpAnyH_take (i := 7) (v := ?_) rfl (by kernel_rfl) (by kernel_rfl) (by kernel_rfl) (fun _ _ _ h => h) (Or.inl ⟨by rfl, ?_⟩) (by assumption) ?_
  rotate_left
  · (intro ww hSw; (try dsimp only at hSw); go_simp); (try with_reducible rfl)
  (try simp only [Act.put])
  refine wpAnyH_take (i := 8) (v := ?_) rfl (by kernel_rfl) (by kernel_rfl) (by kernel_rfl) (fun _ _ _ h => h) (Or.inl ⟨by rfl, ?_⟩) (by assumption) ?_
  rotate_left
  · (intro ww hSw; (try dsimp only at hSw); go_simp); (try with_reducible rfl)
  (try simp only [Act.put])
  refine wpAnyH_ready (rs := [9]) (by kernel_rfl) (by simp) ?_
  refine AllReadyH.cons rfl (fun K hK => ?_) AllReadyH.nil
  go_simp
  refine (HS'.out _ ?_).mono ?_
  · first | exact hG | exact hG.drew
  rintro e wn ⟨rfl, hbn⟩
  (first | replace hG := hG.on hbn | replace hG := hG.drew.on hbn)
  (first | replace hB := bnext hB hbn | replace hB := bnext hB.drew hbn)
  clear hbn c0 c1 c2 c3 c4 c5 c6 c7 c8 c9
  obtain ⟨c0, c1, c2, c3, c4, c5, ⟨c6, c7, c8⟩, c9⟩ := boxes hB
  clear cp
  have cp := HP.out _ hG
  go_wp2_with fail
  refine hK.out _ _ ?_ (fun hHeld => ?_)
  · (try dsimp only); go_keep
  clear hK K
  (try simp only [Act.put, List.setIfInBounds_toArray, List.set_cons_zero, List.set_cons_succ])
  refine wpAnyH_take (i := 10) (v := ?_) rfl (by kernel_rfl) (by kernel_rfl) (by kernel_rfl) (fun _ _ _ h => h) (Or.inl ⟨by rfl, ?_⟩) (by assumption) ?_
  rotate_left
  · (intro ww hSw; (try dsimp only at hSw); go_simp); (try with_reducible rfl)
  (try simp only [Act.put])
  refine wpAnyH_ready (rs := [11]) (by kernel_rfl) (by simp) ?_
  refine AllReadyH.cons rfl (fun K hK => ?_) AllReadyH.nil
  go_simp
  refine (HM.out _ ?_).mono ?_
  · first | exact hG | exact hG.drew
  rintro e wn ⟨rfl, hbn⟩
  (first | replace hG := hG.on hbn | replace hG := hG.drew.on hbn)
  (first | replace hB := bnext hB hbn | replace hB := bnext hB.drew hbn)
  clear hbn c0 c1 c2 c3 c4 c5 c6 c7 c8 c9
  obtain ⟨c0, c1, c2, c3, c4, c5, ⟨c6, c7, c8⟩, c9⟩ := boxes hB
  clear cp
  have cp := HP.out _ hG
  simp only [reckL, NumL.val]
  go_wp2_with fail
  refine hK.out _ _ ?_ (fun hHeld => ?_)
  · (try dsimp only); go_keep
  clear hK K
  (try simp only [Act.put, List.setIfInBounds_toArray, List.set_cons_zero, List.set_cons_succ])
  refine wpAnyH_take (i := 12) (v := ?_) rfl (by kernel_rfl) (by kernel_rfl) (by kernel_rfl) (fun _ _ _ h => h) (Or.inl ⟨by rfl, ?_⟩) (by assumption) ?_
  rotate_left
  · (intro ww hSw; (try dsimp only at hSw); go_simp); (try with_reducible rfl)
  (try simp only [Act.put])
  refine wpAnyH_take (i := 13) (v := ?_) rfl (by kernel_rfl) (by kernel_rfl) (by kernel_rfl) (fun _ _ _ h => h) (Or.inl ⟨by rfl, ?_⟩) (by assumption) ?_
  rotate_left
  · (intro ww hSw; (try dsimp only at hSw); go_simp); (try with_reducible rfl)
  (try simp only [Act.put])
  refine wpAnyH_ready (rs := [14]) (by kernel_rfl) (by simp) ?_
  refine AllReadyH.cons rfl (fun K hK => ?_) AllReadyH.nil
  go_simp
  refine hK.out _ _ ?_ (fun hHeld => ?_)
  · (try dsimp only); go_keep
  clear hK K
  (try simp only [Act.put, List.setIfInBounds_toArray, List.set_cons_zero, List.set_cons_succ])
  refine wpAnyH_take (i := 15) (oi := ⟨some 5, _, _, _, _, _⟩) (v := ?_) rfl (by kernel_rfl) (by kernel_rfl) (by kernel_rfl) (fun _ _ _ h => h) (Or.inl ⟨by rfl, ?_⟩) (by assumption) ?_
  rotate_left
  · (intro ww hSw; (try dsimp only at hSw); go_simp); (try with_reducible rfl)
  (try simp only [Act.put])
  refine wpAnyH_done (by kernel_rfl) ?_ _
  go_wp2
  refine bodyPost_ret (v := .tuple #[.agg #[.int .i64 Rv, .int .i64 Rs, .bool Rd], .int .i64 (overZ Rb)]) (by simp [results, Tryd.results36, *, go_sem]) rfl ⟨rfl, ?_⟩
  exact ((((boxed_below hB)).setCell (by simp; omega) _).setCell (by simp; omega) _).setCell (by simp; omega) _

set_option maxHeartbeats 1000000 in
theorem Div_zero (v : Int) (s : Nat) (d : Bool) (s' : Nat) (d' : Bool) (w : World) (hr : rightZ v s d = true) (hr' : rightZ 0 s' d' = true) :
    Calls Tryd.prog 36 #[.agg #[.int .i64 v, .int .i64 s, .bool d], .agg #[.int .i64 0, .int .i64 s', .bool d']] w fun e w' => e = .returned (reckL (noNum, false)) ∧ Below w.heap.size w w' := by
  have HR := Lib.hid hr
  have HR' := Lib.hid hr'
  clear hr hr'
  go_enter Tryd.func36, Tryd.ntmps36
  go_wp2_with fail
  refine (right_calls _ _ _ _).mono ?_
  rintro e w1 ⟨rfl, hb1⟩
  rw [HR.out]
  obtain ⟨hc, hf⟩ := bcell hb1
  have hz : w.heap.size + 2 < w1.heap.size := by have := hb1.size; simp at this; omega
  go_wp2_with fail
  refine (right_calls _ _ _ _).mono ?_
  rintro e w2 ⟨rfl, hb2'⟩
  rw [HR'.out]
  have hb2 := bnext hb1 hb2'
  clear hc hf hz
  obtain ⟨hc, hf⟩ := bcell hb2
  have hz : w.heap.size + 2 < w2.heap.size := by have := hb2.size; simp at this; omega
  go_wp2
  refine bodyPost_ret (v := .tuple #[.agg #[.int .i64 0, .int .i64 0, .bool false], .int .i64 5]) (by simp [results, Tryd.results36, *, go_sem]) rfl ⟨rfl, ?_⟩
  exact (((((((Below.refl _ _).alloc (Nat.le_refl _) _).alloc (by simp) _).alloc (by simp; omega) _).trans (hb2.mono (by simp; omega))).setCell (by simp; omega) _).setCell (by simp; omega) _).setCell (by simp; omega) _

end Go.Proofs.YtdoagbengfdcgaaDoor
