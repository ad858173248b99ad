/- NumAdd, NumText, NumAwake, NumWrong, NumLive, NumHelp, put together. -/
import Derived.Test.YtdnfaoanaehjhaaGreatDoorH17
import Derived.Test.YtdnfaoanaehjhaaGreatDoorH16
import Derived.Test.YtdnfaoanaehjhaaGreatDoorH2

/- Sums of right numbers: package number's Add. -/
namespace Go.Proofs.YtdnfaoanaehjhaaGreatDoor.Nm
open Go.RowKit

set_option maxHeartbeats 2000000 in
theorem Add_right (v : Int) (s : Nat) (d : Bool) (v' : Int) (s' : Nat) (d' : Bool) (w : World) (hg : Good w) (hr : rightZ v s d = true) (hr' : rightZ v' s' d' = true) (hs : s ≤ 4) (h1 : -999999999 ≤ v) (h2 : v ≤ 999999999) (hs' : s' ≤ 4) (h1' : -999999999 ≤ v') (h2' : v' ≤ 999999999) :
    Calls Tryz.prog 109 #[.agg #[.int .i64 v, .int .i64 s, .bool d], .agg #[.int .i64 v', .int .i64 s', .bool d']] w fun e w' => e = .returned (reckL (madeL (amt v s + amt v' s') 4 (decOf d d'))) ∧ Below w.heap.size w w' := by
  have HR := Lib.hid hr
  have HR' := Lib.hid hr'
  have hb := amt_bound v s h1 h2 hs
  have hb' := amt_bound v' s' h1' h2' hs'
  have hsp : ∀ W, Good W → Calls Tryz.prog 124 #[.agg #[.int .i64 v, .int .i64 s, .bool d]] W fun e w' => e = .returned (.int .i64 (amt v s)) ∧ Below W.heap.size W w' := fun W hW => spread_calls v s d W hW hs h1 h2
  have hsp' : ∀ W, Good W → Calls Tryz.prog 124 #[.agg #[.int .i64 v', .int .i64 s', .bool d']] W fun e w' => e = .returned (.int .i64 (amt v' s')) ∧ Below W.heap.size W w' := fun W hW => spread_calls v' s' d' W hW hs' h1' h2'
  have HS := Lib.hid hsp
  have HS' := Lib.hid hsp'
  have hre : ∀ W, Good W → Calls Tryz.prog 123 #[.int .i64 (amt v s + amt v' s'), .int .i64 4, .bool (decOf d d')] W fun e w' => e = .returned (reckL (madeL (amt v s + amt v' s') 4 (decOf d d'))) ∧ Below W.heap.size W w' := fun W hW => reckoned_calls (amt v s + amt v' s') 4 (decOf d d') W hW (by omega) (by omega) (by omega)
  have HM := Lib.hid hre
  have HG := Lib.hid hg
  clear hr hr' hsp hsp' hre hg
  generalize amt v s = A at hb HS HM
  generalize amt v' s' = B at hb' HS' HM
  generalize madeL (A + B) 4 (decOf d d') = R at HM
  obtain ⟨⟨Rv, Rs, Rd⟩, Rb⟩ := R
  have n1 : ¬ w.heap.size = w.heap.size + 1 + 1 := by omega
  have n2 : ¬ w.heap.size + 1 + 1 = w.heap.size := by omega
  go_enter Tryz.func109, Tryz.ntmps109
  go_wp2_with fail
  refine (right_calls _ _ _ _).mono ?_
  rintro e w1 ⟨rfl, hb1⟩
  rw [HR.out]
  obtain ⟨hc, hf⟩ := bcell hb1
  have hz : w.heap.size + 2 < w1.heap.size := by have := hb1.size; simp at this; omega
  go_wp2_with fail
  refine (right_calls _ _ _ _).mono ?_
  rintro e w2 ⟨rfl, hb2'⟩
  rw [HR'.out]
  have hb2 := bnext hb1 hb2'
  clear hc hf hz
  obtain ⟨hc, hf⟩ := bcell hb2
  have hz : w.heap.size + 2 < w2.heap.size := by have := hb2.size; simp at this; omega
  go_wp2_with fail
  have hG : Good w2 := ((((HG.out.alloc _).alloc _).alloc _)).on hb2
  have hB : Below (boxed w 48 (.int .i64 v) (.int .i64 s) (.bool d) (.int .i64 v') (.int .i64 s') (.bool d') (.int .i64 0) (.int .i64 0) (.bool false)).heap.size (boxed w 48 (.int .i64 v) (.int .i64 s) (.bool d) (.int .i64 v') (.int .i64 s') (.bool d') (.int .i64 0) (.int .i64 0) (.bool false)) w2 := hb2
  clear hb1 hb2 hb2' hf hz
  obtain ⟨c0, c1, c2, c3, c4, c5, ⟨c6, c7, c8⟩, c9⟩ := boxes hB
  clear hc
  have hw0 : IntKind.i64.wrap (A + B) = A + B := IntWalk.i64_in _ (by omega)
  cases d with
  | true =>
    have HO := Lib.hid (show decOf true d' = true from rfl)
    rw [HO.out] at HM
    refine wp_region_held_drew (S := (fun W => W.cell? ⟨w.heap.size, 0, none⟩ = some (.int .i64 v) ∧ W.cell? ⟨w.heap.size, 1, none⟩ = some (.int .i64 s) ∧ W.cell? ⟨w.heap.size, 2, none⟩ = some (.bool true) ∧ W.cell? ⟨w.heap.size + 1, 0, none⟩ = some (.int .i64 v') ∧ W.cell? ⟨w.heap.size + 1, 1, none⟩ = some (.int .i64 s') ∧ W.cell? ⟨w.heap.size + 1, 2, none⟩ = some (.bool d'))) (by kernel_rfl) ?_ (fun hHeld => ?_)
    · (try dsimp only); go_keep
    refine wpAnyH_take (i := 0) (v := ?_) rfl (by kernel_rfl) (by kernel_rfl) (by kernel_rfl) (fun _ _ _ h => h) (Or.inl ⟨by rfl, ?_⟩) (by assumption) ?_
    rotate_left
    · (intro ww hSw; (try dsimp only at hSw); go_simp); (try with_reducible rfl)
    (try simp only [Act.put])
    refine wpAnyH_take (i := 2) (v := ?_) rfl (by kernel_rfl) (by kernel_rfl) (by kernel_rfl) (fun _ _ _ h => h) (Or.inl ⟨by rfl, ?_⟩) (by assumption) ?_
    rotate_left
    · (intro ww hSw; (try dsimp only at hSw); go_simp); (try with_reducible rfl)
    (try simp only [Act.put])
    refine wpAnyH_take (i := 5) (v := ?_) rfl (by kernel_rfl) (by kernel_rfl) (by kernel_rfl) (fun _ _ _ h => h) (Or.inl ⟨by rfl, ?_⟩) (by assumption) ?_
    rotate_left
    · (intro ww hSw; (try dsimp only at hSw); go_simp); (try with_reducible rfl)
    (try simp only [Act.put])
    refine wpAnyH_take (i := 6) (v := ?_) rfl (by kernel_rfl) (by kernel_rfl) (by kernel_rfl) (fun _ _ _ h => h) (Or.inl ⟨by rfl, ?_⟩) (by assumption) ?_
    rotate_left
    · (intro ww hSw; (try dsimp only at hSw); go_simp); (try with_reducible rfl)
    (try simp only [Act.put])
    refine wpAnyH_ready (rs := [1]) (by kernel_rfl) (by simp) ?_
    refine AllReadyH.cons rfl (fun K hK => ?_) AllReadyH.nil
    go_simp
    refine (HS.out _ ?_).mono ?_
    · first | exact hG | exact hG.drew
    rintro e wn ⟨rfl, hbn⟩
    (first | replace hG := hG.on hbn | replace hG := hG.drew.on hbn)
    (first | replace hB := bnext hB hbn | replace hB := bnext hB.drew hbn)
    clear hbn c0 c1 c2 c3 c4 c5 c6 c7 c8 c9
    obtain ⟨c0, c1, c2, c3, c4, c5, ⟨c6, c7, c8⟩, c9⟩ := boxes hB
    go_wp2_with fail
    refine hK.out _ _ ?_ (fun hHeld => ?_)
    · (try dsimp only); go_keep
    clear hK K
    (try simp only [Act.put, List.setIfInBounds_toArray, List.set_cons_zero, List.set_cons_succ])
    refine wpAnyH_ready (rs := [3]) (by kernel_rfl) (by simp) ?_
    refine AllReadyH.cons rfl (fun K hK => ?_) AllReadyH.nil
    go_simp
    refine (HS'.out _ ?_).mono ?_
    · first | exact hG | exact hG.drew
    rintro e wn ⟨rfl, hbn⟩
    (first | replace hG := hG.on hbn | replace hG := hG.drew.on hbn)
    (first | replace hB := bnext hB hbn | replace hB := bnext hB.drew hbn)
    clear hbn c0 c1 c2 c3 c4 c5 c6 c7 c8 c9
    obtain ⟨c0, c1, c2, c3, c4, c5, ⟨c6, c7, c8⟩, c9⟩ := boxes hB
    go_wp2_with fail
    refine hK.out _ _ ?_ (fun hHeld => ?_)
    · (try dsimp only); go_keep
    clear hK K
    (try simp only [Act.put, List.setIfInBounds_toArray, List.set_cons_zero, List.set_cons_succ])
    refine wpAnyH_take (i := 4) (v := ?_) rfl (by kernel_rfl) (by kernel_rfl) (by kernel_rfl) (fun _ _ _ h => h) (Or.inl ⟨by rfl, ?_⟩) (by assumption) ?_
    rotate_left
    · (intro ww hSw; (try dsimp only at hSw); go_simp); (try with_reducible rfl)
    (try simp only [Act.put])
    refine wpAnyH_take (i := 7) (v := ?_) rfl (by kernel_rfl) (by kernel_rfl) (by kernel_rfl) (fun _ _ _ h => h) (Or.inl ⟨by rfl, ?_⟩) (by assumption) ?_
    rotate_left
    · (intro ww hSw; (try dsimp only at hSw); go_simp); (try with_reducible rfl)
    (try simp only [Act.put])
    refine wpAnyH_take (i := 8) (v := undef) rfl (by kernel_rfl) (by kernel_rfl) (by kernel_rfl) (fun _ _ _ h => h) (Or.inr ⟨by rfl, rfl⟩) (by assumption) ?_
    (try simp only [Act.put])
    refine wpAnyH_take (i := 9) (v := undef) rfl (by kernel_rfl) (by kernel_rfl) (by kernel_rfl) (fun _ _ _ h => h) (Or.inr ⟨by rfl, rfl⟩) (by assumption) ?_
    (try simp only [Act.put])
    refine wpAnyH_take (i := 10) (v := ?_) rfl (by kernel_rfl) (by kernel_rfl) (by kernel_rfl) (fun _ _ _ h => h) (Or.inl ⟨by rfl, ?_⟩) (by assumption) ?_
    rotate_left
    · (intro ww hSw; (try dsimp only at hSw); go_simp); (try with_reducible rfl)
    (try simp only [Act.put])
    refine wpAnyH_ready (rs := [11]) (by kernel_rfl) (by simp) ?_
    refine AllReadyH.cons rfl (fun K hK => ?_) AllReadyH.nil
    go_simp
    refine (HM.out _ ?_).mono ?_
    · first | exact hG | exact hG.drew
    rintro e wn ⟨rfl, hbn⟩
    (first | replace hG := hG.on hbn | replace hG := hG.drew.on hbn)
    (first | replace hB := bnext hB hbn | replace hB := bnext hB.drew hbn)
    clear hbn c0 c1 c2 c3 c4 c5 c6 c7 c8 c9
    obtain ⟨c0, c1, c2, c3, c4, c5, ⟨c6, c7, c8⟩, c9⟩ := boxes hB
    simp only [reckL, NumL.val]
    go_wp2_with fail
    refine hK.out _ _ ?_ (fun hHeld => ?_)
    · (try dsimp only); go_keep
    clear hK K
    (try simp only [Act.put, List.setIfInBounds_toArray, List.set_cons_zero, List.set_cons_succ])
    refine wpAnyH_take (i := 12) (v := ?_) rfl (by kernel_rfl) (by kernel_rfl) (by kernel_rfl) (fun _ _ _ h => h) (Or.inl ⟨by rfl, ?_⟩) (by assumption) ?_
    rotate_left
    · (intro ww hSw; (try dsimp only at hSw); go_simp); (try with_reducible rfl)
    (try simp only [Act.put])
    refine wpAnyH_take (i := 13) (v := ?_) rfl (by kernel_rfl) (by kernel_rfl) (by kernel_rfl) (fun _ _ _ h => h) (Or.inl ⟨by rfl, ?_⟩) (by assumption) ?_
    rotate_left
    · (intro ww hSw; (try dsimp only at hSw); go_simp); (try with_reducible rfl)
    (try simp only [Act.put])
    refine wpAnyH_ready (rs := [14]) (by kernel_rfl) (by simp) ?_
    refine AllReadyH.cons rfl (fun K hK => ?_) AllReadyH.nil
    go_simp
    refine hK.out _ _ ?_ (fun hHeld => ?_)
    · (try dsimp only); go_keep
    clear hK K
    (try simp only [Act.put, List.setIfInBounds_toArray, List.set_cons_zero, List.set_cons_succ])
    refine wpAnyH_take (i := 15) (oi := ⟨some 5, _, _, _, _, _⟩) (v := ?_) rfl (by kernel_rfl) (by kernel_rfl) (by kernel_rfl) (fun _ _ _ h => h) (Or.inl ⟨by rfl, ?_⟩) (by assumption) ?_
    rotate_left
    · (intro ww hSw; (try dsimp only at hSw); go_simp); (try with_reducible rfl)
    (try simp only [Act.put])
    refine wpAnyH_done (by kernel_rfl) ?_ _
    go_wp2
    refine bodyPost_ret (v := .tuple #[.agg #[.int .i64 Rv, .int .i64 Rs, .bool Rd], .int .i64 (overZ Rb)]) (by simp [results, Tryz.results109, *, go_sem]) rfl ⟨rfl, ?_⟩
    exact ((((boxed_below hB)).setCell (by simp; omega) _).setCell (by simp; omega) _).setCell (by simp; omega) _
  | false =>
    have HO := Lib.hid (show decOf false d' = d' from rfl)
    rw [HO.out] at HM
    refine wp_region_held_drew (S := (fun W => W.cell? ⟨w.heap.size, 0, none⟩ = some (.int .i64 v) ∧ W.cell? ⟨w.heap.size, 1, none⟩ = some (.int .i64 s) ∧ W.cell? ⟨w.heap.size, 2, none⟩ = some (.bool false) ∧ W.cell? ⟨w.heap.size + 1, 0, none⟩ = some (.int .i64 v') ∧ W.cell? ⟨w.heap.size + 1, 1, none⟩ = some (.int .i64 s') ∧ W.cell? ⟨w.heap.size + 1, 2, none⟩ = some (.bool d'))) (by kernel_rfl) ?_ (fun hHeld => ?_)
    · (try dsimp only); go_keep
    refine wpAnyH_take (i := 0) (v := ?_) rfl (by kernel_rfl) (by kernel_rfl) (by kernel_rfl) (fun _ _ _ h => h) (Or.inl ⟨by rfl, ?_⟩) (by assumption) ?_
    rotate_left
    · (intro ww hSw; (try dsimp only at hSw); go_simp); (try with_reducible rfl)
    (try simp only [Act.put])
    refine wpAnyH_take (i := 2) (v := ?_) rfl (by kernel_rfl) (by kernel_rfl) (by kernel_rfl) (fun _ _ _ h => h) (Or.inl ⟨by rfl, ?_⟩) (by assumption) ?_
    rotate_left
    · (intro ww hSw; (try dsimp only at hSw); go_simp); (try with_reducible rfl)
    (try simp only [Act.put])
    refine wpAnyH_take (i := 5) (v := ?_) rfl (by kernel_rfl) (by kernel_rfl) (by kernel_rfl) (fun _ _ _ h => h) (Or.inl ⟨by rfl, ?_⟩) (by assumption) ?_
    rotate_left
    · (intro ww hSw; (try dsimp only at hSw); go_simp); (try with_reducible rfl)
    (try simp only [Act.put])
    refine wpAnyH_take (i := 6) (v := ?_) rfl (by kernel_rfl) (by kernel_rfl) (by kernel_rfl) (fun _ _ _ h => h) (Or.inl ⟨by rfl, ?_⟩) (by assumption) ?_
    rotate_left
    · (intro ww hSw; (try dsimp only at hSw); go_simp); (try with_reducible rfl)
    (try simp only [Act.put])
    refine wpAnyH_ready (rs := [1]) (by kernel_rfl) (by simp) ?_
    refine AllReadyH.cons rfl (fun K hK => ?_) AllReadyH.nil
    go_simp
    refine (HS.out _ ?_).mono ?_
    · first | exact hG | exact hG.drew
    rintro e wn ⟨rfl, hbn⟩
    (first | replace hG := hG.on hbn | replace hG := hG.drew.on hbn)
    (first | replace hB := bnext hB hbn | replace hB := bnext hB.drew hbn)
    clear hbn c0 c1 c2 c3 c4 c5 c6 c7 c8 c9
    obtain ⟨c0, c1, c2, c3, c4, c5, ⟨c6, c7, c8⟩, c9⟩ := boxes hB
    go_wp2_with fail
    refine hK.out _ _ ?_ (fun hHeld => ?_)
    · (try dsimp only); go_keep
    clear hK K
    (try simp only [Act.put, List.setIfInBounds_toArray, List.set_cons_zero, List.set_cons_succ])
    refine wpAnyH_ready (rs := [3]) (by kernel_rfl) (by simp) ?_
    refine AllReadyH.cons rfl (fun K hK => ?_) AllReadyH.nil
    go_simp
    refine (HS'.out _ ?_).mono ?_
    · first | exact hG | exact hG.drew
    rintro e wn ⟨rfl, hbn⟩
    (first | replace hG := hG.on hbn | replace hG := hG.drew.on hbn)
    (first | replace hB := bnext hB hbn | replace hB := bnext hB.drew hbn)
    clear hbn c0 c1 c2 c3 c4 c5 c6 c7 c8 c9
    obtain ⟨c0, c1, c2, c3, c4, c5, ⟨c6, c7, c8⟩, c9⟩ := boxes hB
    go_wp2_with fail
    refine hK.out _ _ ?_ (fun hHeld => ?_)
    · (try dsimp only); go_keep
    clear hK K
    (try simp only [Act.put, List.setIfInBounds_toArray, List.set_cons_zero, List.set_cons_succ])
    refine wpAnyH_take (i := 4) (v := ?_) rfl (by kernel_rfl) (by kernel_rfl) (by kernel_rfl) (fun _ _ _ h => h) (Or.inl ⟨by rfl, ?_⟩) (by assumption) ?_
    rotate_left
    · (intro ww hSw; (try dsimp only at hSw); go_simp); (try with_reducible rfl)
    (try simp only [Act.put])
    refine wpAnyH_take (i := 7) (v := ?_) rfl (by kernel_rfl) (by kernel_rfl) (by kernel_rfl) (fun _ _ _ h => h) (Or.inl ⟨by rfl, ?_⟩) (by assumption) ?_
    rotate_left
    · (intro ww hSw; (try dsimp only at hSw); go_simp); (try with_reducible rfl)
    (try simp only [Act.put])
    refine wpAnyH_take (i := 8) (v := ?_) rfl (by kernel_rfl) (by kernel_rfl) (by kernel_rfl) (fun _ _ _ h => h) (Or.inl ⟨by rfl, ?_⟩) (by assumption) ?_
    rotate_left
    · (intro ww hSw; (try dsimp only at hSw); go_simp); (try with_reducible rfl)
    (try simp only [Act.put])
    refine wpAnyH_take (i := 9) (v := ?_) rfl (by kernel_rfl) (by kernel_rfl) (by kernel_rfl) (fun _ _ _ h => h) (Or.inl ⟨by rfl, ?_⟩) (by assumption) ?_
    rotate_left
    · (intro ww hSw; (try dsimp only at hSw); go_simp); (try with_reducible rfl)
    (try simp only [Act.put])
    refine wpAnyH_take (i := 10) (v := ?_) rfl (by kernel_rfl) (by kernel_rfl) (by kernel_rfl) (fun _ _ _ h => h) (Or.inl ⟨by rfl, ?_⟩) (by assumption) ?_
    rotate_left
    · (intro ww hSw; (try dsimp only at hSw); go_simp); (try with_reducible rfl)
    (try simp only [Act.put])
    refine wpAnyH_ready (rs := [11]) (by kernel_rfl) (by simp) ?_
    refine AllReadyH.cons rfl (fun K hK => ?_) AllReadyH.nil
    go_simp
    refine (HM.out _ ?_).mono ?_
    · first | exact hG | exact hG.drew
    rintro e wn ⟨rfl, hbn⟩
    (first | replace hG := hG.on hbn | replace hG := hG.drew.on hbn)
    (first | replace hB := bnext hB hbn | replace hB := bnext hB.drew hbn)
    clear hbn c0 c1 c2 c3 c4 c5 c6 c7 c8 c9
    obtain ⟨c0, c1, c2, c3, c4, c5, ⟨c6, c7, c8⟩, c9⟩ := boxes hB
    simp only [reckL, NumL.val]
    go_wp2_with fail
    refine hK.out _ _ ?_ (fun hHeld => ?_)
    · (try dsimp only); go_keep
    clear hK K
    (try simp only [Act.put, List.setIfInBounds_toArray, List.set_cons_zero, List.set_cons_succ])
    refine wpAnyH_take (i := 12) (v := ?_) rfl (by kernel_rfl) (by kernel_rfl) (by kernel_rfl) (fun _ _ _ h => h) (Or.inl ⟨by rfl, ?_⟩) (by assumption) ?_
    rotate_left
    · (intro ww hSw; (try dsimp only at hSw); go_simp); (try with_reducible rfl)
    (try simp only [Act.put])
    refine wpAnyH_take (i := 13) (v := ?_) rfl (by kernel_rfl) (by kernel_rfl) (by kernel_rfl) (fun _ _ _ h => h) (Or.inl ⟨by rfl, ?_⟩) (by assumption) ?_
    rotate_left
    · (intro ww hSw; (try dsimp only at hSw); go_simp); (try with_reducible rfl)
    (try simp only [Act.put])
    refine wpAnyH_ready (rs := [14]) (by kernel_rfl) (by simp) ?_
    refine AllReadyH.cons rfl (fun K hK => ?_) AllReadyH.nil
    go_simp
    refine hK.out _ _ ?_ (fun hHeld => ?_)
    · (try dsimp only); go_keep
    clear hK K
    (try simp only [Act.put, List.setIfInBounds_toArray, List.set_cons_zero, List.set_cons_succ])
    refine wpAnyH_take (i := 15) (oi := ⟨some 5, _, _, _, _, _⟩) (v := ?_) rfl (by kernel_rfl) (by kernel_rfl) (by kernel_rfl) (fun _ _ _ h => h) (Or.inl ⟨by rfl, ?_⟩) (by assumption) ?_
    rotate_left
    · (intro ww hSw; (try dsimp only at hSw); go_simp); (try with_reducible rfl)
    (try simp only [Act.put])
    refine wpAnyH_done (by kernel_rfl) ?_ _
    go_wp2
    refine bodyPost_ret (v := .tuple #[.agg #[.int .i64 Rv, .int .i64 Rs, .bool Rd], .int .i64 (overZ Rb)]) (by simp [results, Tryz.results109, *, go_sem]) rfl ⟨rfl, ?_⟩
    exact ((((boxed_below hB)).setCell (by simp; omega) _).setCell (by simp; omega) _).setCell (by simp; omega) _

end Go.Proofs.YtdnfaoanaehjhaaGreatDoor.Nm

/- A number's text: what package number's Text comes to, for every number. -/
namespace Go.Proofs.YtdnfaoanaehjhaaGreatDoor.Nm
open Go.RowKit

theorem grow_below (w : World) (k : Nat) (os : Array Obj) : Below w.heap.size w (Sort.grow (w.drewN k) os) :=
  ⟨rfl, rfl, rfl, by show w.heap.size ≤ (w.heap ++ os).size; simp, fun i hi => by show (w.heap ++ os)[i]? = w.heap[i]?; exact Array.getElem?_append_left hi⟩

theorem Format_calls (u : Nat) (w : World) (hg : Good w) (hu : u ≤ 999999999) :
    Calls Tryz.prog 120 #[.int .i64 u, .int .i64 10] w fun e w' => e = .returned (.string (bs (Lib.decDigits u))) ∧ Below w.heap.size w w' :=
  (Tryz.strconv_FormatInt_10 (u : Int) (by omega) (by omega) w hg.dec).mono fun e w' ⟨he, k, os, hw⟩ => ⟨by rw [he, Lib.itoa_nonneg]; rfl, by rw [hw]; exact grow_below w k os⟩

theorem Repeat_calls (c : Nat) (w : World) (hc : c ≤ 4) :
    Calls Tryz.prog 137 #[.string ⟨#[48]⟩, .int .i64 c] w fun e w' => e = .returned (.string (bs (List.replicate c 48))) ∧ Below w.heap.size w w' :=
  (Tryz.strings_Repeat ⟨#[48]⟩ c w (by omega) (by show 1 * c ≤ _; omega)).mono fun e w' ⟨he, hw⟩ => ⟨by rw [he, show (ByteArray.mk #[48]).data.toList = [48] from rfl, rep_rep]; rfl, hw⟩

theorem dec_size (u : Nat) : (bs (Lib.decDigits u)).size = Lib.nDigits u := by rw [bs_size, Lib.decDigits_length]

set_option maxHeartbeats 1000000 in
theorem decimalText_calls (u s : Nat) (w : World) (hg : Good w) (hu : u ≤ 999999999) (hs : s ≤ 4) :
    Calls Tryz.prog 121 #[.int .i64 u, .int .i64 s] w fun e w' => e = .returned (.string (bs (decimalL u s))) ∧ Below w.heap.size w w' := by
  have hp := ten_pos s
  have hq0 : u / 10 ^ s ≤ 999999999 := Nat.le_trans (Nat.div_le_self _ _) hu
  have hr0 : u % 10 ^ s ≤ 999999999 := Nat.le_trans (Nat.mod_le _ _) hu
  have HC : Hid (∀ W, Good W → W.cell? ⟨0, s, none⟩ = some (.int .i64 (ten s))) := Lib.hid fun W hW => by rw [← pow_ten _ (by omega)]; exact hW.cell s (by omega)
  have HQ : Hid (∀ W, Good W → Calls Tryz.prog 120 #[.int .i64 ((u : Int) / ten s), .int .i64 10] W fun e w' => e = .returned (.string (bs (Lib.decDigits (u / 10 ^ s)))) ∧ Below W.heap.size W w') := Lib.hid fun W hW => by
    have := Format_calls (u / 10 ^ s) W hW hq0
    rw [show ((u / 10 ^ s : Nat) : Int) = (u : Int) / ten s by rw [ten_pow]; rfl] at this
    exact this
  have HM : Hid (∀ W, Good W → Calls Tryz.prog 120 #[.int .i64 ((u : Int) % ten s), .int .i64 10] W fun e w' => e = .returned (.string (bs (Lib.decDigits (u % 10 ^ s)))) ∧ Below W.heap.size W w') := Lib.hid fun W hW => by
    have := Format_calls (u % 10 ^ s) W hW hr0
    rw [show ((u % 10 ^ s : Nat) : Int) = (u : Int) % ten s by rw [ten_pow]; rfl] at this
    exact this
  have HE : Hid (bs (decimalL u s) = bs (Lib.decDigits (u / 10 ^ s)) ++ ⟨#[46]⟩ ++ bs (List.replicate (s - (bs (Lib.decDigits (u % 10 ^ s))).size) 48) ++ bs (Lib.decDigits (u % 10 ^ s))) := Lib.hid (by
    rw [dec_size, show (⟨#[46]⟩ : ByteArray) = bs [46] from rfl, bs_app, bs_app, bs_app, List.append_assoc, List.append_assoc, behind_low]; rfl)
  have hsz : (bs (Lib.decDigits (u % 10 ^ s))).size ≤ 9 := by
    rw [dec_size]
    exact nDigits_le 9 _ (by omega) (by omega)
  have hqb : 0 ≤ (u : Int) / ten s ∧ (u : Int) / ten s ≤ 999999999 := by
    rw [ten_pow]
    have : ((u : Int) / ((10 ^ s : Nat) : Int)) = ((u / 10 ^ s : Nat) : Int) := rfl
    rw [this]; exact ⟨Int.natCast_nonneg _, Int.ofNat_le.2 hq0⟩
  have hszq : (bs (Lib.decDigits (u / 10 ^ s))).size ≤ 9 := by
    rw [dec_size]
    exact nDigits_le 9 _ (by omega) (by omega)
  have hszr : (bs (List.replicate (s - (bs (Lib.decDigits (u % 10 ^ s))).size) 48)).size ≤ 4 := by rw [bs_size, List.length_replicate]; omega
  have hrep := Repeat_calls (s - (bs (Lib.decDigits (u % 10 ^ s))).size)
  have hg' := hg
  have HG := Lib.hid hg
  clear hg
  generalize ten s = T at HC HQ HM hp hqb
  generalize bs (Lib.decDigits (u / 10 ^ s)) = sq at HQ HE hszq
  generalize bs (Lib.decDigits (u % 10 ^ s)) = sr at HM HE hsz hszr hrep
  generalize bs (decimalL u s) = R at HE ⊢
  generalize bs (List.replicate (s - sr.size) 48) = sz at HE hszr hrep
  have HP := Lib.hid hrep
  clear hrep
  clear hq0 hr0
  have hc := HC.out w hg'
  have hu' : (u : Int) ≤ 999999999 := by omega
  clear hg' hu
  have HRep : Hid (∀ W, Calls Tryz.prog 137 #[.string ⟨#[48]⟩, .int .i64 (max 0 ((s : Int) - (sr.size : Int)))] W fun e w' => e = .returned (.string sz) ∧ Below W.heap.size W w') := Lib.hid fun W => by
    have := HP.out W (by omega)
    rw [show ((s - sr.size : Nat) : Int) = max 0 ((s : Int) - (sr.size : Int)) by omega] at this
    exact this
  go_enter Tryz.func121, Tryz.ntmps121
  go_wp2_with fail
  refine (HQ.out _ HG.out).mono ?_
  rintro e w1 ⟨rfl, hb1⟩
  have hG1 := HG.out.on hb1
  have hc1 := HC.out w1 hG1
  go_wp2_with fail
  refine (HM.out _ hG1).mono ?_
  rintro e w2 ⟨rfl, hb2'⟩
  have hb2 := bnext hb1 hb2'
  go_wp2_with fail
  refine (HRep.out _).mono ?_
  rintro e w3 ⟨rfl, hb3'⟩
  go_wp2
  go_ret
  exact ⟨by rw [HE.out]; rfl, bnext hb2 hb3'⟩

def textRet (v : Int) (s : Nat) (d : Bool) : Value := .tuple #[.string (bs (textL v s d)), .int .i64 0]

theorem decimal_size (u s : Nat) (hu : u ≤ 999999999) (hs : s ≤ 4) : (bs (decimalL u s)).size ≤ 14 := by
  have h1 : Lib.nDigits (u / 10 ^ s) ≤ 9 := nDigits_le 9 _ (by omega) (by have := Nat.div_le_self u (10 ^ s); omega)
  rw [bs_size]
  unfold decimalL
  rw [List.length_append, List.length_cons, Lib.decDigits_length]
  split
  · simp; omega
  · rw [lowD_length]; omega
theorem dec_size9 (u : Nat) (hu : u ≤ 999999999) : (bs (Lib.decDigits u)).size ≤ 9 := by
  rw [dec_size]; exact nDigits_le 9 _ (by omega) (by omega)

set_option maxHeartbeats 1000000 in
theorem Text_wrong (v s : Int) (d : Bool) (w : World) (h : rightZ v s d = false) :
    Calls Tryz.prog 106 #[.agg #[.int .i64 v, .int .i64 s, .bool d]] w fun e w' => e = .returned (.tuple #[.string ⟨#[]⟩, .int .i64 2]) ∧ Below w.heap.size w w' := by
  have HR := Lib.hid h
  clear h
  go_enter Tryz.func106, Tryz.ntmps106
  go_wp2_with (go_at_call 119; refine (right_calls _ _ _ _).mono ?_; rintro e w' ⟨rfl, hb⟩; rw [HR.out])
  go_ret2
  exact ⟨rfl, one_box (by assumption)⟩

set_option maxHeartbeats 2000000 in
theorem Text_right (v : Int) (s : Nat) (d : Bool) (w : World) (hg : Good w) (hr : rightZ v s d = true) (hs : s ≤ 4) (h1 : -999999999 ≤ v) (h2 : v ≤ 999999999) :
    Calls Tryz.prog 106 #[.agg #[.int .i64 v, .int .i64 s, .bool d]] w fun e w' => e = .returned (textRet v s d) ∧ Below w.heap.size w w' := by
  have HR := Lib.hid hr
  have HG := Lib.hid hg
  clear hr hg
  obtain ⟨u, hu⟩ : ∃ u, v.natAbs = u := ⟨_, rfl⟩
  have hu9 : u ≤ 999999999 := by omega
  have HF : Hid (∀ W, Good W → Calls Tryz.prog 120 #[.int .i64 u, .int .i64 10] W fun e w' => e = .returned (.string (bs (Lib.decDigits u))) ∧ Below W.heap.size W w') := Lib.hid fun W hW => Format_calls u W hW hu9
  have HD : Hid (∀ W, Good W → Calls Tryz.prog 121 #[.int .i64 u, .int .i64 s] W fun e w' => e = .returned (.string (bs (decimalL u s))) ∧ Below W.heap.size W w') := Lib.hid fun W hW => decimalText_calls u s W hW hu9 hs
  have hz1 := dec_size9 u hu9
  have hz2 := decimal_size u s hu9 hs
  have HE : Hid (bs (textL v s d) = bs (if v < 0 then [45] else []) ++ bs (if d then decimalL u s else Lib.decDigits u)) := Lib.hid (by rw [bs_app]; unfold textL; rw [hu])
  have hval : v = (u : Int) ∧ ¬ v < 0 ∨ v = -(u : Int) ∧ v < 0 := by omega
  unfold textRet
  generalize bs (textL v s d) = R at HE ⊢
  cases d with
  | false =>
    simp only [Bool.false_eq_true, if_false] at HE
    generalize bs (Lib.decDigits u) = x at HF HE hz1
    clear HD hz2 hu
    rcases hval with ⟨rfl, hn⟩ | ⟨rfl, hn⟩
    · rw [if_neg hn] at HE
      go_enter Tryz.func106, Tryz.ntmps106
      go_wp2_with fail
      refine (right_calls _ _ _ _).mono ?_
      rintro e w1 ⟨rfl, hb1⟩
      rw [HR.out]
      obtain ⟨hc, hf⟩ := bcell hb1
      go_wp2
      go_quiet (fail)
      go_wp2_with fail
      refine (HF.out _ ?_).mono ?_
      · exact ((HG.out.alloc _).on hb1).drewN _
      rintro e w2 ⟨rfl, hb2⟩
      go_wp2
      go_ret2
      exact ⟨by rw [HE.out]; rfl, (one_box (below_drewN hb1 _)).trans (hb2.mono (by have := hb1.size; simp at this ⊢; omega))⟩
    · rw [if_pos hn] at HE
      go_enter Tryz.func106, Tryz.ntmps106
      go_wp2_with fail
      refine (right_calls _ _ _ _).mono ?_
      rintro e w1 ⟨rfl, hb1⟩
      rw [HR.out]
      obtain ⟨hc, hf⟩ := bcell hb1
      go_wp2
      go_quiet (fail)
      go_wp2_with fail
      refine (HF.out _ ?_).mono ?_
      · exact ((HG.out.alloc _).on hb1).drewN _
      rintro e w2 ⟨rfl, hb2⟩
      go_wp2
      go_ret2
      exact ⟨by rw [HE.out]; rfl, (one_box (below_drewN hb1 _)).trans (hb2.mono (by have := hb1.size; simp at this ⊢; omega))⟩
  | true =>
    simp only [if_true] at HE
    generalize bs (decimalL u s) = x at HD HE hz2
    clear HF hz1 hu
    rcases hval with ⟨rfl, hn⟩ | ⟨rfl, hn⟩
    · rw [if_neg hn] at HE
      go_enter Tryz.func106, Tryz.ntmps106
      go_wp2_with fail
      refine (right_calls _ _ _ _).mono ?_
      rintro e w1 ⟨rfl, hb1⟩
      rw [HR.out]
      obtain ⟨hc, hf⟩ := bcell hb1
      go_wp2
      go_quiet (fail)
      go_wp2_with fail
      refine (HD.out _ ?_).mono ?_
      · exact ((HG.out.alloc _).on hb1).drewN _
      rintro e w2 ⟨rfl, hb2⟩
      go_wp2
      go_ret2
      exact ⟨by rw [HE.out]; rfl, (one_box (below_drewN hb1 _)).trans (hb2.mono (by have := hb1.size; simp at this ⊢; omega))⟩
    · rw [if_pos hn] at HE
      go_enter Tryz.func106, Tryz.ntmps106
      go_wp2_with fail
      refine (right_calls _ _ _ _).mono ?_
      rintro e w1 ⟨rfl, hb1⟩
      rw [HR.out]
      obtain ⟨hc, hf⟩ := bcell hb1
      go_wp2
      go_quiet (fail)
      go_wp2_with fail
      refine (HD.out _ ?_).mono ?_
      · exact ((HG.out.alloc _).on hb1).drewN _
      rintro e w2 ⟨rfl, hb2⟩
      go_wp2
      go_ret2
      exact ⟨by rw [HE.out]; rfl, (one_box (below_drewN hb1 _)).trans (hb2.mono (by have := hb1.size; simp at this ⊢; omega))⟩

end Go.Proofs.YtdnfaoanaehjhaaGreatDoor.Nm

/- The program does answer: the two calls that every statement asks besides. -/
namespace Go.Proofs.YtdnfaoanaehjhaaGreatDoor.Nm
open Go.RowKit

theorem read_150 : readL [49, 46, 53, 48] true = (⟨15, 1, true⟩, true) := by rfl
theorem text_25 : textL (-25) 1 true = [45, 50, 46, 53] := by
  show [45] ++ (Lib.decDigits 2 ++ 46 :: [53]) = _
  rw [Lib.decDigits_one (by omega)]
  rfl

end Go.Proofs.YtdnfaoanaehjhaaGreatDoor.Nm

/- Numbers that are not right: no reckoning takes them. -/
namespace Go.Proofs.YtdnfaoanaehjhaaGreatDoor.Nm
open Go.RowKit

set_option maxHeartbeats 1000000 in
theorem Add_wrong (v s : Int) (d : Bool) (v' s' : Int) (d' : Bool) (w : World) (h : (rightZ v s d && rightZ v' s' d') = false) :
    Calls Tryz.prog 109 #[.agg #[.int .i64 v, .int .i64 s, .bool d], .agg #[.int .i64 v', .int .i64 s', .bool d']] w fun e w' => e = .returned (.tuple #[noNum.val, .int .i64 2]) ∧ Below w.heap.size w w' := by
  have E : rightZ v s d = false ∨ (rightZ v s d = true ∧ rightZ v' s' d' = false) := by
    cases h1 : rightZ v s d
    · exact .inl rfl
    · rw [h1] at h; exact .inr ⟨rfl, by simpa using h⟩
  clear h
  rcases E with h | ⟨h, h'⟩
  · have HR := Lib.hid h
    clear h
    go_enter Tryz.func109, Tryz.ntmps109
    go_wp2_with fail
    refine (right_calls _ _ _ _).mono ?_
    rintro e w1 ⟨rfl, hb1⟩
    rw [HR.out]
    obtain ⟨hc, hf⟩ := bcell hb1
    have hz : w.heap.size + 2 < w1.heap.size := by have := hb1.size; simp at this; omega
    go_wp2
    have HB := hb1
    refine bodyPost_ret (v := .tuple #[.agg #[.int .i64 0, .int .i64 0, .bool false], .int .i64 2]) (by simp [results, Tryz.results109, *, go_sem]) rfl ⟨rfl, ?_⟩
    exact (((((((Below.refl _ _).alloc (Nat.le_refl _) _).alloc (by simp) _).alloc (by simp; omega) _).trans (HB.mono (by simp; omega))).setCell (by simp; omega) _).setCell (by simp; omega) _).setCell (by simp; omega) _
  · have HR := Lib.hid h
    have HR' := Lib.hid h'
    clear h h'
    go_enter Tryz.func109, Tryz.ntmps109
    go_wp2_with fail
    refine (right_calls _ _ _ _).mono ?_
    rintro e w1 ⟨rfl, hb1⟩
    rw [HR.out]
    obtain ⟨hc, hf⟩ := bcell hb1
    have hz : w.heap.size + 2 < w1.heap.size := by have := hb1.size; simp at this; omega
    go_wp2_with fail
    refine (right_calls _ _ _ _).mono ?_
    rintro e w2 ⟨rfl, hb2'⟩
    rw [HR'.out]
    have hb2 := bnext hb1 hb2'
    clear hc hf hz
    obtain ⟨hc, hf⟩ := bcell hb2
    have hz : w.heap.size + 2 < w2.heap.size := by have := hb2.size; simp at this; omega
    go_wp2
    have HB := hb2
    refine bodyPost_ret (v := .tuple #[.agg #[.int .i64 0, .int .i64 0, .bool false], .int .i64 2]) (by simp [results, Tryz.results109, *, go_sem]) rfl ⟨rfl, ?_⟩
    exact (((((((Below.refl _ _).alloc (Nat.le_refl _) _).alloc (by simp) _).alloc (by simp; omega) _).trans (HB.mono (by simp; omega))).setCell (by simp; omega) _).setCell (by simp; omega) _).setCell (by simp; omega) _

set_option maxHeartbeats 1000000 in
theorem Compare_wrong (v s : Int) (d : Bool) (v' s' : Int) (d' : Bool) (w : World) (h : (rightZ v s d && rightZ v' s' d') = false) :
    Calls Tryz.prog 111 #[.agg #[.int .i64 v, .int .i64 s, .bool d], .agg #[.int .i64 v', .int .i64 s', .bool d']] w fun e w' => e = .returned (.tuple #[.int .i64 0, .int .i64 2]) ∧ Below w.heap.size w w' := by
  have E : rightZ v s d = false ∨ (rightZ v s d = true ∧ rightZ v' s' d' = false) := by
    cases h1 : rightZ v s d
    · exact .inl rfl
    · rw [h1] at h; exact .inr ⟨rfl, by simpa using h⟩
  clear h
  rcases E with h | ⟨h, h'⟩
  · have HR := Lib.hid h
    clear h
    go_enter Tryz.func111, Tryz.ntmps111
    go_wp2_with fail
    refine (right_calls _ _ _ _).mono ?_
    rintro e w1 ⟨rfl, hb1⟩
    rw [HR.out]
    obtain ⟨hc, hf⟩ := bcell hb1
    have hz : w.heap.size + 1 < w1.heap.size := by have := hb1.size; simp at this; omega
    go_wp2
    have HB := hb1
    go_ret2
    exact ⟨rfl, ((((Below.refl _ _).alloc (Nat.le_refl _) _).alloc (by simp) _).trans (HB.mono (by simp; omega)))⟩
  · have HR := Lib.hid h
    have HR' := Lib.hid h'
    clear h h'
    go_enter Tryz.func111, Tryz.ntmps111
    go_wp2_with fail
    refine (right_calls _ _ _ _).mono ?_
    rintro e w1 ⟨rfl, hb1⟩
    rw [HR.out]
    obtain ⟨hc, hf⟩ := bcell hb1
    have hz : w.heap.size + 1 < w1.heap.size := by have := hb1.size; simp at this; omega
    go_wp2_with fail
    refine (right_calls _ _ _ _).mono ?_
    rintro e w2 ⟨rfl, hb2'⟩
    rw [HR'.out]
    have hb2 := bnext hb1 hb2'
    clear hc hf hz
    obtain ⟨hc, hf⟩ := bcell hb2
    have hz : w.heap.size + 1 < w2.heap.size := by have := hb2.size; simp at this; omega
    go_wp2
    have HB := hb2
    go_ret2
    exact ⟨rfl, ((((Below.refl _ _).alloc (Nat.le_refl _) _).alloc (by simp) _).trans (HB.mono (by simp; omega)))⟩

end Go.Proofs.YtdnfaoanaehjhaaGreatDoor.Nm

/- The variables of a statement's function that are alive: three cells each, in whatever world comes behind. -/
namespace Go.Proofs.YtdnfaoanaehjhaaGreatDoor.Nm
open Go.RowKit

structure C3 (W : World) (b : Nat) (x y z : Value) : Prop where
  c0 : W.cell? ⟨b, 0, none⟩ = some x
  c1 : W.cell? ⟨b, 1, none⟩ = some y
  c2 : W.cell? ⟨b, 2, none⟩ = some z
  lt : b < W.heap.size
theorem C3.on {W W' : World} {b : Nat} {x y z : Value} (h : C3 W b x y z) (hb : Below W.heap.size W W') : C3 W' b x y z :=
  ⟨(hb.cell (p := ⟨b, 0, none⟩) h.lt).trans h.c0, (hb.cell (p := ⟨b, 1, none⟩) h.lt).trans h.c1, (hb.cell (p := ⟨b, 2, none⟩) h.lt).trans h.c2, Nat.lt_of_lt_of_le h.lt hb.size⟩
theorem C3.alloc {W : World} {b : Nat} {x y z : Value} (h : C3 W b x y z) (o : Obj) : C3 (W.alloc o) b x y z := h.on (box_below W o)
theorem C3.drewN {W : World} {b : Nat} {x y z : Value} (h : C3 W b x y z) (n : Nat) : C3 (W.drewN n) b x y z := h.on (below_drewN (Below.refl _ _) n)
theorem C3.fresh (W : World) (x y z : Value) (t : TypeId) : C3 (W.alloc (.cells #[x, y, z] t)) W.heap.size x y z :=
  ⟨by rw [World.cell?_alloc_at _ _ _ _ rfl]; rfl, by rw [World.cell?_alloc_at _ _ _ _ rfl]; rfl, by rw [World.cell?_alloc_at _ _ _ _ rfl]; rfl, by simp⟩
theorem bbox {w w1 w2 : World} {o : Obj} (h1 : Below w.heap.size w w1) (h2 : Below (w1.alloc o).heap.size (w1.alloc o) w2) : Below w.heap.size w w2 := h1.trans ((one_box h2).mono h1.size)

theorem wrong_of {v s : Int} {d : Bool} {v' s' : Int} {d' : Bool} (h : rightZ v s d = false ∨ (rightZ v s d = true ∧ rightZ v' s' d' = false)) : (rightZ v s d && rightZ v' s' d') = false := by
  rcases h with h | ⟨h, h'⟩
  · rw [h]; rfl
  · rw [h, h']; rfl
theorem right_two (v s : Int) (d : Bool) (v' s' : Int) (d' : Bool) : (rightZ v s d = false ∨ (rightZ v s d = true ∧ rightZ v' s' d' = false)) ∨ (rightZ v s d = true ∧ rightZ v' s' d' = true) := by
  cases rightZ v s d <;> cases rightZ v' s' d' <;> simp

end Go.Proofs.YtdnfaoanaehjhaaGreatDoor.Nm

/- The statements' own helpers: is an answer the document's; which reckoning. -/
namespace Go.Proofs.YtdnfaoanaehjhaaGreatDoor.Nm
open Go.RowKit

end Go.Proofs.YtdnfaoanaehjhaaGreatDoor.Nm
