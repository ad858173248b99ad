/- Right triples, right patterns, and a triple's variables: the walk of the statement's function, for every triple. -/
import Derived.Test.YthdhoaihmlodjaaLawChecksYY
import Derived.Test.YthdhoaihmlodjaaRefTrip
import Derived.Test.YthdhoaihmlodjaaRefVars2
import Derived.Test.YthdhoaihmlodjaaRefSame
namespace Go.Proofs.Ythdhoaihmlodjaa
open Go.RowKit

set_option maxRecDepth 100000 in
set_option maxHeartbeats 8000000 in
theorem triplesChecks_yesno (t : TripL) (ht : t.ok) (w : World) (hT : tripB t = true) (hP : patB t = false) :
    Calls Try.prog 3 #[t.v] w fun e w' => e = .returned (.bool true) ∧ Below w.heap.size w w' := by
  have HT := Lib.hid hT
  have HP := Lib.hid hP
  have HOK := Lib.hid ht
  have HL := Lib.hid (varsL_length t)
  clear hT hP ht
  obtain ⟨⟨k, x, y, z⟩, ⟨k', x', y', z'⟩, ⟨k'', x'', y'', z''⟩⟩ := t
  simp only [TripL.v]
  go_enter Try.func3, Try.ntmps3
  go_wp2_with fail
  obtain ⟨W0, hW0⟩ : ∃ W0, w.alloc (.cells #[.int .i64 k, .string (bs x), .string (bs y), .string (bs z), .int .i64 k', .string (bs x'), .string (bs y'), .string (bs z'), .int .i64 k'', .string (bs x''), .string (bs y''), .string (bs z'')] 25) = W0 := ⟨_, rfl⟩
  rw [hW0]
  have c0 : W0.cell? ⟨w.heap.size, 0, none⟩ = some (.int .i64 k) := by rw [← hW0]; simp [go_sem]
  have c1 : W0.cell? ⟨w.heap.size, 1, none⟩ = some (.string (bs x)) := by rw [← hW0]; simp [go_sem]
  have c2 : W0.cell? ⟨w.heap.size, 2, none⟩ = some (.string (bs y)) := by rw [← hW0]; simp [go_sem]
  have c3 : W0.cell? ⟨w.heap.size, 3, none⟩ = some (.string (bs z)) := by rw [← hW0]; simp [go_sem]
  have c4 : W0.cell? ⟨w.heap.size, 4, none⟩ = some (.int .i64 k') := by rw [← hW0]; simp [go_sem]
  have c5 : W0.cell? ⟨w.heap.size, 5, none⟩ = some (.string (bs x')) := by rw [← hW0]; simp [go_sem]
  have c6 : W0.cell? ⟨w.heap.size, 6, none⟩ = some (.string (bs y')) := by rw [← hW0]; simp [go_sem]
  have c7 : W0.cell? ⟨w.heap.size, 7, none⟩ = some (.string (bs z')) := by rw [← hW0]; simp [go_sem]
  have c8 : W0.cell? ⟨w.heap.size, 8, none⟩ = some (.int .i64 k'') := by rw [← hW0]; simp [go_sem]
  have c9 : W0.cell? ⟨w.heap.size, 9, none⟩ = some (.string (bs x'')) := by rw [← hW0]; simp [go_sem]
  have c10 : W0.cell? ⟨w.heap.size, 10, none⟩ = some (.string (bs y'')) := by rw [← hW0]; simp [go_sem]
  have c11 : W0.cell? ⟨w.heap.size, 11, none⟩ = some (.string (bs z'')) := by rw [← hW0]; simp [go_sem]
  have hb0 : Below w.heap.size w W0 := by rw [← hW0]; exact box_below _ _
  have hx := Lib.hid (show w.heap.size < W0.heap.size by rw [← hW0]; simp)
  clear hW0
  have HC0 := Lib.hid c0
  have HC1 := Lib.hid c1
  have HC2 := Lib.hid c2
  have HC3 := Lib.hid c3
  have HC4 := Lib.hid c4
  have HC5 := Lib.hid c5
  have HC6 := Lib.hid c6
  have HC7 := Lib.hid c7
  have HC8 := Lib.hid c8
  have HC9 := Lib.hid c9
  have HC10 := Lib.hid c10
  have HC11 := Lib.hid c11
  refine (tCheck_calls ⟨⟨k, x, y, z⟩, ⟨k', x', y', z'⟩, ⟨k'', x'', y'', z''⟩⟩ HOK.out _).mono ?_
  rintro e w1 ⟨rfl, hbv⟩
  rw [HT.out]
  simp only [formZ]
  have hbn := hbv
  clear hbv c0 c1 c2 c3 c4 c5 c6 c7 c8 c9 c10 c11
  have c0 := keptB HC0.out hbn hx.out
  have c1 := keptB HC1.out hbn hx.out
  have c2 := keptB HC2.out hbn hx.out
  have c3 := keptB HC3.out hbn hx.out
  have c4 := keptB HC4.out hbn hx.out
  have c5 := keptB HC5.out hbn hx.out
  have c6 := keptB HC6.out hbn hx.out
  have c7 := keptB HC7.out hbn hx.out
  have c8 := keptB HC8.out hbn hx.out
  have c9 := keptB HC9.out hbn hx.out
  have c10 := keptB HC10.out hbn hx.out
  have c11 := keptB HC11.out hbn hx.out
  go_wp2_with fail
  refine (tPattern_calls ⟨⟨k, x, y, z⟩, ⟨k', x', y', z'⟩, ⟨k'', x'', y'', z''⟩⟩ HOK.out _).mono ?_
  rintro e w2 ⟨rfl, hbv⟩
  rw [HP.out]
  simp only [formZ]
  replace hbn := first_below hbn hbv
  clear hbv c0 c1 c2 c3 c4 c5 c6 c7 c8 c9 c10 c11
  have c0 := keptB HC0.out hbn hx.out
  have c1 := keptB HC1.out hbn hx.out
  have c2 := keptB HC2.out hbn hx.out
  have c3 := keptB HC3.out hbn hx.out
  have c4 := keptB HC4.out hbn hx.out
  have c5 := keptB HC5.out hbn hx.out
  have c6 := keptB HC6.out hbn hx.out
  have c7 := keptB HC7.out hbn hx.out
  have c8 := keptB HC8.out hbn hx.out
  have c9 := keptB HC9.out hbn hx.out
  have c10 := keptB HC10.out hbn hx.out
  have c11 := keptB HC11.out hbn hx.out
  go_wp2_with fail
  refine (rTrip_calls ⟨⟨k, x, y, z⟩, ⟨k', x', y', z'⟩, ⟨k'', x'', y'', z''⟩⟩ HOK.out _).mono ?_
  rintro e w3 ⟨rfl, hbv⟩
  rw [HT.out]
  replace hbn := first_below hbn hbv
  clear hbv c0 c1 c2 c3 c4 c5 c6 c7 c8 c9 c10 c11
  have c0 := keptB HC0.out hbn hx.out
  have c1 := keptB HC1.out hbn hx.out
  have c2 := keptB HC2.out hbn hx.out
  have c3 := keptB HC3.out hbn hx.out
  have c4 := keptB HC4.out hbn hx.out
  have c5 := keptB HC5.out hbn hx.out
  have c6 := keptB HC6.out hbn hx.out
  have c7 := keptB HC7.out hbn hx.out
  have c8 := keptB HC8.out hbn hx.out
  have c9 := keptB HC9.out hbn hx.out
  have c10 := keptB HC10.out hbn hx.out
  have c11 := keptB HC11.out hbn hx.out
  go_wp2_with fail
  refine (rPat_calls ⟨⟨k, x, y, z⟩, ⟨k', x', y', z'⟩, ⟨k'', x'', y'', z''⟩⟩ HOK.out _).mono ?_
  rintro e w4 ⟨rfl, hbv⟩
  rw [HP.out]
  replace hbn := first_below hbn hbv
  clear hbv c0 c1 c2 c3 c4 c5 c6 c7 c8 c9 c10 c11
  have c0 := keptB HC0.out hbn hx.out
  have c1 := keptB HC1.out hbn hx.out
  have c2 := keptB HC2.out hbn hx.out
  have c3 := keptB HC3.out hbn hx.out
  have c4 := keptB HC4.out hbn hx.out
  have c5 := keptB HC5.out hbn hx.out
  have c6 := keptB HC6.out hbn hx.out
  have c7 := keptB HC7.out hbn hx.out
  have c8 := keptB HC8.out hbn hx.out
  have c9 := keptB HC9.out hbn hx.out
  have c10 := keptB HC10.out hbn hx.out
  have c11 := keptB HC11.out hbn hx.out
  go_wp2_with fail
  refine wp_region_held_drew (S := (fun W => W.cell? ⟨w.heap.size, 0, none⟩ = some (.int .i64 k) ∧ W.cell? ⟨w.heap.size, 1, none⟩ = some (.string (bs x)) ∧ W.cell? ⟨w.heap.size, 2, none⟩ = some (.string (bs y)) ∧ W.cell? ⟨w.heap.size, 3, none⟩ = some (.string (bs z)) ∧ W.cell? ⟨w.heap.size, 4, none⟩ = some (.int .i64 k') ∧ W.cell? ⟨w.heap.size, 5, none⟩ = some (.string (bs x')) ∧ W.cell? ⟨w.heap.size, 6, none⟩ = some (.string (bs y')) ∧ W.cell? ⟨w.heap.size, 7, none⟩ = some (.string (bs z')) ∧ W.cell? ⟨w.heap.size, 8, none⟩ = some (.int .i64 k'') ∧ W.cell? ⟨w.heap.size, 9, none⟩ = some (.string (bs x'')) ∧ W.cell? ⟨w.heap.size, 10, none⟩ = some (.string (bs y'')) ∧ W.cell? ⟨w.heap.size, 11, none⟩ = some (.string (bs z'')))) (by kernel_rfl) ?_ (fun hHeld => ?_)
  · (try dsimp only); go_keep
  refine wpAnyH_take (i := 0) (v := ?_) rfl (by kernel_rfl) (by kernel_rfl) (by kernel_rfl) (fun _ _ _ h => h) (Or.inl ⟨by kernel_rfl, ?_⟩) (by assumption) ?_
  rotate_left
  · (intro ww hSw; (try dsimp only at hSw); go_simp); (try with_reducible rfl)
  (try simp only [Act.put])
  refine wpAnyH_take (i := 1) (v := ?_) rfl (by kernel_rfl) (by kernel_rfl) (by kernel_rfl) (fun _ _ _ h => h) (Or.inl ⟨by kernel_rfl, ?_⟩) (by assumption) ?_
  rotate_left
  · (intro ww hSw; (try dsimp only at hSw); go_simp); (try with_reducible rfl)
  (try simp only [Act.put])
  refine wpAnyH_take (i := 2) (v := ?_) rfl (by kernel_rfl) (by kernel_rfl) (by kernel_rfl) (fun _ _ _ h => h) (Or.inl ⟨by kernel_rfl, ?_⟩) (by assumption) ?_
  rotate_left
  · (intro ww hSw; (try dsimp only at hSw); go_simp); (try with_reducible rfl)
  (try simp only [Act.put])
  refine wpAnyH_take (i := 3) (v := undef) rfl (by kernel_rfl) (by kernel_rfl) (by kernel_rfl) (fun _ _ _ h => h) (Or.inr ⟨by kernel_rfl, rfl⟩) (by assumption) ?_
  (try simp only [Act.put])
  refine wpAnyH_take (i := 4) (v := undef) rfl (by kernel_rfl) (by kernel_rfl) (by kernel_rfl) (fun _ _ _ h => h) (Or.inr ⟨by kernel_rfl, rfl⟩) (by assumption) ?_
  (try simp only [Act.put])
  refine wpAnyH_take (i := 5) (v := ?_) rfl (by kernel_rfl) (by kernel_rfl) (by kernel_rfl) (fun _ _ _ h => h) (Or.inl ⟨by kernel_rfl, ?_⟩) (by assumption) ?_
  rotate_left
  · (intro ww hSw; (try dsimp only at hSw); go_simp); (try with_reducible rfl)
  (try simp only [Act.put])
  refine wpAnyH_take (i := 6) (v := ?_) rfl (by kernel_rfl) (by kernel_rfl) (by kernel_rfl) (fun _ _ _ h => h) (Or.inl ⟨by kernel_rfl, ?_⟩) (by assumption) ?_
  rotate_left
  · (intro ww hSw; (try dsimp only at hSw); go_simp); (try with_reducible rfl)
  (try simp only [Act.put])
  refine wpAnyH_take (i := 7) (v := ?_) rfl (by kernel_rfl) (by kernel_rfl) (by kernel_rfl) (fun _ _ _ h => h) (Or.inl ⟨by kernel_rfl, ?_⟩) (by assumption) ?_
  rotate_left
  · (intro ww hSw; (try dsimp only at hSw); go_simp); (try with_reducible rfl)
  (try simp only [Act.put])
  refine wpAnyH_take (i := 8) (v := ?_) rfl (by kernel_rfl) (by kernel_rfl) (by kernel_rfl) (fun _ _ _ h => h) (Or.inl ⟨by kernel_rfl, ?_⟩) (by assumption) ?_
  rotate_left
  · (intro ww hSw; (try dsimp only at hSw); go_simp); (try with_reducible rfl)
  (try simp only [Act.put])
  refine wpAnyH_take (i := 9) (v := ?_) rfl (by kernel_rfl) (by kernel_rfl) (by kernel_rfl) (fun _ _ _ h => h) (Or.inl ⟨by kernel_rfl, ?_⟩) (by assumption) ?_
  rotate_left
  · (intro ww hSw; (try dsimp only at hSw); go_simp); (try with_reducible rfl)
  (try simp only [Act.put])
  refine wpAnyH_take (i := 10) (v := ?_) rfl (by kernel_rfl) (by kernel_rfl) (by kernel_rfl) (fun _ _ _ h => h) (Or.inl ⟨by kernel_rfl, ?_⟩) (by assumption) ?_
  rotate_left
  · (intro ww hSw; (try dsimp only at hSw); go_simp); (try with_reducible rfl)
  (try simp only [Act.put])
  refine wpAnyH_take (i := 11) (v := ?_) rfl (by kernel_rfl) (by kernel_rfl) (by kernel_rfl) (fun _ _ _ h => h) (Or.inl ⟨by kernel_rfl, ?_⟩) (by assumption) ?_
  rotate_left
  · (intro ww hSw; (try dsimp only at hSw); go_simp); (try with_reducible rfl)
  (try simp only [Act.put])
  refine wpAnyH_take (i := 12) (v := ?_) rfl (by kernel_rfl) (by kernel_rfl) (by kernel_rfl) (fun _ _ _ h => h) (Or.inl ⟨by kernel_rfl, ?_⟩) (by assumption) ?_
  rotate_left
  · (intro ww hSw; (try dsimp only at hSw); go_simp); (try with_reducible rfl)
  (try simp only [Act.put])
  refine wpAnyH_take (i := 13) (v := ?_) rfl (by kernel_rfl) (by kernel_rfl) (by kernel_rfl) (fun _ _ _ h => h) (Or.inl ⟨by kernel_rfl, ?_⟩) (by assumption) ?_
  rotate_left
  · (intro ww hSw; (try dsimp only at hSw); go_simp); (try with_reducible rfl)
  (try simp only [Act.put])
  refine wpAnyH_take (i := 14) (v := ?_) rfl (by kernel_rfl) (by kernel_rfl) (by kernel_rfl) (fun _ _ _ h => h) (Or.inl ⟨by kernel_rfl, ?_⟩) (by assumption) ?_
  rotate_left
  · (intro ww hSw; (try dsimp only at hSw); go_simp); (try with_reducible rfl)
  (try simp only [Act.put])
  refine wpAnyH_take (i := 15) (v := ?_) rfl (by kernel_rfl) (by kernel_rfl) (by kernel_rfl) (fun _ _ _ h => h) (Or.inl ⟨by kernel_rfl, ?_⟩) (by assumption) ?_
  rotate_left
  · (intro ww hSw; (try dsimp only at hSw); go_simp); (try with_reducible rfl)
  (try simp only [Act.put])
  refine wpAnyH_take (i := 17) (v := ?_) rfl (by kernel_rfl) (by kernel_rfl) (by kernel_rfl) (fun _ _ _ h => h) (Or.inl ⟨by kernel_rfl, ?_⟩) (by assumption) ?_
  rotate_left
  · (intro ww hSw; (try dsimp only at hSw); go_simp); (try with_reducible rfl)
  (try simp only [Act.put])
  refine wpAnyH_ready (rs := [16]) (by kernel_rfl) (by simp) ?_
  refine AllReadyH.cons rfl (fun K hK => ?_) AllReadyH.nil
  go_simp
  refine (Vars_calls ⟨⟨k, x, y, z⟩, ⟨k', x', y', z'⟩, ⟨k'', x'', y'', z''⟩⟩ _).mono ?_
  rintro e wv ⟨v1, rfl, hown1, hbv⟩
  have rd1 := reads_of hown1
  clear hown1
  (try replace hbv := from_drew hbv)
  replace hbn := first_below hbn hbv
  clear hbv c0 c1 c2 c3 c4 c5 c6 c7 c8 c9 c10 c11
  have c0 := keptB HC0.out hbn hx.out
  have c1 := keptB HC1.out hbn hx.out
  have c2 := keptB HC2.out hbn hx.out
  have c3 := keptB HC3.out hbn hx.out
  have c4 := keptB HC4.out hbn hx.out
  have c5 := keptB HC5.out hbn hx.out
  have c6 := keptB HC6.out hbn hx.out
  have c7 := keptB HC7.out hbn hx.out
  have c8 := keptB HC8.out hbn hx.out
  have c9 := keptB HC9.out hbn hx.out
  have c10 := keptB HC10.out hbn hx.out
  have c11 := keptB HC11.out hbn hx.out
  go_wp2_with fail
  refine hK.out _ _ ?_ (fun hHeld => ?_)
  · (try dsimp only); go_keep
  clear hK K
  (try simp only [Act.put, List.setIfInBounds_toArray, List.set_cons_zero, List.set_cons_succ])
  refine wpAnyH_ready (rs := [18]) (by kernel_rfl) (by simp) ?_
  refine AllReadyH.cons rfl (fun K hK => ?_) AllReadyH.nil
  go_simp
  refine (rVars_calls ⟨⟨k, x, y, z⟩, ⟨k', x', y', z'⟩, ⟨k'', x'', y'', z''⟩⟩ _).mono ?_
  rintro e wr ⟨v2, rfl, hown2, hbv⟩
  have rd2 := reads_of hown2
  clear hown2
  (try replace hbv := from_drew hbv)
  replace rd1 := rd1.on hbv
  (try replace hbv := from_drew hbv)
  replace hbn := first_below hbn hbv
  clear hbv c0 c1 c2 c3 c4 c5 c6 c7 c8 c9 c10 c11
  have c0 := keptB HC0.out hbn hx.out
  have c1 := keptB HC1.out hbn hx.out
  have c2 := keptB HC2.out hbn hx.out
  have c3 := keptB HC3.out hbn hx.out
  have c4 := keptB HC4.out hbn hx.out
  have c5 := keptB HC5.out hbn hx.out
  have c6 := keptB HC6.out hbn hx.out
  have c7 := keptB HC7.out hbn hx.out
  have c8 := keptB HC8.out hbn hx.out
  have c9 := keptB HC9.out hbn hx.out
  have c10 := keptB HC10.out hbn hx.out
  have c11 := keptB HC11.out hbn hx.out
  go_wp2_with fail
  refine hK.out _ _ ?_ (fun hHeld => ?_)
  · (try dsimp only); go_keep
  clear hK K
  (try simp only [Act.put, List.setIfInBounds_toArray, List.set_cons_zero, List.set_cons_succ])
  refine wpAnyH_ready (rs := [19]) (by kernel_rfl) (by simp) ?_
  refine AllReadyH.cons rfl (fun K hK => ?_) AllReadyH.nil
  go_simp
  refine (SameTexts_calls (varsL ⟨⟨k, x, y, z⟩, ⟨k', x', y', z'⟩, ⟨k'', x'', y'', z''⟩⟩) v1 v2 _ HL.out (by first | exact rd1 | exact readsDrew rd1) (by first | exact rd2 | exact readsDrew rd2)).mono ?_
  rintro e ws ⟨rfl, nn, hws⟩
  have hbv : Below wr.heap.size wr ws := by rw [hws]; first | exact on_drewN (Below.refl _ _) _ | exact on_drewN (Below.refl _ _).drew _
  clear hws rd1 rd2
  (try replace hbv := from_drew hbv)
  replace hbn := first_below hbn hbv
  clear hbv c0 c1 c2 c3 c4 c5 c6 c7 c8 c9 c10 c11
  have c0 := keptB HC0.out hbn hx.out
  have c1 := keptB HC1.out hbn hx.out
  have c2 := keptB HC2.out hbn hx.out
  have c3 := keptB HC3.out hbn hx.out
  have c4 := keptB HC4.out hbn hx.out
  have c5 := keptB HC5.out hbn hx.out
  have c6 := keptB HC6.out hbn hx.out
  have c7 := keptB HC7.out hbn hx.out
  have c8 := keptB HC8.out hbn hx.out
  have c9 := keptB HC9.out hbn hx.out
  have c10 := keptB HC10.out hbn hx.out
  have c11 := keptB HC11.out hbn hx.out
  go_wp2_with fail
  refine hK.out _ _ ?_ (fun hHeld => ?_)
  · (try dsimp only); go_keep
  clear hK K
  (try simp only [Act.put, List.setIfInBounds_toArray, List.set_cons_zero, List.set_cons_succ])
  refine wpAnyH_take (i := 20) (v := ?_) rfl (by kernel_rfl) (by kernel_rfl) (by kernel_rfl) (fun _ _ _ h => h) (Or.inl ⟨by kernel_rfl, ?_⟩) (by assumption) ?_
  rotate_left
  · (intro ww hSw; (try dsimp only at hSw); go_simp); (try with_reducible rfl)
  (try simp only [Act.put])
  refine wpAnyH_take (i := 21) (v := ?_) rfl (by kernel_rfl) (by kernel_rfl) (by kernel_rfl) (fun _ _ _ h => h) (Or.inl ⟨by kernel_rfl, ?_⟩) (by assumption) ?_
  rotate_left
  · (intro ww hSw; (try dsimp only at hSw); go_simp); (try with_reducible rfl)
  (try simp only [Act.put])
  refine wpAnyH_ready (rs := [22]) (by kernel_rfl) (by simp) ?_
  refine AllReadyH.cons rfl (fun K hK => ?_) AllReadyH.nil
  go_simp
  refine (awake_calls _).mono ?_
  rintro e wa ⟨rfl, hbv⟩
  (try replace hbv := from_drew hbv)
  replace hbn := first_below hbn hbv
  clear hbv c0 c1 c2 c3 c4 c5 c6 c7 c8 c9 c10 c11
  have c0 := keptB HC0.out hbn hx.out
  have c1 := keptB HC1.out hbn hx.out
  have c2 := keptB HC2.out hbn hx.out
  have c3 := keptB HC3.out hbn hx.out
  have c4 := keptB HC4.out hbn hx.out
  have c5 := keptB HC5.out hbn hx.out
  have c6 := keptB HC6.out hbn hx.out
  have c7 := keptB HC7.out hbn hx.out
  have c8 := keptB HC8.out hbn hx.out
  have c9 := keptB HC9.out hbn hx.out
  have c10 := keptB HC10.out hbn hx.out
  have c11 := keptB HC11.out hbn hx.out
  go_wp2_with fail
  refine hK.out _ _ ?_ (fun hHeld => ?_)
  · (try dsimp only); go_keep
  clear hK K
  (try simp only [Act.put, List.setIfInBounds_toArray, List.set_cons_zero, List.set_cons_succ])
  refine wpAnyH_take (i := 23) (v := ?_) rfl (by kernel_rfl) (by kernel_rfl) (by kernel_rfl) (fun _ _ _ h => h) (Or.inl ⟨by kernel_rfl, ?_⟩) (by assumption) ?_
  rotate_left
  · (intro ww hSw; (try dsimp only at hSw); go_simp); (try with_reducible rfl)
  (try simp only [Act.put])
  refine wpAnyH_take (i := 24) (oi := ⟨some 2, _, _, _, _, _⟩) (v := ?_) rfl (by kernel_rfl) (by kernel_rfl) (by kernel_rfl) (fun _ _ _ h => h) (Or.inl ⟨by kernel_rfl, ?_⟩) (by assumption) ?_
  rotate_left
  · (intro ww hSw; (try dsimp only at hSw); go_simp); (try with_reducible rfl)
  (try simp only [Act.put])
  refine wpAnyH_done (by kernel_rfl) ?_ _
  go_wp2
  go_ret
  exact ⟨by simp, by first | exact hb0.trans (hbn.mono hb0.size) | exact hb0.trans (hbn.mono hb0.size).drew⟩

end Go.Proofs.Ythdhoaihmlodjaa
