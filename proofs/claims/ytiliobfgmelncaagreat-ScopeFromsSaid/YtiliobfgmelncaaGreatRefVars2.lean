/- The names of a triple's variables, by the document's own answer; are two lists of texts the same? (the second part) -/
import Derived.Test.YtiliobfgmelncaaGreatRefVars
import Derived.Deep.RegionHeld3
namespace Go.Proofs.YtiliobfgmelncaaGreat
open Go.RowKit

def MoreT (B : Nat) (W0 : World) (M : List (List UInt8)) (e : Ending) (w' : World) : Prop :=
  ∃ v, e = .returned v ∧ w'.ownsRow B 9 1 v M.length (textCells M) ∧ Below B W0 w'

set_option maxHeartbeats 1000000 in
theorem more_calls (L : List (List UInt8)) (k : Int) (x y z : List UInt8) (B : Nat) (W0 : World) (v : Value) (w : World) (hl : L.length ≤ 2) (hB : B ≤ W0.heap.size) (hbw : Below B W0 w) (hown : w.ownsRow B 9 1 v L.length (textCells L)) :
    Calls Tryz.prog 99 #[v, .agg #[.int .i64 k, .string (bs x), .string (bs y), .string (bs z)]] w (MoreT B W0 (moreL L ⟨k, x, y, z⟩)) := by
  obtain ⟨i0, hi, hz0, hz1, hz2⟩ := info_parts info_string
  have hB2 : B ≤ w.heap.size := Nat.le_trans hB hbw.size
  by_cases h4 : k = 4
  · have g4 : (k != 4) = false := by simp [h4]
    have hrd := (reads_of (hown.alloc (.cells #[.int .i64 k, .string (bs x), .string (bs y), .string (bs z)] 51)))
    by_cases hin : x ∈ L
    · have HM := Lib.hid (show moreL L ⟨k, x, y, z⟩ = L from if_neg (fun c => c.2 hin))
      have HC := Lib.hid (show decide (x ∈ L) = true from decide_eq_true hin)
      clear h4 hin
      go_enter Tryz.func99, Tryz.ntmps99
      go_wp2_with fail
      refine (In_calls L x _ _ (by omega) hrd).mono ?_
      rintro e wn ⟨rfl, hwn⟩
      subst hwn
      rw [HC.out]
      go_wp2
      refine bodyPost_ret (v := v) (by simp [results, Tryz.results99, go_sem]) rfl ⟨v, rfl, by rw [HM.out]; exact hown.alloc _, hbw.alloc hB2 _⟩
    · have HM := Lib.hid (show moreL L ⟨k, x, y, z⟩ = L ++ [x] from if_pos ⟨h4, hin⟩)
      have HC := Lib.hid (show decide (x ∈ L) = false from decide_eq_false hin)
      have HLen := Lib.hid (textCells_length L)
      clear h4 hin
      go_enter Tryz.func99, Tryz.ntmps99
      go_wp2_with fail
      refine (In_calls L x _ _ (by omega) hrd).mono ?_
      rintro e wn ⟨rfl, hwn⟩
      subst hwn
      rw [HC.out]
      clear hrd
      go_wp2_with (at_builtin; go_must (refine wpList_append_own _ rfl (.tmp 15) (.tmp 18) 23 rfl B 9 i0 (.string ⟨#[]⟩) 1 16 Tryz.underlying23 hi hz0 hz1 hz2 rfl (by decide) _ _ _ rfl ((hown.alloc _).alloc _) ⟨w.heap.size + 1, 0, none⟩ 1 1 [.string (bs x)] rfl rfl (fun j u hu => by (cases j with | zero => (simp at hu; subst hu; simp [go_sem]) | succ j => simp at hu)) (by intro u hu; simp at hu; subst hu; rfl) (by unfold maxLen; omega) (by omega) (by simp; omega) ?_; intro v3 w3 hown3 hgrow3 hnil3; have HN3 := Lib.hid hnil3; clear hnil3; have HO3 := Lib.hid hown3; clear hown3; have HG3 := Lib.hid hgrow3; clear hgrow3))
      refine bodyPost_ret (v := v3) (by simp [results, Tryz.results99, go_sem]) rfl ⟨v3, rfl, by rw [HM.out, textCells_append, List.length_append]; exact HO3.out, ?_⟩
      exact ((hbw.alloc hB2 _).alloc (by simp; omega) _).grown HG3.out (by simp; omega) (fun k hk => (hown.lt k hk).1)
  · have g4 : (k != 4) = true := by simp [h4]
    have HM := Lib.hid (show moreL L ⟨k, x, y, z⟩ = L from if_neg (fun c => h4 c.1))
    clear h4
    go_enter Tryz.func99, Tryz.ntmps99
    go_wp2
    refine bodyPost_ret (v := v) (by simp [results, Tryz.results99, go_sem]) rfl ⟨v, rfl, by rw [HM.out]; exact hown.alloc _, hbw.alloc hB2 _⟩

theorem drewRow {w : World} {B size n : Nat} {e : TypeId} {v : Value} {xs : List Value} (h : w.ownsRow B e size v n xs) : w.drew.ownsRow B e size v n xs := h
theorem rowBase {w : World} {B B2 size n : Nat} {e : TypeId} {v : Value} {xs : List Value} (h : w.ownsRow B e size v n xs) (hb : B2 ≤ B) : w.ownsRow B2 e size v n xs := by
  refine ⟨h.1, ?_⟩
  rcases h.2 with h0 | ⟨g, cap, cur, hv, hg, r⟩
  · exact .inl h0
  · exact .inr ⟨g, cap, cur, hv, Nat.le_trans hb hg, r⟩
theorem keptB {W W' : World} {B b o : Nat} {v : Value} (h : W.cell? ⟨b, o, none⟩ = some v) (hb : Below B W W') (hp : b < B) : W'.cell? ⟨b, o, none⟩ = some v := by rw [hb.cell (p := ⟨b, o, none⟩) hp]; exact h

set_option maxRecDepth 100000 in
set_option maxHeartbeats 2000000 in
theorem rVars_calls (t : TripL) (w : World) : Calls Tryz.prog 81 #[t.v] w (VarsT w t) := by
  obtain ⟨⟨k, x, y, z⟩, ⟨k', x', y', z'⟩, ⟨k'', x'', y'', z''⟩⟩ := t
  simp only [TripL.v]
  go_enter Tryz.func81, Tryz.ntmps81
  go_wp2_with fail
  obtain ⟨W0, hW0⟩ : ∃ W0, w.alloc (.cells #[.int .i64 k, .string (bs x), .string (bs y), .string (bs z), .int .i64 k', .string (bs x'), .string (bs y'), .string (bs z'), .int .i64 k'', .string (bs x''), .string (bs y''), .string (bs z'')] 55) = W0 := ⟨_, rfl⟩
  rw [hW0]
  have hz0 : W0.heap.size = w.heap.size + 1 := by rw [← hW0]; simp
  have hb0 : Below w.heap.size w W0 := by rw [← hW0]; exact box_below _ _
  have c0 : W0.cell? ⟨w.heap.size, 0, none⟩ = some (.int .i64 k) := by rw [← hW0]; simp [go_sem]
  have c1 : W0.cell? ⟨w.heap.size, 1, none⟩ = some (.string (bs x)) := by rw [← hW0]; simp [go_sem]
  have c2 : W0.cell? ⟨w.heap.size, 2, none⟩ = some (.string (bs y)) := by rw [← hW0]; simp [go_sem]
  have c3 : W0.cell? ⟨w.heap.size, 3, none⟩ = some (.string (bs z)) := by rw [← hW0]; simp [go_sem]
  have c4 : W0.cell? ⟨w.heap.size, 4, none⟩ = some (.int .i64 k') := by rw [← hW0]; simp [go_sem]
  have c5 : W0.cell? ⟨w.heap.size, 5, none⟩ = some (.string (bs x')) := by rw [← hW0]; simp [go_sem]
  have c6 : W0.cell? ⟨w.heap.size, 6, none⟩ = some (.string (bs y')) := by rw [← hW0]; simp [go_sem]
  have c7 : W0.cell? ⟨w.heap.size, 7, none⟩ = some (.string (bs z')) := by rw [← hW0]; simp [go_sem]
  have c8 : W0.cell? ⟨w.heap.size, 8, none⟩ = some (.int .i64 k'') := by rw [← hW0]; simp [go_sem]
  have c9 : W0.cell? ⟨w.heap.size, 9, none⟩ = some (.string (bs x'')) := by rw [← hW0]; simp [go_sem]
  have c10 : W0.cell? ⟨w.heap.size, 10, none⟩ = some (.string (bs y'')) := by rw [← hW0]; simp [go_sem]
  have c11 : W0.cell? ⟨w.heap.size, 11, none⟩ = some (.string (bs z'')) := by rw [← hW0]; simp [go_sem]
  clear hW0
  have HC0 := Lib.hid c0
  have HC1 := Lib.hid c1
  have HC2 := Lib.hid c2
  have HC3 := Lib.hid c3
  have HC4 := Lib.hid c4
  have HC5 := Lib.hid c5
  have HC6 := Lib.hid c6
  have HC7 := Lib.hid c7
  have HC8 := Lib.hid c8
  have HC9 := Lib.hid c9
  have HC10 := Lib.hid c10
  have HC11 := Lib.hid c11
  have hl1 := Lib.hid (show (moreL [] ⟨k, x, y, z⟩).length ≤ 1 by have := moreL_length [] ⟨k, x, y, z⟩; simpa using this)
  have hl2 := Lib.hid (show (moreL (moreL [] ⟨k, x, y, z⟩) ⟨k', x', y', z'⟩).length ≤ 2 by have := moreL_length (moreL [] ⟨k, x, y, z⟩) ⟨k', x', y', z'⟩; have := hl1.out; omega)
  refine wp_region_held_drew (S := (fun W => W.cell? ⟨w.heap.size, 0, none⟩ = some (.int .i64 k) ∧ W.cell? ⟨w.heap.size, 1, none⟩ = some (.string (bs x)) ∧ W.cell? ⟨w.heap.size, 2, none⟩ = some (.string (bs y)) ∧ W.cell? ⟨w.heap.size, 3, none⟩ = some (.string (bs z)) ∧ W.cell? ⟨w.heap.size, 4, none⟩ = some (.int .i64 k') ∧ W.cell? ⟨w.heap.size, 5, none⟩ = some (.string (bs x')) ∧ W.cell? ⟨w.heap.size, 6, none⟩ = some (.string (bs y')) ∧ W.cell? ⟨w.heap.size, 7, none⟩ = some (.string (bs z')) ∧ W.cell? ⟨w.heap.size, 8, none⟩ = some (.int .i64 k'') ∧ W.cell? ⟨w.heap.size, 9, none⟩ = some (.string (bs x'')) ∧ W.cell? ⟨w.heap.size, 10, none⟩ = some (.string (bs y'')) ∧ W.cell? ⟨w.heap.size, 11, none⟩ = some (.string (bs z'')))) (by kernel_rfl) ?_ (fun hHeld => ?_)
  · (try dsimp only); go_keep
  refine wpAnyH_take (i := 1) (v := ?_) rfl (by kernel_rfl) (by kernel_rfl) (by kernel_rfl) (fun _ _ _ h => h) (Or.inl ⟨by rfl, ?_⟩) (by assumption) ?_
  rotate_left
  · (intro ww hSw; (try dsimp only at hSw); go_simp); (try with_reducible rfl)
  (try simp only [Act.put])
  refine wpAnyH_take (i := 2) (v := ?_) rfl (by kernel_rfl) (by kernel_rfl) (by kernel_rfl) (fun _ _ _ h => h) (Or.inl ⟨by rfl, ?_⟩) (by assumption) ?_
  rotate_left
  · (intro ww hSw; (try dsimp only at hSw); go_simp); (try with_reducible rfl)
  (try simp only [Act.put])
  refine wpAnyH_take (i := 4) (v := ?_) rfl (by kernel_rfl) (by kernel_rfl) (by kernel_rfl) (fun _ _ _ h => h) (Or.inl ⟨by rfl, ?_⟩) (by assumption) ?_
  rotate_left
  · (intro ww hSw; (try dsimp only at hSw); go_simp); (try with_reducible rfl)
  (try simp only [Act.put])
  refine wpAnyH_take (i := 5) (v := ?_) rfl (by kernel_rfl) (by kernel_rfl) (by kernel_rfl) (fun _ _ _ h => h) (Or.inl ⟨by rfl, ?_⟩) (by assumption) ?_
  rotate_left
  · (intro ww hSw; (try dsimp only at hSw); go_simp); (try with_reducible rfl)
  (try simp only [Act.put])
  refine wpAnyH_take (i := 7) (v := ?_) rfl (by kernel_rfl) (by kernel_rfl) (by kernel_rfl) (fun _ _ _ h => h) (Or.inl ⟨by rfl, ?_⟩) (by assumption) ?_
  rotate_left
  · (intro ww hSw; (try dsimp only at hSw); go_simp); (try with_reducible rfl)
  (try simp only [Act.put])
  refine wpAnyH_take (i := 8) (v := ?_) rfl (by kernel_rfl) (by kernel_rfl) (by kernel_rfl) (fun _ _ _ h => h) (Or.inl ⟨by rfl, ?_⟩) (by assumption) ?_
  rotate_left
  · (intro ww hSw; (try dsimp only at hSw); go_simp); (try with_reducible rfl)
  (try simp only [Act.put])
  refine wpAnyH_ready (rs := [0]) (by kernel_rfl) (by simp) ?_
  refine AllReadyH.cons rfl (fun K hK => ?_) AllReadyH.nil
  go_simp
  refine hK.out _ _ ?_ (fun hHeld => ?_)
  · (try dsimp only); go_keep
  clear hK K
  (try simp only [Act.put, List.setIfInBounds_toArray, List.set_cons_zero, List.set_cons_succ])
  have hown : (W0.alloc (.cells #[] 9)).ownsRow (w.heap.size + 1) 9 1 (.slice (some ⟨w.heap.size + 1, 0, none⟩) 0 0) ([] : List (List UInt8)).length (textCells []) := by
    have := World.ownsRow_made (base := w.heap.size + 1) (e := 9) (size := 1) W0 #[] 0 (by omega) (by unfold maxLen; omega) rfl
    rwa [hz0] at this
  have hbn : Below (w.heap.size + 1) W0 (W0.alloc (.cells #[] 9)) := (Below.refl _ _).alloc (by omega) _
  refine wpAnyH_ready (rs := [3]) (by kernel_rfl) (by simp) ?_
  refine AllReadyH.cons rfl (fun K hK => ?_) AllReadyH.nil
  go_simp
  refine (more_calls [] k x y z (w.heap.size + 1) W0 _ _ (by simp) (by omega) ?_ ?_).mono ?_
  · first | exact hbn | exact hbn.drew
  · first | exact hown | exact drewRow hown
  rintro e wn ⟨v0, rfl, hown2, hbn2⟩
  clear hbn hown
  have hbn := hbn2
  have hown := hown2
  clear hbn2 hown2
  clear c0 c1 c2 c3 c4 c5 c6 c7 c8 c9 c10 c11
  have c0 := keptB (HC0.out) hbn (by simp)
  have c1 := keptB (HC1.out) hbn (by simp)
  have c2 := keptB (HC2.out) hbn (by simp)
  have c3 := keptB (HC3.out) hbn (by simp)
  have c4 := keptB (HC4.out) hbn (by simp)
  have c5 := keptB (HC5.out) hbn (by simp)
  have c6 := keptB (HC6.out) hbn (by simp)
  have c7 := keptB (HC7.out) hbn (by simp)
  have c8 := keptB (HC8.out) hbn (by simp)
  have c9 := keptB (HC9.out) hbn (by simp)
  have c10 := keptB (HC10.out) hbn (by simp)
  have c11 := keptB (HC11.out) hbn (by simp)
  go_wp2_with fail
  refine hK.out _ _ ?_ (fun hHeld => ?_)
  · (try dsimp only); go_keep
  clear hK K
  (try simp only [Act.put, List.setIfInBounds_toArray, List.set_cons_zero, List.set_cons_succ])
  refine wpAnyH_ready (rs := [6]) (by kernel_rfl) (by simp) ?_
  refine AllReadyH.cons rfl (fun K hK => ?_) AllReadyH.nil
  go_simp
  refine (more_calls (moreL [] ⟨k, x, y, z⟩) k' x' y' z' (w.heap.size + 1) W0 _ _ (by have := hl1.out; omega) (by omega) ?_ ?_).mono ?_
  · first | exact hbn | exact hbn.drew
  · first | exact hown | exact drewRow hown
  rintro e wn ⟨v1, rfl, hown2, hbn2⟩
  clear hbn hown
  have hbn := hbn2
  have hown := hown2
  clear hbn2 hown2
  clear c0 c1 c2 c3 c4 c5 c6 c7 c8 c9 c10 c11
  have c0 := keptB (HC0.out) hbn (by simp)
  have c1 := keptB (HC1.out) hbn (by simp)
  have c2 := keptB (HC2.out) hbn (by simp)
  have c3 := keptB (HC3.out) hbn (by simp)
  have c4 := keptB (HC4.out) hbn (by simp)
  have c5 := keptB (HC5.out) hbn (by simp)
  have c6 := keptB (HC6.out) hbn (by simp)
  have c7 := keptB (HC7.out) hbn (by simp)
  have c8 := keptB (HC8.out) hbn (by simp)
  have c9 := keptB (HC9.out) hbn (by simp)
  have c10 := keptB (HC10.out) hbn (by simp)
  have c11 := keptB (HC11.out) hbn (by simp)
  go_wp2_with fail
  refine hK.out _ _ ?_ (fun hHeld => ?_)
  · (try dsimp only); go_keep
  clear hK K
  (try simp only [Act.put, List.setIfInBounds_toArray, List.set_cons_zero, List.set_cons_succ])
  refine wpAnyH_ready (rs := [9]) (by kernel_rfl) (by simp) ?_
  refine AllReadyH.cons rfl (fun K hK => ?_) AllReadyH.nil
  go_simp
  refine (more_calls (moreL (moreL [] ⟨k, x, y, z⟩) ⟨k', x', y', z'⟩) k'' x'' y'' z'' (w.heap.size + 1) W0 _ _ (by have := hl2.out; omega) (by omega) ?_ ?_).mono ?_
  · first | exact hbn | exact hbn.drew
  · first | exact hown | exact drewRow hown
  rintro e wn ⟨v2, rfl, hown2, hbn2⟩
  clear hbn hown
  have hbn := hbn2
  have hown := hown2
  clear hbn2 hown2
  clear c0 c1 c2 c3 c4 c5 c6 c7 c8 c9 c10 c11
  have c0 := keptB (HC0.out) hbn (by simp)
  have c1 := keptB (HC1.out) hbn (by simp)
  have c2 := keptB (HC2.out) hbn (by simp)
  have c3 := keptB (HC3.out) hbn (by simp)
  have c4 := keptB (HC4.out) hbn (by simp)
  have c5 := keptB (HC5.out) hbn (by simp)
  have c6 := keptB (HC6.out) hbn (by simp)
  have c7 := keptB (HC7.out) hbn (by simp)
  have c8 := keptB (HC8.out) hbn (by simp)
  have c9 := keptB (HC9.out) hbn (by simp)
  have c10 := keptB (HC10.out) hbn (by simp)
  have c11 := keptB (HC11.out) hbn (by simp)
  go_wp2_with fail
  refine hK.out _ _ ?_ (fun hHeld => ?_)
  · (try dsimp only); go_keep
  clear hK K
  (try simp only [Act.put, List.setIfInBounds_toArray, List.set_cons_zero, List.set_cons_succ])
  refine wpAnyH_take (i := 10) (oi := ⟨some 2, _, _, _, _, _⟩) (v := ?_) rfl (by kernel_rfl) (by kernel_rfl) (by kernel_rfl) (fun _ _ _ h => h) (Or.inl ⟨by rfl, ?_⟩) (by assumption) ?_
  rotate_left
  · (intro ww hSw; (try dsimp only at hSw); go_simp); (try with_reducible rfl)
  (try simp only [Act.put])
  refine wpAnyH_done (by kernel_rfl) ?_ _
  go_wp2
  refine bodyPost_ret (v := v2) (by simp [results, Tryz.results81, go_sem]) rfl ⟨v2, rfl, ?_, ?_⟩
  · exact rowBase (by first | exact hown | exact drewRow hown) (by omega)
  · exact hb0.trans (by first | exact hbn.mono (by omega) | exact (hbn.mono (by omega)).drew)

end Go.Proofs.YtiliobfgmelncaaGreat
