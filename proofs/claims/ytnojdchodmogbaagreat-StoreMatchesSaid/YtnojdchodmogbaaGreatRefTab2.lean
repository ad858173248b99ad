/- Two tables that read the same are the same: the document's own answer tells so. -/
import Derived.Test.YtnojdchodmogbaaGreatRefTab
import Derived.Deep.RegionHeld3
namespace Go.Proofs.YtnojdchodmogbaaGreat
open Go.RowKit

theorem tabs_two (w : World) (a b c d : Value) : Blk ((w.alloc (.cells #[a, b] 56)).alloc (.cells #[c, d] 56)) w.heap.size 56 #[a, b] ∧ Blk ((w.alloc (.cells #[a, b] 56)).alloc (.cells #[c, d] 56)) (w.heap.size + 1) 56 #[c, d] := by
  refine ⟨blk_on (blk_new w _ _) (box_below _ _) (by simp), ?_⟩
  have h := blk_new (w.alloc (.cells #[a, b] 56)) 56 #[c, d]
  have e : (w.alloc (.cells #[a, b] 56)).heap.size = w.heap.size + 1 := by simp
  rw [e] at h
  exact h

set_option maxRecDepth 100000 in
set_option maxHeartbeats 4000000 in
theorem sameTable_calls (V : List (List UInt8)) (R : List (List TermL)) (a b : Value) (w : World) (hV : V.length ≤ 3) (hR : R.length ≤ 1000000) (hl : ∀ r ∈ R, r.length ≤ 1000000) (ha : TabV w a V R) (hb : TabV w b V R) :
    Calls Tryz.prog 26 #[a, b] w fun e w' => e = .returned (.bool true) ∧ Below w.heap.size w w' := by
  obtain ⟨va, ra, rfl, hva, fa, ca, rfl, hra⟩ := ha
  obtain ⟨vb, rb, rfl, hvb, fb, cb, rfl, hrb⟩ := hb
  have HRA := Lib.hid hra
  have HRB := Lib.hid hrb
  have hst := Lib.hid (fun W (h1 : Reads W va V.length (textCells V)) (h2 : Reads W vb V.length (textCells V)) => SameTexts_calls V va vb W hV h1 h2)
  have hsr := Lib.hid (fun (r : List TermL) (hr : r ∈ R) (x y : Value) (W : World) (h1 : Reads W x r.length (cellsT r)) (h2 : Reads W y r.length (cellsT r)) => sameRow_calls r x y W (hl r hr) h1 h2)
  have HVA := Lib.hid hva
  have HVB := Lib.hid hvb
  obtain ⟨N, hN⟩ : ∃ N, R.length = N := ⟨_, rfl⟩
  rw [hN] at hR ⊢
  have HN := Lib.hid hN
  have hbx := tabs_two w va (.slice fa N ca) vb (.slice fb N cb)
  have HA := Lib.hid hbx.1
  have HB := Lib.hid hbx.2
  have hb0 := Lib.hid (two_box w (.cells #[va, .slice fa N ca] 56) (.cells #[vb, .slice fb N cb] 56))
  have gN : ((N : Int) == (N : Int)) = true := by simp
  clear hra hrb hva hvb hN hl hbx
  go_enter Tryz.func26, Tryz.ntmps26
  go_wp2_with fail
  refine (hst.out _ (readsOn HVA.out hb0.out (Nat.le_refl _)) (readsOn HVB.out hb0.out (Nat.le_refl _))).mono ?_
  rintro e w1 ⟨rfl, n, hw1⟩
  have hbw := Lib.hid (show Below w.heap.size w w1 by rw [hw1]; exact drewN_below hb0.out n)
  have HA1 := Lib.hid (show Blk w1 w.heap.size 56 #[va, .slice fa N ca] by rw [hw1]; exact HA.out)
  have HB1 := Lib.hid (show Blk w1 (w.heap.size + 1) 56 #[vb, .slice fb N cb] by rw [hw1]; exact HB.out)
  clear hw1 HA HB hb0 hst
  have c0 : w1.cell? ⟨w.heap.size, 1, none⟩ = some (.slice fa N ca) := by rw [blk_cell HA1.out]; rfl
  have d0 : w1.cell? ⟨w.heap.size + 1, 1, none⟩ = some (.slice fb N cb) := by rw [blk_cell HB1.out]; rfl
  go_wp2
  clear c0 d0
  go_loopw [5] (fun i wr => ∃ k : Nat, k ≤ N ∧ i = .int .i64 k ∧ Below w1.heap.size w1 wr) (fun i _ => N - (intOf i).toNat)
  case atStart => exact ⟨0, Nat.zero_le _, rfl, by first | exact Below.refl _ _ | exact (Below.refl _ _).drew⟩
  case round =>
    obtain ⟨k, hk, rfl, hbr⟩ := hrel
    have g1 : (0 : Int) ≤ (k : Int) := by omega
    have c0 := keptC (show w1.cell? ⟨w.heap.size, 1, none⟩ = some (.slice fa N ca) by rw [blk_cell HA1.out]; rfl) hbr (blk_lt HA1.out)
    have HBR := Lib.hid hbr
    clear hbr
    by_cases hlt : k < N
    · have g2 : (k : Int) < (N : Int) := by omega
      have hkR : k < R.length := by rw [HN.out]; exact hlt
      obtain ⟨ga, rfl, hga, hca, hrwa⟩ := HRA.out (by omega)
      obtain ⟨gb, rfl, hgb, hcb, hrwb⟩ := HRB.out (by omega)
      obtain ⟨xa, hxa, hra⟩ := hrwa k hkR
      obtain ⟨xb, hxb, hrb⟩ := hrwb k hkR
      rw [HN.out] at hca hcb
      have hsrk := Lib.hid (hsr.out R[k] (List.getElem_mem hkR))
      have hxa1 := Lib.hid (keptC hxa hbw.out hga)
      have hxb1 := Lib.hid (keptC hxb hbw.out hgb)
      have hga1 := Lib.hid (Nat.lt_of_lt_of_le hga hbw.out.size)
      have hgb1 := Lib.hid (Nat.lt_of_lt_of_le hgb hbw.out.size)
      have HRA1 := Lib.hid (readsOn hra hbw.out (Nat.le_refl _))
      have HRB1 := Lib.hid (readsOn hrb hbw.out (Nat.le_refl _))
      clear hrwa hrwb hxa hxb hra hrb hga hgb
      generalize R[k] = r at hsrk HRA1 HRB1
      go_wp2_with fail
      refine wp_region_held_drew (S := (fun W => Below w1.heap.size w1 W)) (by kernel_rfl) ?_ (fun hHeld => ?_)
      · (try dsimp only); first | exact HBR.out | exact HBR.out.drew
      obtain ⟨w5, hw5⟩ : ∃ w5, wr.drew = w5 := ⟨_, rfl⟩
      rw [hw5]
      have hbn : Below w1.heap.size w1 w5 := by rw [← hw5]; exact HBR.out.drew
      clear hw5
      refine wpAnyH_take (i := 0) (oi := ⟨some 28, _, _, _, _, _⟩) (v := ?_) rfl (by kernel_rfl) (by kernel_rfl) (by kernel_rfl) (fun _ _ _ h => h) (Or.inl ⟨by kernel_rfl, ?_⟩) (by assumption) ?_
      rotate_left
      · (intro ww hSw; (try dsimp only at hSw); go_simp); (try with_reducible rfl)
      (try simp only [Act.put, List.setIfInBounds_toArray, List.set_cons_zero, List.set_cons_succ])
      refine wpAnyH_take (i := 1) (oi := ⟨some 29, _, _, _, _, _⟩) (v := ?_) rfl (by kernel_rfl) (by kernel_rfl) (by kernel_rfl) (fun _ _ _ h => h) (Or.inl ⟨by kernel_rfl, ?_⟩) (by assumption) ?_
      rotate_left
      · (intro ww hSw; (try dsimp only at hSw); have cA := keptC (show w1.cell? ⟨w.heap.size, 1, none⟩ = some (.slice (some ⟨ga, 0, none⟩) N ca) by rw [blk_cell HA1.out]; rfl) hSw (blk_lt HA1.out); go_simp); (try with_reducible rfl)
      (try simp only [Act.put, List.setIfInBounds_toArray, List.set_cons_zero, List.set_cons_succ])
      refine wpAnyH_take (i := 2) (oi := ⟨some 30, _, _, _, _, _⟩) (v := ?_) rfl (by kernel_rfl) (by kernel_rfl) (by kernel_rfl) (fun _ _ _ h => h) (Or.inl ⟨by kernel_rfl, ?_⟩) (by assumption) ?_
      rotate_left
      · (intro ww hSw; (try dsimp only at hSw); go_simp); (try with_reducible rfl)
      (try simp only [Act.put, List.setIfInBounds_toArray, List.set_cons_zero, List.set_cons_succ])
      refine wpAnyH_take (i := 3) (oi := ⟨some 31, _, _, _, _, _⟩) (v := .pointer (some ⟨ga, k, none⟩)) rfl (by kernel_rfl) (by kernel_rfl) (by kernel_rfl) (fun _ _ _ h => h) (Or.inl ⟨by kernel_rfl, ?_⟩) (by assumption) ?_
      · (intro ww hSw; (try dsimp only at hSw); go_simp)
      (try simp only [Act.put, List.setIfInBounds_toArray, List.set_cons_zero, List.set_cons_succ])
      refine wpAnyH_take (i := 4) (oi := ⟨some 32, _, _, _, _, _⟩) (v := ?_) rfl (by kernel_rfl) (by kernel_rfl) (by kernel_rfl) (fun _ _ _ h => h) (Or.inl ⟨by kernel_rfl, ?_⟩) (by assumption) ?_
      rotate_left
      · (intro ww hSw; (try dsimp only at hSw); have cx := keptC hxa1.out hSw hga1.out; go_simp); (try with_reducible rfl)
      (try simp only [Act.put, List.setIfInBounds_toArray, List.set_cons_zero, List.set_cons_succ])
      refine wpAnyH_take (i := 5) (oi := ⟨some 33, _, _, _, _, _⟩) (v := ?_) rfl (by kernel_rfl) (by kernel_rfl) (by kernel_rfl) (fun _ _ _ h => h) (Or.inl ⟨by kernel_rfl, ?_⟩) (by assumption) ?_
      rotate_left
      · (intro ww hSw; (try dsimp only at hSw); go_simp); (try with_reducible rfl)
      (try simp only [Act.put, List.setIfInBounds_toArray, List.set_cons_zero, List.set_cons_succ])
      refine wpAnyH_take (i := 6) (oi := ⟨some 34, _, _, _, _, _⟩) (v := ?_) rfl (by kernel_rfl) (by kernel_rfl) (by kernel_rfl) (fun _ _ _ h => h) (Or.inl ⟨by kernel_rfl, ?_⟩) (by assumption) ?_
      rotate_left
      · (intro ww hSw; (try dsimp only at hSw); have cB := keptC (show w1.cell? ⟨w.heap.size + 1, 1, none⟩ = some (.slice (some ⟨gb, 0, none⟩) N cb) by rw [blk_cell HB1.out]; rfl) hSw (blk_lt HB1.out); go_simp); (try with_reducible rfl)
      (try simp only [Act.put, List.setIfInBounds_toArray, List.set_cons_zero, List.set_cons_succ])
      refine wpAnyH_take (i := 7) (oi := ⟨some 35, _, _, _, _, _⟩) (v := ?_) rfl (by kernel_rfl) (by kernel_rfl) (by kernel_rfl) (fun _ _ _ h => h) (Or.inl ⟨by kernel_rfl, ?_⟩) (by assumption) ?_
      rotate_left
      · (intro ww hSw; (try dsimp only at hSw); go_simp); (try with_reducible rfl)
      (try simp only [Act.put, List.setIfInBounds_toArray, List.set_cons_zero, List.set_cons_succ])
      refine wpAnyH_take (i := 8) (oi := ⟨some 36, _, _, _, _, _⟩) (v := .pointer (some ⟨gb, k, none⟩)) rfl (by kernel_rfl) (by kernel_rfl) (by kernel_rfl) (fun _ _ _ h => h) (Or.inl ⟨by kernel_rfl, ?_⟩) (by assumption) ?_
      · (intro ww hSw; (try dsimp only at hSw); go_simp)
      (try simp only [Act.put, List.setIfInBounds_toArray, List.set_cons_zero, List.set_cons_succ])
      refine wpAnyH_take (i := 9) (oi := ⟨some 37, _, _, _, _, _⟩) (v := ?_) rfl (by kernel_rfl) (by kernel_rfl) (by kernel_rfl) (fun _ _ _ h => h) (Or.inl ⟨by kernel_rfl, ?_⟩) (by assumption) ?_
      rotate_left
      · (intro ww hSw; (try dsimp only at hSw); have cx := keptC hxb1.out hSw hgb1.out; go_simp); (try with_reducible rfl)
      (try simp only [Act.put, List.setIfInBounds_toArray, List.set_cons_zero, List.set_cons_succ])
      refine wpAnyH_ready (rs := [10]) (by kernel_rfl) (by simp) ?_
      refine AllReadyH.cons rfl (fun K hK => ?_) AllReadyH.nil
      go_simp
      refine (hsrk.out _ _ _ (readsOn HRA1.out (B := w1.heap.size) (by first | exact hbn | exact hbn.drew) (Nat.le_refl _)) (readsOn HRB1.out (B := w1.heap.size) (by first | exact hbn | exact hbn.drew) (Nat.le_refl _))).mono ?_
      rintro e ws ⟨rfl, n, hws⟩
      have hbs : Below w1.heap.size w1 ws := by rw [hws]; first | exact drewN_below hbn n | exact drewN_below hbn.drew n
      clear hbn hws
      have hbn := hbs
      clear hbs
      go_wp2_with fail
      refine hK.out _ _ ?_ (fun hHeld => ?_)
      · (try dsimp only); first | exact hbn | exact hbn.drew
      clear hK K
      (try simp only [Act.put, List.setIfInBounds_toArray, List.set_cons_zero, List.set_cons_succ])
      refine wpAnyH_take (i := 11) (oi := ⟨some 39, _, _, _, _, _⟩) (v := ?_) rfl (by kernel_rfl) (by kernel_rfl) (by kernel_rfl) (fun _ _ _ h => h) (Or.inl ⟨by kernel_rfl, ?_⟩) (by assumption) ?_
      rotate_left
      · (intro ww hSw; (try dsimp only at hSw); go_simp); (try with_reducible rfl)
      (try simp only [Act.put, List.setIfInBounds_toArray, List.set_cons_zero, List.set_cons_succ])
      refine wpAnyH_done (by kernel_rfl) ?_ _
      have hbn2 := Lib.hid hbn
      clear hbn
      go_wp2
      go_roundw
      case rel => exact ⟨k + 1, by omega, by go_num, by first | exact hbn2.out | exact hbn2.out.drew⟩
      case measure => simp [intOf]; omega
    · have g2 : ¬ ((k : Int) < (N : Int)) := by omega
      go_wp2
      go_ret
      exact ⟨rfl, by first | exact hbw.out.trans (HBR.out.mono hbw.out.size) | exact (hbw.out.trans (HBR.out.mono hbw.out.size)).drew⟩

end Go.Proofs.YtnojdchodmogbaaGreat
