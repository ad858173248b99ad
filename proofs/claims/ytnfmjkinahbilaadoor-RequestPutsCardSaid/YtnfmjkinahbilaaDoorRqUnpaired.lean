/- Package request's unpaired: the request of two pairs, and whether they are its own (written by gen/mkreqpair.py). -/
import Derived.Test.YtnfmjkinahbilaaDoorRqPaired
import Derived.Test.YtnfmjkinahbilaaDoorRqEq
namespace Go.Proofs.YtnfmjkinahbilaaDoor
open Go.RowKit

set_option maxRecDepth 100000 in
set_option maxHeartbeats 4000000 in
theorem unpaired_calls (p q : PairL) (hv : p.v.length ≤ 140737488355327) (w : World) (hg : Good w) :
    Calls Tryd.prog 18 #[.agg #[.string (bs p.k), .string (bs p.v), .string (bs q.k), .string (bs q.v)]] w fun e w' => e = .returned (.tuple #[.agg #[.int .i64 (unP p q).id, .string (bs (unP p q).x)], .bool (isP p q)]) ∧ Below w.heap.size w w' := by
  have hQ := own_two p q
  show Calls _ _ _ _ (fun e w' => e = .returned (.tuple #[.agg #[.int .i64 (numOf p.v), .string (bs q.v)], .bool (isP p q)]) ∧ Below w.heap.size w w')
  obtain ⟨n, hn⟩ : ∃ n, numOf p.v = n := ⟨_, rfl⟩
  have hb := num_bounds p.v
  rw [hn] at hb hQ ⊢
  obtain ⟨T, hT⟩ : ∃ T, bs (Lib.itoa n) = T := ⟨_, rfl⟩
  obtain ⟨R, hR⟩ : ∃ R, isP p q = R := ⟨_, rfl⟩
  rw [hT, hR] at hQ
  rw [hR]
  have HPA := Lib.hid (fun s W hW => paired_calls n s hb.1 hb.2 T hT W hW)
  have HAT := Lib.hid (fun W hW => atoi_calls p.v hv n hn W hW)
  clear hv hn hb hT hR
  generalize bs p.k = a0 at hQ ⊢
  generalize bs p.v = a1 at hQ HAT ⊢
  generalize bs q.k = a2 at hQ ⊢
  generalize bs q.v = a3 at hQ ⊢
  have HQ := Lib.hid (fun W => (eq_two_in 9997 ⟨#[105, 100]⟩ T ⟨#[113, 117, 101, 114, 121]⟩ a3 a0 a1 a2 a3 W).trans (congrArg (fun b => Result.ok b W) (show (peq ⟨#[105, 100]⟩ T a0 a1 && peq ⟨#[113, 117, 101, 114, 121]⟩ a3 a2 a3) = R from hQ)))
  obtain ⟨X, hX⟩ : ∃ X, w.heap.size = X := ⟨_, rfl⟩
  obtain ⟨Y, hY⟩ : ∃ Y, w.heap.size + 1 = Y := ⟨_, rfl⟩
  obtain ⟨W1, hW1⟩ : ∃ W1, (w.alloc (.cells #[.string a0, .string a1, .string a2, .string a3] 40)).alloc (.cells #[.int .i64 0, .string ⟨#[]⟩] 23) = W1 := ⟨_, rfl⟩
  have HK := Lib.hid (show Blk W1 X 40 #[.string a0, .string a1, .string a2, .string a3] by rw [← hW1, ← hX]; exact blk_alloc (blk_new _ _ _) _)
  have HY := Lib.hid (show Blk W1 Y 23 #[.int .i64 0, .string ⟨#[]⟩] by
    rw [← hW1, ← hY]
    have h := blk_new (w.alloc (.cells #[.string a0, .string a1, .string a2, .string a3] 40)) 23 #[.int .i64 0, .string ⟨#[]⟩]
    rw [show (w.alloc (.cells #[.string a0, .string a1, .string a2, .string a3] 40)).heap.size = w.heap.size + 1 by simp] at h
    exact h)
  have HB := Lib.hid (show Below w.heap.size w W1 by rw [← hW1]; exact (box_below _ _).alloc (by simp) _)
  have HG := Lib.hid (hg.on HB.out)
  have c1 : W1.cell? ⟨X, 1, none⟩ = some (.string a1) := (blk_cell HK.out 1).trans rfl
  have HXY := Lib.hid (show X ≠ Y by omega)
  have HX := Lib.hid hX
  have HYE := Lib.hid hY
  have HW1 := Lib.hid hW1
  clear hg hX hY hW1 hQ
  go_enter Tryd.func18, Tryd.ntmps18
  go_wp2_with fail
  rw [HW1.out, HYE.out, HX.out]
  refine (HAT.out _ HG.out).mono ?_
  rintro e W2 ⟨ev, rfl, hb⟩
  clear c1
  have c3 : W2.cell? ⟨X, 3, none⟩ = some (.string a3) := (hb.cell (p := ⟨X, 3, none⟩) (blk_lt HK.out)).trans ((blk_cell HK.out 3).trans rfl)
  obtain ⟨Z, hZ⟩ : ∃ Z, W2.heap.size = Z := ⟨_, rfl⟩
  obtain ⟨W3, hW3⟩ : ∃ W3, W2.alloc (.cells #[.int .i64 n, .string a3] 23) = W3 := ⟨_, rfl⟩
  replace HB := Lib.hid (show Below w.heap.size w W3 by rw [← hW3]; exact (fb2 HB.out hb (Nat.le_refl _)).alloc (fb2 HB.out hb (Nat.le_refl _)).size _)
  have hb3 : Below W1.heap.size W1 W3 := by rw [← hW3]; exact hb.alloc hb.size _
  replace HG := Lib.hid (HG.out.on hb3)
  have HZX := Lib.hid (show X ≠ Y ∧ Z ≠ Y by have := blk_lt HY.out; have := hb.size; exact ⟨HXY.out, by omega⟩)
  replace HK := Lib.hid (blk_on HK.out hb3 (blk_lt HK.out))
  replace HY := Lib.hid (blk_on HY.out hb3 (blk_lt HY.out))
  have HZ := Lib.hid (show Blk W3 Z 23 #[.int .i64 n, .string a3] by rw [← hW3, ← hZ]; exact blk_new _ _ _)
  have HZE := Lib.hid hZ
  have HW3 := Lib.hid hW3
  have HXL := Lib.hid (blk_lt HK.out)
  have HZL := Lib.hid (blk_lt HZ.out)
  have HSA := Lib.hid (show (W3.cell? ⟨Z, 0, none⟩ = some (.int .i64 n) ∧ W3.cell? ⟨Z, 1, none⟩ = some (.string a3)) ∧ W3.cell? ⟨X, 0, none⟩ = some (.string a0) ∧ W3.cell? ⟨X, 1, none⟩ = some (.string a1) ∧ W3.cell? ⟨X, 2, none⟩ = some (.string a2) ∧ W3.cell? ⟨X, 3, none⟩ = some (.string a3) from ⟨⟨(blk_cell HZ.out 0).trans rfl, (blk_cell HZ.out 1).trans rfl⟩, (blk_cell HK.out 0).trans rfl, (blk_cell HK.out 1).trans rfl, (blk_cell HK.out 2).trans rfl, (blk_cell HK.out 3).trans rfl⟩)
  clear hb hb3 hZ hW3
  go_wp2_with fail
  rw [HW3.out, HZE.out]
  refine wp_region_held_drew (S := (fun W => (W.cell? ⟨Z, 0, none⟩ = some (.int .i64 n) ∧ W.cell? ⟨Z, 1, none⟩ = some (.string a3)) ∧ W.cell? ⟨X, 0, none⟩ = some (.string a0) ∧ W.cell? ⟨X, 1, none⟩ = some (.string a1) ∧ W.cell? ⟨X, 2, none⟩ = some (.string a2) ∧ W.cell? ⟨X, 3, none⟩ = some (.string a3))) (by kernel_rfl) ?_ (fun hHeld => ?_)
  · (try dsimp only); exact HSA.out
  obtain ⟨Wd, hWd⟩ : ∃ Wd, W3.drew = Wd := ⟨_, rfl⟩
  rw [hWd] at hHeld ⊢
  have HBS := Lib.hid (show Below W3.heap.size W3 Wd by rw [← hWd]; exact (Below.refl _ _).drew)
  clear hWd
  refine wpAnyH_take (i := 0) (oi := ⟨some 19, _, _, _, _, _⟩) (v := ?_) rfl (by kernel_rfl) (by kernel_rfl) (by kernel_rfl) (fun _ _ _ h => h) (Or.inl ⟨by kernel_rfl, ?_⟩) (by assumption) ?_
  rotate_left
  · (intro ww hSw; (try dsimp only at hSw); obtain ⟨⟨d0, d1⟩, d2, d3, d4, d5⟩ := hSw; go_simp); (try with_reducible rfl)
  (try simp only [Act.put, List.setIfInBounds_toArray, List.set_cons_zero, List.set_cons_succ])
  refine wpAnyH_take (i := 1) (oi := ⟨some 20, _, _, _, _, _⟩) (v := ?_) rfl (by kernel_rfl) (by kernel_rfl) (by kernel_rfl) (fun _ _ _ h => h) (Or.inl ⟨by kernel_rfl, ?_⟩) (by assumption) ?_
  rotate_left
  · (intro ww hSw; (try dsimp only at hSw); obtain ⟨⟨d0, d1⟩, d2, d3, d4, d5⟩ := hSw; go_simp); (try with_reducible rfl)
  (try simp only [Act.put, List.setIfInBounds_toArray, List.set_cons_zero, List.set_cons_succ])
  refine wpAnyH_take (i := 3) (oi := ⟨some 22, _, _, _, _, _⟩) (v := ?_) rfl (by kernel_rfl) (by kernel_rfl) (by kernel_rfl) (fun _ _ _ h => h) (Or.inl ⟨by kernel_rfl, ?_⟩) (by assumption) ?_
  rotate_left
  · (intro ww hSw; (try dsimp only at hSw); obtain ⟨⟨d0, d1⟩, d2, d3, d4, d5⟩ := hSw; go_simp); (try with_reducible rfl)
  (try simp only [Act.put, List.setIfInBounds_toArray, List.set_cons_zero, List.set_cons_succ])
  refine wpAnyH_ready (rs := [2]) (by kernel_rfl) (by simp) ?_
  refine AllReadyH.cons rfl (fun K hK => ?_) AllReadyH.nil
  go_simp
  refine (HPA.out a3 Wd (HG.out.on HBS.out)).mono ?_
  rintro e W100 ⟨rfl, hb⟩
  have hbx : Below Wd.heap.size Wd W100 := hb
  clear hb
  replace HBS := Lib.hid (fb2 HBS.out hbx (Nat.le_refl _))
  clear hbx
  go_wp2_with fail
  refine hK.out _ _ ?_ (fun hHeld => ?_)
  · (try dsimp only); first | exact HSF.out | exact ⟨⟨keptC HSA.out.1.1 HBS.out HZL.out, keptC HSA.out.1.2 HBS.out HZL.out⟩, keptC HSA.out.2.1 HBS.out HXL.out, keptC HSA.out.2.2.1 HBS.out HXL.out, keptC HSA.out.2.2.2.1 HBS.out HXL.out, keptC HSA.out.2.2.2.2 HBS.out HXL.out⟩
  clear hK K
  (try simp only [Act.put, List.setIfInBounds_toArray, List.set_cons_zero, List.set_cons_succ])
  refine wpAnyH_take (i := 4) (oi := ⟨some 23, _, _, _, _, _⟩) (v := ?_) rfl (by kernel_rfl) (by kernel_rfl) (by kernel_rfl) (fun _ _ _ h => h) (Or.inl ⟨by kernel_rfl, ?_⟩) (by assumption) ?_
  rotate_left
  · (intro ww hSw; (try dsimp only at hSw); have hq := HQ.out ww; go_simp); (try with_reducible rfl)
  (try simp only [Act.put, List.setIfInBounds_toArray, List.set_cons_zero, List.set_cons_succ])
  refine wpAnyH_ready (rs := [5]) (by kernel_rfl) (by simp) ?_
  refine AllReadyH.cons rfl (fun K hK => ?_) AllReadyH.nil
  refine wp_whole_abs 23 (.tmp 2) (.tmp 19) rfl Y #[.int .i64 n, .string a3] (by kernel_rfl) (by kernel_rfl) 23 #[.int .i64 0, .string ⟨#[]⟩] (blk_on HY.out HBS.out (blk_lt HY.out)) (by kernel_rfl) rfl (req_one _ _) ?_
  intro W101 hK6 hg6
  have HK6 := Lib.hid hK6
  have HSF := Lib.hid (show (W101.cell? ⟨Z, 0, none⟩ = some (.int .i64 n) ∧ W101.cell? ⟨Z, 1, none⟩ = some (.string a3)) ∧ W101.cell? ⟨X, 0, none⟩ = some (.string a0) ∧ W101.cell? ⟨X, 1, none⟩ = some (.string a1) ∧ W101.cell? ⟨X, 2, none⟩ = some (.string a2) ∧ W101.cell? ⟨X, 3, none⟩ = some (.string a3) from ⟨⟨cellY (keptC HSA.out.1.1 HBS.out HZL.out) hg6 (Nat.lt_of_lt_of_le HZL.out HBS.out.size) HZX.out.2, cellY (keptC HSA.out.1.2 HBS.out HZL.out) hg6 (Nat.lt_of_lt_of_le HZL.out HBS.out.size) HZX.out.2⟩, cellY (keptC HSA.out.2.1 HBS.out HXL.out) hg6 (Nat.lt_of_lt_of_le HXL.out HBS.out.size) HZX.out.1, cellY (keptC HSA.out.2.2.1 HBS.out HXL.out) hg6 (Nat.lt_of_lt_of_le HXL.out HBS.out.size) HZX.out.1, cellY (keptC HSA.out.2.2.2.1 HBS.out HXL.out) hg6 (Nat.lt_of_lt_of_le HXL.out HBS.out.size) HZX.out.1, cellY (keptC HSA.out.2.2.2.2 HBS.out HXL.out) hg6 (Nat.lt_of_lt_of_le HXL.out HBS.out.size) HZX.out.1⟩)
  have HB6 := Lib.hid (show Below w.heap.size w W101 from (HB.out.trans (HBS.out.mono HB.out.size)).grown hg6 (by have h1 := HB.out.size; have h2 := HBS.out.size; omega) (fun q hq => by injection hq with hq; have := HYE.out; omega))
  clear hK6 hg6
  refine hK.out _ _ ?_ (fun hHeld => ?_)
  · (try dsimp only); first | exact HSF.out | exact ⟨⟨keptC HSA.out.1.1 HBS.out HZL.out, keptC HSA.out.1.2 HBS.out HZL.out⟩, keptC HSA.out.2.1 HBS.out HXL.out, keptC HSA.out.2.2.1 HBS.out HXL.out, keptC HSA.out.2.2.2.1 HBS.out HXL.out, keptC HSA.out.2.2.2.2 HBS.out HXL.out⟩
  clear hK K
  (try simp only [Act.put, List.setIfInBounds_toArray])
  refine wpAnyH_take (i := 6) (oi := ⟨some 3, _, _, _, _, _⟩) (v := ?_) rfl (by kernel_rfl) (by kernel_rfl) (by kernel_rfl) (fun _ _ _ h => h) (Or.inl ⟨by kernel_rfl, ?_⟩) (by assumption) ?_
  rotate_left
  · (intro ww hSw; (try dsimp only at hSw); go_simp); (try with_reducible rfl)
  (try simp only [Act.put])
  refine wpAnyH_done (by kernel_rfl) ?_ _
  go_wp2
  have q0 : W101.cell? ⟨Y, 0, none⟩ = some (.int .i64 n) := (blk_cell HK6.out 0).trans rfl
  have q1 : W101.cell? ⟨Y, 1, none⟩ = some (.string a3) := (blk_cell HK6.out 1).trans rfl
  refine bodyPost_ret (v := .tuple #[.agg #[.int .i64 n, .string a3], .bool R]) (by simp [results, Tryd.results18, q0, q1, go_sem]) rfl ⟨rfl, HB6.out⟩

end Go.Proofs.YtnfmjkinahbilaaDoor
