/- A triple taken out of triples: the document's own answer. -/
import Derived.Test.YtnojdchodmogbaaGreatRefPuts
namespace Go.Proofs.YtnojdchodmogbaaGreat
open Go.RowKit

theorem neql_trip (t u : TripL) (w : World) : (binOp .neq 29 (.agg #[.int .i64 t.s.k, .string (bs t.s.x), .string (bs t.s.y), .string (bs t.s.z), .int .i64 t.p.k, .string (bs t.p.x), .string (bs t.p.y), .string (bs t.p.z), .int .i64 t.o.k, .string (bs t.o.x), .string (bs t.o.y), .string (bs t.o.z)]) (.agg #[.int .i64 u.s.k, .string (bs u.s.x), .string (bs u.s.y), .string (bs u.s.z), .int .i64 u.p.k, .string (bs u.p.x), .string (bs u.p.y), .string (bs u.p.z), .int .i64 u.o.k, .string (bs u.o.x), .string (bs u.o.y), .string (bs u.o.z)])).run Tryz.prog w = .ok (.bool (!decide (t = u))) w := by
  have h1 : (binOp .neq 29 t.v u.v).run Tryz.prog w = .ok (.bool (!teqs t u)) w := by
    unfold TripL.v
    rw [run_neq_struct]
    have := eq_trip_in 9997 t u w
    unfold TripL.v at this
    rw [this]
    rfl
  rw [teqs_of] at h1
  have e : decide (tripCmp t u = 0) = decide (t = u) := by
    rw [Bool.eq_iff_iff, decide_eq_true_eq, decide_eq_true_eq]
    exact ⟨tr_zero, fun h => by rw [h]; exact teqs_cmp (by unfold teqs; rw [teq_self, teq_self, teq_self]; rfl)⟩
  rw [e] at h1
  exact h1
theorem remL_more (L : List TripL) (t : TripL) (k : Nat) (hk : k < L.length) : remL (L.take (k + 1)) t = remL (L.take k) t ++ (if L[k] = t then [] else [L[k]]) := by
  unfold remL
  rw [List.take_succ_eq_append_getElem hk, List.filter_append]
  congr 1
  by_cases h : L[k] = t
  · simp [h]
  · simp [h]
theorem remL_shorter (L : List TripL) (t : TripL) : decide ((remL L t).length < L.length) = decide (t ∈ L) := by
  rw [Bool.eq_iff_iff, decide_eq_true_eq, decide_eq_true_eq]
  constructor
  · intro h
    refine Classical.byContradiction fun hn => ?_
    rw [remL_none hn] at h
    omega
  · intro h
    exact List.length_filter_lt_length_iff_exists.2 ⟨t, h, by simp⟩

/- what the rounds keep -/
def RemI (W1 : World) (B1 : Nat) (L : List TripL) (t : TripL) (N : Nat) (v i : Value) (wr : World) : Prop :=
  ∃ (k : Nat), k ≤ N ∧ i = .int .i64 k ∧ Own wr B1 v (remL (L.take k) t) ∧ Below B1 W1 wr
def RRemT (L : List TripL) (t : TripL) (w : World) (e : Ending) (w' : World) : Prop :=
  ∃ v', e = .returned (.tuple #[v', .bool (decide (t ∈ L))]) ∧ Own w' w.heap.size v' (remL L t) ∧ Below w.heap.size w w'

set_option maxRecDepth 100000 in
set_option maxHeartbeats 8000000 in
theorem rRem_calls (L : List TripL) (t : TripL) (v : Value) (w : World) (hv : Reads w v L.length (tripCells L)) (hl : L.length ≤ 100000) :
    Calls Tryz.prog 10 #[v, t.v] w (RRemT L t w) := by
  obtain ⟨i0, hi, hz0, hz1, hz2⟩ := info_parts info_triple
  obtain ⟨W1, hW1⟩ : ∃ W1, w.alloc (.cells (cells12 t) 29) = W1 := ⟨_, rfl⟩
  obtain ⟨B1, hB1⟩ : ∃ B1, W1.heap.size = B1 := ⟨_, rfl⟩
  have hBw := Lib.hid (show w.heap.size + 1 = B1 by rw [← hB1, ← hW1]; simp)
  have HB1 := Lib.hid hB1
  have bx := Lib.hid (show Box12 W1 w.heap.size t by rw [← hW1]; exact box12_of (blk_new w 29 (cells12 t)))
  have hb1 := Lib.hid (show Below w.heap.size w W1 by rw [← hW1]; exact box_below _ _)
  have hst := Lib.hid (show Own (W1.alloc (.cells #[] 29)) B1 (.slice (some ⟨B1, 0, none⟩) 0 0) [] from ⟨rfl, .inr ⟨B1, 0, #[], rfl, Nat.le_refl _, by rw [← hB1]; exact blk_new _ _ _, Nat.le_refl _, Nat.zero_le _, rfl, rfl⟩⟩)
  have hbs := Lib.hid ((Below.refl B1 W1).alloc (by omega) (.cells #[] 29))
  have hW := Lib.hid hW1
  clear hB1 hW1
  obtain ⟨fa, fc, rfl, hf⟩ := reads_open hv
  obtain ⟨N, hN⟩ : ∃ N, L.length = N := ⟨_, rfl⟩
  have HF := Lib.hid (show 0 < N → ∃ g, fa = some ⟨g, 0, none⟩ ∧ g < w.heap.size ∧ N ≤ fc ∧ ∀ j (h : j < L.length), Cells12 w g j L[j] from fun h0 => by obtain ⟨g, a1, a2, a3, a4⟩ := hf (by rw [hN]; exact h0); exact ⟨g, a1, a2, by rw [← hN]; exact a3, a4⟩)
  clear hv hf
  rw [hN] at hl ⊢
  have HN := Lib.hid hN
  have hwB : w.heap.size < B1 := by have := hBw.out; omega
  clear hN
  have hsh := Lib.hid (remL_shorter L t)
  have htk : Hid (L.take N = L) := by show _ = _; rw [← HN.out]; exact List.take_length
  simp only [TripL.v]
  go_enter Tryz.func10, Tryz.ntmps10
  go_wp2_with fail
  have e0 := hW.out
  unfold cells12 at e0
  simp only [e0, hBw.out]
  clear e0
  go_wp2
  go_loopw [6, 7] (fun v i wr => RemI W1 B1 L t N v i wr) (fun _ i _ => N - (intOf i).toNat)
  case atStart => exact ⟨0, Nat.zero_le _, rfl, hst.out, hbs.out⟩
  case round =>
    obtain ⟨k, hk, rfl, hown, hbw⟩ := hrel
    have hbx := Lib.hid (box_on bx.out hbw (by have := hBw.out; omega))
    have hlt2 := Lib.hid (show w.heap.size < wr.heap.size by have := hbw.size; have := hBw.out; have := HB1.out; omega)
    have hbB := Lib.hid (show B1 ≤ wr.heap.size by have := hbw.size; have := HB1.out; omega)
    have hol2 : (remL (L.take k) t).length ≤ k := by
      refine Nat.le_trans (List.length_filter_le _ _) ?_
      rw [List.length_take]; omega
    have HBW := Lib.hid hbw
    by_cases hlt : k < N
    · obtain ⟨g, rfl, hg, hcap, hrow⟩ := HF.out (by omega)
      have hkL : k < L.length := by rw [HN.out]; exact hlt
      have g1 : (0 : Int) ≤ (k : Int) := by omega
      have g2 : (k : Int) < (N : Int) := by omega
      have hgB : g < B1 := by have := hBw.out; omega
      have cm1 := Lib.hid (cells_on (hrow k hkL) hb1.out hg)
      have cm := Lib.hid (cells_on cm1.out HBW.out hgB)
      clear hrow
      have hgr : g < wr.heap.size := Nat.lt_of_lt_of_le hgB hbB.out
      have hmore := Lib.hid (remL_more L t k hkL)
      generalize L[k] = y at cm cm1 hmore
      obtain ⟨R, hR⟩ : ∃ R, remL (L.take k) t = R := ⟨_, rfl⟩
      have hm2 := hmore.out
      rw [hR] at hown hol2 hm2
      have HM := Lib.hid hm2
      have HOWN := Lib.hid hown
      have hneq := fun W => neql_trip y t W
      clear hown hbw hR hm2 hmore
      by_cases hc : y = t
      · rw [decide_eq_true hc] at hneq
        have HE : Hid (remL (L.take (k + 1)) t = R) := by show _ = _; rw [HM.out, if_pos hc, List.append_nil]
        clear HM
        go_wp2_with fail
        refine wp_region_held_drew (S := (fun W => Below wr.heap.size wr W)) (by kernel_rfl) ?_ (fun hHeld => ?_)
        · (try dsimp only); first | exact Below.refl _ _ | exact (Below.refl _ _).drew
        refine wpAnyH_take (i := 0) (oi := ⟨some 15, _, _, _, _, _⟩) (v := ?_) rfl (by kernel_rfl) (by kernel_rfl) (by kernel_rfl) (fun _ _ _ h => h) (Or.inl ⟨by kernel_rfl, ?_⟩) (by assumption) ?_
        rotate_left
        · (intro ww hSw; (try dsimp only at hSw); go_simp); (try with_reducible rfl)
        (try simp only [Act.put, List.setIfInBounds_toArray, List.set_cons_zero, List.set_cons_succ])
        refine wpAnyH_take (i := 1) (oi := ⟨some 16, _, _, _, _, _⟩) (v := ?_) rfl (by kernel_rfl) (by kernel_rfl) (by kernel_rfl) (fun _ _ _ h => h) (Or.inl ⟨by kernel_rfl, ?_⟩) (by assumption) ?_
        rotate_left
        · (intro ww hSw; (try dsimp only at hSw); go_simp); (try with_reducible rfl)
        (try simp only [Act.put, List.setIfInBounds_toArray, List.set_cons_zero, List.set_cons_succ])
        refine wpAnyH_take (i := 2) (oi := ⟨some 17, _, _, _, _, _⟩) (v := .pointer (some ⟨g, k * 12, none⟩)) rfl (by kernel_rfl) (by kernel_rfl) (by kernel_rfl) (fun _ _ _ h => h) (Or.inl ⟨by kernel_rfl, ?_⟩) (by assumption) ?_
        · (intro ww hSw; (try dsimp only at hSw); go_simp)
        (try simp only [Act.put, List.setIfInBounds_toArray, List.set_cons_zero, List.set_cons_succ])
        refine wpAnyH_take (i := 3) (oi := ⟨some 18, _, _, _, _, _⟩) (v := ?_) rfl (by kernel_rfl) (by kernel_rfl) (by kernel_rfl) (fun _ _ _ h => h) (Or.inl ⟨by kernel_rfl, ?_⟩) (by assumption) ?_
        rotate_left
        · (intro ww hSw; (try dsimp only at hSw); obtain ⟨⟨c0, c1, c2, c3⟩, ⟨c4, c5, c6, c7⟩, ⟨c8, c9, c10, c11⟩⟩ := cells_on cm.out hSw hgr; go_simp); (try with_reducible rfl)
        (try simp only [Act.put, List.setIfInBounds_toArray, List.set_cons_zero, List.set_cons_succ])
        refine wpAnyH_take (i := 4) (oi := ⟨some 19, _, _, _, _, _⟩) (v := ?_) rfl (by kernel_rfl) (by kernel_rfl) (by kernel_rfl) (fun _ _ _ h => h) (Or.inl ⟨by kernel_rfl, ?_⟩) (by assumption) ?_
        rotate_left
        · (intro ww hSw; (try dsimp only at hSw); obtain ⟨⟨d0, d1, d2, d3⟩, ⟨d4, d5, d6, d7⟩, ⟨d8, d9, d10, d11⟩⟩ := box_on hbx.out hSw hlt2.out; go_simp); (try with_reducible rfl)
        (try simp only [Act.put, List.setIfInBounds_toArray, List.set_cons_zero, List.set_cons_succ])
        refine wpAnyH_take (i := 5) (oi := ⟨some 20, _, _, _, _, _⟩) (v := .bool false) rfl (by kernel_rfl) (by kernel_rfl) (by kernel_rfl) (fun _ _ _ h => h) (Or.inl ⟨by kernel_rfl, ?_⟩) (by assumption) ?_
        · (intro ww hSw; (try dsimp only at hSw); go_simp)
        (try simp only [Act.put, List.setIfInBounds_toArray, List.set_cons_zero, List.set_cons_succ])
        refine wpAnyH_done (by kernel_rfl) ?_ _
        obtain ⟨w3, hw3⟩ : ∃ w3, wr.drew = w3 := ⟨_, rfl⟩
        rw [hw3]
        have hb3 : Below wr.heap.size wr w3 := by rw [← hw3]; exact (Below.refl _ _).drew
        clear hw3
        have HP3 := Lib.hid (own_on HOWN.out hb3 (Nat.le_refl _))
        have HW3 := Lib.hid (HBW.out.trans (hb3.mono hbB.out))
        have hs3 : B1 ≤ w3.heap.size := by have := HW3.out.size; have := HB1.out; omega
        clear hb3 hneq
        go_wp2
        go_roundw
        case rel => exact ⟨k + 1, by omega, by go_num, by rw [HE.out]; exact HP3.out, by first | exact HW3.out | exact HW3.out.drew⟩
        case measure => simp [intOf]; omega
      · rw [decide_eq_false hc] at hneq
        have HE : Hid (remL (L.take (k + 1)) t = R ++ [y]) := by show _ = _; rw [HM.out, if_neg hc]
        clear HM
        go_wp2_with fail
        refine wp_region_held_drew (S := (fun W => Below wr.heap.size wr W)) (by kernel_rfl) ?_ (fun hHeld => ?_)
        · (try dsimp only); first | exact Below.refl _ _ | exact (Below.refl _ _).drew
        refine wpAnyH_take (i := 0) (oi := ⟨some 15, _, _, _, _, _⟩) (v := ?_) rfl (by kernel_rfl) (by kernel_rfl) (by kernel_rfl) (fun _ _ _ h => h) (Or.inl ⟨by kernel_rfl, ?_⟩) (by assumption) ?_
        rotate_left
        · (intro ww hSw; (try dsimp only at hSw); go_simp); (try with_reducible rfl)
        (try simp only [Act.put, List.setIfInBounds_toArray, List.set_cons_zero, List.set_cons_succ])
        refine wpAnyH_take (i := 1) (oi := ⟨some 16, _, _, _, _, _⟩) (v := ?_) rfl (by kernel_rfl) (by kernel_rfl) (by kernel_rfl) (fun _ _ _ h => h) (Or.inl ⟨by kernel_rfl, ?_⟩) (by assumption) ?_
        rotate_left
        · (intro ww hSw; (try dsimp only at hSw); go_simp); (try with_reducible rfl)
        (try simp only [Act.put, List.setIfInBounds_toArray, List.set_cons_zero, List.set_cons_succ])
        refine wpAnyH_take (i := 2) (oi := ⟨some 17, _, _, _, _, _⟩) (v := .pointer (some ⟨g, k * 12, none⟩)) rfl (by kernel_rfl) (by kernel_rfl) (by kernel_rfl) (fun _ _ _ h => h) (Or.inl ⟨by kernel_rfl, ?_⟩) (by assumption) ?_
        · (intro ww hSw; (try dsimp only at hSw); go_simp)
        (try simp only [Act.put, List.setIfInBounds_toArray, List.set_cons_zero, List.set_cons_succ])
        refine wpAnyH_take (i := 3) (oi := ⟨some 18, _, _, _, _, _⟩) (v := ?_) rfl (by kernel_rfl) (by kernel_rfl) (by kernel_rfl) (fun _ _ _ h => h) (Or.inl ⟨by kernel_rfl, ?_⟩) (by assumption) ?_
        rotate_left
        · (intro ww hSw; (try dsimp only at hSw); obtain ⟨⟨c0, c1, c2, c3⟩, ⟨c4, c5, c6, c7⟩, ⟨c8, c9, c10, c11⟩⟩ := cells_on cm.out hSw hgr; go_simp); (try with_reducible rfl)
        (try simp only [Act.put, List.setIfInBounds_toArray, List.set_cons_zero, List.set_cons_succ])
        refine wpAnyH_take (i := 4) (oi := ⟨some 19, _, _, _, _, _⟩) (v := ?_) rfl (by kernel_rfl) (by kernel_rfl) (by kernel_rfl) (fun _ _ _ h => h) (Or.inl ⟨by kernel_rfl, ?_⟩) (by assumption) ?_
        rotate_left
        · (intro ww hSw; (try dsimp only at hSw); obtain ⟨⟨d0, d1, d2, d3⟩, ⟨d4, d5, d6, d7⟩, ⟨d8, d9, d10, d11⟩⟩ := box_on hbx.out hSw hlt2.out; go_simp); (try with_reducible rfl)
        (try simp only [Act.put, List.setIfInBounds_toArray, List.set_cons_zero, List.set_cons_succ])
        refine wpAnyH_take (i := 5) (oi := ⟨some 20, _, _, _, _, _⟩) (v := .bool true) rfl (by kernel_rfl) (by kernel_rfl) (by kernel_rfl) (fun _ _ _ h => h) (Or.inl ⟨by kernel_rfl, ?_⟩) (by assumption) ?_
        · (intro ww hSw; (try dsimp only at hSw); go_simp)
        (try simp only [Act.put, List.setIfInBounds_toArray, List.set_cons_zero, List.set_cons_succ])
        refine wpAnyH_done (by kernel_rfl) ?_ _
        obtain ⟨w3, hw3⟩ : ∃ w3, wr.drew = w3 := ⟨_, rfl⟩
        rw [hw3]
        have hb3 : Below wr.heap.size wr w3 := by rw [← hw3]; exact (Below.refl _ _).drew
        clear hw3
        have HP3 := Lib.hid (own_on HOWN.out hb3 (Nat.le_refl _))
        have HW3 := Lib.hid (HBW.out.trans (hb3.mono hbB.out))
        have hs3 : B1 ≤ w3.heap.size := by have := HW3.out.size; have := HB1.out; omega
        clear hb3 hneq
        obtain ⟨⟨c0, c1, c2, c3⟩, ⟨c4, c5, c6, c7⟩, ⟨c8, c9, c10, c11⟩⟩ := cells_on cm1.out HW3.out hgB
        go_wp2_with (at_builtin; go_must (refine wpList_append_own_at _ rfl (.tmp 21) (.tmp 26) 25 rfl B1 29 i0 noTrip.v 12 168 Tryz.underlying25 hi hz0 hz1 hz2 rfl (by decide) _ _ _ rfl (HP3.out.alloc _) ⟨w3.heap.size, 0, none⟩ 1 1 [.int .i64 y.s.k, .string (bs y.s.x), .string (bs y.s.y), .string (bs y.s.z), .int .i64 y.p.k, .string (bs y.p.x), .string (bs y.p.y), .string (bs y.p.z), .int .i64 y.o.k, .string (bs y.o.x), .string (bs y.o.y), .string (bs y.o.z)] rfl rfl (news12b _ _ _ _ _ _ _ _ _ _ _ _ _ _ rfl) (by intro u hu; simp at hu; rcases hu with rfl | rfl | rfl | rfl | rfl | rfl | rfl | rfl | rfl | rfl | rfl | rfl <;> rfl) (by unfold maxLen; omega) (by omega) (by simp; omega) ?_; intro v4 w4 hO4 hG4 hN4 hA4; have HO4 := Lib.hid hO4; clear hO4 hN4; have HG4 := Lib.hid hG4; clear hG4; have HA4 := Lib.hid hA4; clear hA4))
        clear c0 c1 c2 c3 c4 c5 c6 c7 c8 c9 c10 c11
        have HP4 := Lib.hid (own_push HO4.out)
        have HW4 := Lib.hid ((HW3.out.alloc (by omega) _).grown HG4.out (by simp; omega) (fun k hk => own_blk HP3.out k hk))
        go_wp2
        go_roundw
        case rel => exact ⟨k + 1, by omega, by go_num, by rw [HE.out]; exact HP4.out, by first | exact HW4.out | exact HW4.out.drew⟩
        case measure => simp [intOf]; omega
    · have hkN : k = N := by omega
      have g3 : ¬ ((k : Int) < (N : Int)) := by omega
      rw [hkN, htk.out] at hown
      have HOWN := Lib.hid (owns_base hown (show w.heap.size ≤ B1 by omega))
      have hbw0 := Lib.hid (hb1.out.trans (HBW.out.mono (by omega)))
      have h3 := hsh.out
      obtain ⟨oa, oc, rfl⟩ := owns_slice hown
      rw [HN.out] at h3
      have HS := Lib.hid h3
      clear hown hbw hol2 h3
      obtain ⟨q, hq⟩ : ∃ q, (remL L t).length = q := ⟨_, rfl⟩
      rw [hq] at HS ⊢
      have HOWN2 := HOWN.out
      simp only [hq] at HOWN2
      go_wp2
      refine bodyPost_ret (v := .tuple #[.slice oa q oc, .bool (decide (t ∈ L))]) (by rw [← HS.out]; simp [results, Tryz.results10, go_sem]) rfl ⟨_, rfl, (by rw [← hq]; rw [← hq] at HOWN2; exact HOWN2), by first | exact hbw0.out | exact hbw0.out.drew⟩

end Go.Proofs.YtnojdchodmogbaaGreat
