/- The law StorePlays: it is true of any acts. -/
import Derived.Test.YtnojdchodmogbaaGreatStoMade
import Derived.Test.YtnojdchodmogbaaGreatStoRem
import Derived.Test.YtnojdchodmogbaaGreatRefRem
import Derived.Test.YtnojdchodmogbaaGreatRefSame
import Derived.Test.YtnojdchodmogbaaGreatStoAwake
import Derived.Test.YtnojdchodmogbaaGreatActSlice
import Derived.Deep.RegionHeld3
namespace Go.Proofs.YtnojdchodmogbaaGreat
open Go.RowKit

def actL (l : List TripL) (a : ActL) : List TripL := if a.out then remL l a.t else addL l a.t
def playL (A : List ActL) : List TripL := A.foldl actL []
theorem playL_more (A : List ActL) (a : ActL) : playL (A ++ [a]) = actL (playL A) a := by simp [playL]
theorem actL_length (l : List TripL) (a : ActL) : (actL l a).length ≤ l.length + 1 := by
  unfold actL
  split
  · exact Nat.le_succ_of_le (List.length_filter_le _ _)
  · exact addL_length
theorem playL_length (A : List ActL) : ∀ k, k ≤ A.length → (playL (A.take k)).length ≤ k
  | 0, _ => Nat.le_refl _
  | k + 1, h => by
    rw [List.take_succ_eq_append_getElem (show k < A.length by omega), playL_more]
    exact Nat.le_trans (actL_length _ _) (Nat.succ_le_succ (playL_length A k (by omega)))
theorem actL_ok {l : List TripL} {a : ActL} (h : ∀ t ∈ l, t.ok) (ha : a.t.ok) : ∀ t ∈ actL l a, t.ok := by
  unfold actL
  split
  · exact fun t ht => h t (mem_remL.1 ht).1
  · intro t ht
    unfold addL at ht
    split at ht
    · exact h t ht
    · split at ht
      · exact h t ht
      · split at ht
        · exact h t ht
        · rcases mem_putL.1 ht with rfl | h2
          · exact ha
          · exact h t h2
theorem playL_ok (A : List ActL) (h : ∀ a ∈ A, a.t.ok) : ∀ k, k ≤ A.length → ∀ t ∈ playL (A.take k), t.ok
  | 0, _ => fun t ht => absurd ht List.not_mem_nil
  | k + 1, hk => by
    rw [List.take_succ_eq_append_getElem (show k < A.length by omega), playL_more]
    exact actL_ok (playL_ok A h k (by omega)) (h _ (List.getElem_mem _))
theorem actAt_on {W W' : World} {B g o : Nat} {a : ActL} (h : ActAt W g o a) (hb : Below B W W') (hg : g < B) : ActAt W' g o a := ⟨keptB h.1 hb hg, cellsAt_on h.2 hb hg⟩
theorem pair_on {w0 wr w1 : World} {b : Nat} {R : List TripL} {v : Value} (h : Pair w0 b R v wr) (hb : Below wr.heap.size wr w1) : Pair w0 b R v w1 := by
  obtain ⟨v0, v1, v2, l1, l2, h1, h2, h3, h4⟩ := h
  exact ⟨v0, v1, v2, l1, l2, sto_on h1 hb (Nat.le_refl _), reads_on h2 hb (Nat.le_refl _), h3, h4.trans (hb.mono h4.size)⟩
def PlayR (w : World) (A : List ActL) (b N : Nat) (v i : Value) (wr : World) : Prop := ∃ k : Nat, k ≤ N ∧ k ≤ 60 ∧ i = .int .i64 k ∧ Pair w b (playL (A.take k)) v wr

set_option maxRecDepth 100000 in
set_option maxHeartbeats 8000000 in
theorem storePlays_calls (A : List ActL) (v : Value) (w : World) (hv : ArgA w v A) (hok : ∀ a ∈ A, a.t.ok) :
    Calls Tryz.prog 3 #[v] w fun e w' => e = .returned (.bool true) ∧ Below w.heap.size w w' := by
  obtain ⟨fa, fc, rfl, hf⟩ := hv
  obtain ⟨N, hN⟩ : ∃ N, A.length = N := ⟨_, rfl⟩
  have HF := Lib.hid (show 0 < N → ∃ g o, fa = some ⟨g, o, none⟩ ∧ g < w.heap.size ∧ ∀ j (h : j < A.length), ActAt w g (o + j * 13) A[j] from fun h0 => hf (by rw [hN]; exact h0))
  have HOK := Lib.hid hok
  have HPO := Lib.hid (playL_ok A hok)
  clear hf hok
  rw [hN]
  have HN := Lib.hid hN
  clear hN
  go_enter Tryz.func3, Tryz.ntmps3
  go_wp2_with fail
  refine (new_calls _).mono ?_
  rintro e w1 ⟨rfl, rfl⟩
  obtain ⟨b, hb0⟩ : ∃ b, w.heap.size = b := ⟨_, rfl⟩
  have hs0 := sto_new w w.heap.size (Nat.le_refl _)
  have hb1 := box_below w (.cells #[.slice none 0 0, .slice none 0 0, .slice none 0 0] 70)
  obtain ⟨W1, hW1⟩ : ∃ W1, w.alloc (.cells #[.slice none 0 0, .slice none 0 0, .slice none 0 0] 70) = W1 := ⟨_, rfl⟩
  rw [hW1] at hs0 hb1 ⊢
  have HP0 : Hid (Pair w b [] (.slice (some ⟨W1.heap.size, 0, none⟩) 0 0) (W1.alloc (.cells #[] 29))) := by
    refine ⟨_, _, _, _, _, by rw [← hb0]; exact sto_on hs0 (box_below _ _) (Nat.le_refl _), reads_of (B := w.heap.size) (e := 29) (size := 12) ⟨rfl, .inr ⟨W1.heap.size, 0, #[], rfl, hb1.size, blk_new _ _ _, Nat.le_refl _, Nat.zero_le _, rfl, rfl⟩⟩, fun g hg hF => ?_, hb1.trans ((box_below _ _).mono hb1.size)⟩
    have hg2 : W1.heap.size = g := by injection hg
    rw [← hb0] at hF
    have := (sto_foot hs0 hF).2
    omega
  rw [hb0]
  clear hb1 hs0 hW1
  go_wp2
  go_loopw [4, 5] (fun v i wr => PlayR w A b N v i wr) (fun _ i _ => N - (intOf i).toNat)
  case atStart => exact ⟨0, Nat.zero_le _, by omega, rfl, HP0.out⟩
  case round =>
    clear HP0
    obtain ⟨k, hk, hk6, rfl, v0, v1, v2, l1, l2, hs, hr, hd, hbw⟩ := hrel
    have g1 : (0 : Int) ≤ (k : Int) := by omega
    by_cases hlt : k < N
    · have g2 : (k : Int) < (N : Int) := by omega
      by_cases h60 : k < 60
      · have g3 : (k : Int) < 60 := by omega
        have hkA : k < A.length := by rw [HN.out]; exact hlt
        obtain ⟨g, o, rfl, hg, hrow⟩ := HF.out (by omega)
        have HGW := Lib.hid hg
        have hgr : g < wr.heap.size := Nat.lt_of_lt_of_le hg hbw.size
        have cm0 := Lib.hid (hrow k hkA)
        clear hrow
        have hty := Lib.hid (HOK.out A[k] (List.getElem_mem hkA))
        have HT := Lib.hid (List.take_succ_eq_append_getElem hkA)
        obtain ⟨⟨yo, y⟩, hy⟩ : ∃ a, A[k] = a := ⟨_, rfl⟩
        rw [hy] at cm0 hty HT
        dsimp only at hty
        clear hy
        have HM : Hid (actL (playL (A.take k)) ⟨yo, y⟩ = playL (A.take (k + 1))) := by show _ = _; rw [HT.out, playL_more]
        have hle := Lib.hid (show (playL (A.take k)).length ≤ 60 by have := playL_length A k (by omega); omega)
        have hle2 := Lib.hid (show (playL (A.take (k + 1))).length ≤ 60 by have := playL_length A (k + 1) (by omega); omega)
        have hko := Lib.hid (HPO.out k (by omega))
        have HS := Lib.hid hs
        have HR := Lib.hid hr
        have HD := Lib.hid hd
        have HB := Lib.hid hbw
        clear hs hr hd hbw HT
        obtain ⟨R, hR⟩ : ∃ R, playL (A.take k) = R := ⟨_, rfl⟩
        rw [hR] at HS HR hle hko HM
        clear hR
        obtain ⟨R2, hR2⟩ : ∃ R2, playL (A.take (k + 1)) = R2 := ⟨_, rfl⟩
        rw [hR2] at HM hle2
        have HR2 := Lib.hid hR2
        clear hR2
        have KEYR := Lib.hid (show True from trivial)
        have co := (actAt_on cm0.out HB.out hg).1
        obtain ⟨⟨c0, c1, c2, c3⟩, ⟨c4, c5, c6, c7⟩, ⟨c8, c9, c10, c11⟩⟩ := (actAt_on cm0.out HB.out hg).2
        cases yo with
        | true =>
          have hrm := Lib.hid (fun (v : Value) (W : World) (h : Reads W v R.length (tripCells R)) => rRem_calls R y v W h (by have := hle.out; omega))
          have hsr := Lib.hid (fun (W : World) (h : Sto W w.heap.size b v0 v1 v2 R l1 l2) => remove_calls (Foot b v0 v1 v2) w.heap.size b v0 v1 v2 R l1 l2 y W h (fun i hi => hi))
          have HE := Lib.hid (show remL R y = R2 from HM.out)
          go_wp2_with fail
          refine (hrm.out _ _ HR.out).mono ?_
          rintro e w3 ⟨v', rfl, hown, hb3⟩
          clear c0 c1 c2 c3 c4 c5 c6 c7 c8 c9 c10 c11 co
          have HS3 := Lib.hid (sto_on HS.out hb3 (Nat.le_refl _))
          have HB3 := Lib.hid (HB.out.trans (hb3.mono HB.out.size))
          have HR3 := Lib.hid (reads_of hown)
          have HD3 := Lib.hid (show ∀ g, v'.ownBlock = some g → ¬ Foot b v0 v1 v2 g from fun g hg hF => by have := (sto_foot HS.out hF).2; have := (hown.lt g hg).1; omega)
          rw [HE.out] at HR3
          have hgr3 : g < w3.heap.size := Nat.lt_of_lt_of_le hg HB3.out.size
          obtain ⟨⟨c0, c1, c2, c3⟩, ⟨c4, c5, c6, c7⟩, ⟨c8, c9, c10, c11⟩⟩ := (actAt_on cm0.out HB3.out hg).2
          clear hown hb3
          obtain ⟨D, hD⟩ : ∃ D, decide (y ∈ R) = D := ⟨_, rfl⟩
          rw [hD]
          go_wp2_with fail
          refine (hsr.out _ HS3.out).mono ?_
          rintro e w4 ⟨rfl, hstp⟩
          clear c0 c1 c2 c3 c4 c5 c6 c7 c8 c9 c10 c11
          rw [HE.out] at hstp
          obtain ⟨u0, u1, u2, m1, m2, hs4, hr4, hd4, hb4⟩ := pair_store HS3.out HR3.out HD3.out HB3.out hstp
          have HS4 := Lib.hid hs4
          have HR4 := Lib.hid hr4
          have HD4 := Lib.hid hd4
          have HB4 := Lib.hid hb4
          clear hs4 hr4 hd4 hb4 hstp HS3 HR3 HD3 HB3 HS HR HD HB hrm hsr
          rw [hD]
          clear hD
          obtain ⟨ra, rc, rfl, _⟩ := reads_open HR4.out
          obtain ⟨n2, hn2⟩ : ∃ n2, R2.length = n2 := ⟨_, rfl⟩
          obtain ⟨D2, hD2⟩ : ∃ D2, decide (y ∈ R2) = D2 := ⟨_, rfl⟩
          have HR5 := HR4.out
          rw [hn2] at HR5
          have HN2 := Lib.hid hn2
          have hall := Lib.hid (fun (W : World) (h : Sto W w.heap.size b u0 u1 u2 R2 m1 m2) => all_calls w.heap.size b u0 u1 u2 R2 m1 m2 W h)
          have hlen := Lib.hid (fun (W : World) (h : Sto W w.heap.size b u0 u1 u2 R2 m1 m2) => (show Calls Tryz.prog 16 #[.pointer (some ⟨b, 0, none⟩)] W (fun e w' => e = .returned (.int .i64 n2) ∧ w' = W) from by rw [← hn2]; exact len_calls w.heap.size b u0 u1 u2 R2 m1 m2 W h))
          have hhas := Lib.hid (fun (W : World) (h : Sto W w.heap.size b u0 u1 u2 R2 m1 m2) => (show Calls Tryz.prog 17 #[.pointer (some ⟨b, 0, none⟩), y.v] W (fun e w' => e = .returned (.bool D2) ∧ Below W.heap.size W w') from by rw [← hD2]; exact has_store_calls w.heap.size b u0 u1 u2 R2 m1 m2 y W h))
          have hsam := Lib.hid (fun (x z : Value) (W : World) (h1 : Reads W x n2 (tripCells R2)) (h2 : Reads W z n2 (tripCells R2)) => Same_calls R2 x z W (by have := hle2.out; omega) (by rw [HN2.out]; exact h1) (by rw [HN2.out]; exact h2))
          have hrha := Lib.hid (fun (x : Value) (W : World) (h1 : Reads W x n2 (tripCells R2)) => (show Calls Tryz.prog 18 #[x, y.v] W (fun e w' => e = .returned (.bool D2) ∧ Below W.heap.size W w') from by rw [← hD2]; exact rHas_calls R2 y x W (by rw [HN2.out]; exact h1) (by have := hle2.out; omega)))
          have gn : ((n2 : Int) == (n2 : Int)) = true := by simp
          have gD : (D2 == D2) = true := by cases D2 <;> rfl
          simp only [hn2] at HR5 ⊢
          have HR6 := Lib.hid HR5
          clear hn2 hD2 HR5
          have hw4 := Lib.hid HB4.out.size
          go_wp2_with fail
          refine wp_region_held_drew (S := (fun W => Below w4.heap.size w4 W)) (by kernel_rfl) ?_ (fun hHeld => ?_)
          · (try dsimp only); first | exact Below.refl _ _ | exact (Below.refl _ _).drew
          obtain ⟨w5, hw5⟩ : ∃ w5, w4.drew = w5 := ⟨_, rfl⟩
          rw [hw5]
          have hbn : Below w4.heap.size w4 w5 := by rw [← hw5]; exact (Below.refl _ _).drew
          clear hw5
          refine wpAnyH_take (i := 0) (oi := ⟨some 82, _, _, _, _, _⟩) (v := ?_) rfl (by kernel_rfl) (by kernel_rfl) (by kernel_rfl) (fun _ _ _ h => h) (Or.inl ⟨by kernel_rfl, ?_⟩) (by assumption) ?_
          rotate_left
          · (intro ww hSw; (try dsimp only at hSw); go_simp); (try with_reducible rfl)
          (try simp only [Act.put, List.setIfInBounds_toArray, List.set_cons_zero, List.set_cons_succ])
          refine wpAnyH_take (i := 2) (oi := ⟨some 84, _, _, _, _, _⟩) (v := ?_) rfl (by kernel_rfl) (by kernel_rfl) (by kernel_rfl) (fun _ _ _ h => h) (Or.inl ⟨by kernel_rfl, ?_⟩) (by assumption) ?_
          rotate_left
          · (intro ww hSw; (try dsimp only at hSw); go_simp); (try with_reducible rfl)
          (try simp only [Act.put, List.setIfInBounds_toArray, List.set_cons_zero, List.set_cons_succ])
          refine wpAnyH_ready (rs := [1]) (by kernel_rfl) (by simp) ?_
          refine AllReadyH.cons rfl (fun K hK => ?_) AllReadyH.nil
          go_simp
          refine (hall.out _ (sto_on HS4.out (C := w4.heap.size) (by first | exact hbn | exact hbn.drew) (Nat.le_refl _))).mono ?_
          rintro e wa ⟨va, rfl, howna, hba⟩
          (try replace hba := from_drew hba)
          replace hbn := fb2 hbn hba (Nat.le_refl _)
          have hra := reads_of howna
          rw [HN2.out] at hra
          clear hba howna
          go_wp2_with fail
          refine hK.out _ _ ?_ (fun hHeld => ?_)
          · (try dsimp only); first | exact hbn | exact hbn.drew
          clear hK K
          (try simp only [Act.put, List.setIfInBounds_toArray, List.set_cons_zero, List.set_cons_succ])
          refine wpAnyH_ready (rs := [3]) (by kernel_rfl) (by simp) ?_
          refine AllReadyH.cons rfl (fun K hK => ?_) AllReadyH.nil
          go_simp
          refine (hsam.out _ _ _ (by first | exact hra | exact readsDrew hra) (reads_on HR6.out (B := w4.heap.size) (by first | exact hbn | exact hbn.drew) (Nat.le_refl _))).mono ?_
          rintro e ws ⟨rfl, n, hws⟩
          have hbs : Below w4.heap.size w4 ws := by rw [hws]; first | exact drewN_below hbn n | exact drewN_below hbn.drew n
          clear hra hbn hws
          have hbn := hbs
          clear hbs
          go_wp2_with fail
          refine hK.out _ _ ?_ (fun hHeld => ?_)
          · (try dsimp only); first | exact hbn | exact hbn.drew
          clear hK K
          (try simp only [Act.put, List.setIfInBounds_toArray, List.set_cons_zero, List.set_cons_succ])
          refine wpAnyH_take (i := 4) (oi := ⟨some 86, _, _, _, _, _⟩) (v := ?_) rfl (by kernel_rfl) (by kernel_rfl) (by kernel_rfl) (fun _ _ _ h => h) (Or.inl ⟨by kernel_rfl, ?_⟩) (by assumption) ?_
          rotate_left
          · (intro ww hSw; (try dsimp only at hSw); go_simp); (try with_reducible rfl)
          (try simp only [Act.put, List.setIfInBounds_toArray, List.set_cons_zero, List.set_cons_succ])
          refine wpAnyH_take (i := 5) (oi := ⟨some 87, _, _, _, _, _⟩) (v := ?_) rfl (by kernel_rfl) (by kernel_rfl) (by kernel_rfl) (fun _ _ _ h => h) (Or.inl ⟨by kernel_rfl, ?_⟩) (by assumption) ?_
          rotate_left
          · (intro ww hSw; (try dsimp only at hSw); go_simp); (try with_reducible rfl)
          (try simp only [Act.put, List.setIfInBounds_toArray, List.set_cons_zero, List.set_cons_succ])
          refine wpAnyH_take (i := 6) (oi := ⟨some 88, _, _, _, _, _⟩) (v := ?_) rfl (by kernel_rfl) (by kernel_rfl) (by kernel_rfl) (fun _ _ _ h => h) (Or.inl ⟨by kernel_rfl, ?_⟩) (by assumption) ?_
          rotate_left
          · (intro ww hSw; (try dsimp only at hSw); go_simp); (try with_reducible rfl)
          (try simp only [Act.put, List.setIfInBounds_toArray, List.set_cons_zero, List.set_cons_succ])
          refine wpAnyH_take (i := 8) (oi := ⟨some 90, _, _, _, _, _⟩) (v := ?_) rfl (by kernel_rfl) (by kernel_rfl) (by kernel_rfl) (fun _ _ _ h => h) (Or.inl ⟨by kernel_rfl, ?_⟩) (by assumption) ?_
          rotate_left
          · (intro ww hSw; (try dsimp only at hSw); go_simp); (try with_reducible rfl)
          (try simp only [Act.put, List.setIfInBounds_toArray, List.set_cons_zero, List.set_cons_succ])
          refine wpAnyH_take (i := 9) (oi := ⟨some 91, _, _, _, _, _⟩) (v := ?_) rfl (by kernel_rfl) (by kernel_rfl) (by kernel_rfl) (fun _ _ _ h => h) (Or.inl ⟨by kernel_rfl, ?_⟩) (by assumption) ?_
          rotate_left
          · (intro ww hSw; (try dsimp only at hSw); go_simp); (try with_reducible rfl)
          (try simp only [Act.put, List.setIfInBounds_toArray, List.set_cons_zero, List.set_cons_succ])
          refine wpAnyH_ready (rs := [7]) (by kernel_rfl) (by simp) ?_
          refine AllReadyH.cons rfl (fun K hK => ?_) AllReadyH.nil
          go_simp
          refine (hlen.out _ (sto_on HS4.out (C := w4.heap.size) (by first | exact hbn | exact hbn.drew) (Nat.le_refl _))).mono ?_
          rintro e wl ⟨rfl, rfl⟩
          go_wp2_with fail
          refine hK.out _ _ ?_ (fun hHeld => ?_)
          · (try dsimp only); first | exact hbn | exact hbn.drew
          clear hK K
          (try simp only [Act.put, List.setIfInBounds_toArray, List.set_cons_zero, List.set_cons_succ])
          refine wpAnyH_take (i := 10) (oi := ⟨some 92, _, _, _, _, _⟩) (v := ?_) rfl (by kernel_rfl) (by kernel_rfl) (by kernel_rfl) (fun _ _ _ h => h) (Or.inl ⟨by kernel_rfl, ?_⟩) (by assumption) ?_
          rotate_left
          · (intro ww hSw; (try dsimp only at hSw); go_simp); (try with_reducible rfl)
          (try simp only [Act.put, List.setIfInBounds_toArray, List.set_cons_zero, List.set_cons_succ])
          refine wpAnyH_take (i := 11) (oi := ⟨some 93, _, _, _, _, _⟩) (v := ?_) rfl (by kernel_rfl) (by kernel_rfl) (by kernel_rfl) (fun _ _ _ h => h) (Or.inl ⟨by kernel_rfl, ?_⟩) (by assumption) ?_
          rotate_left
          · (intro ww hSw; (try dsimp only at hSw); go_simp); (try with_reducible rfl)
          (try simp only [Act.put, List.setIfInBounds_toArray, List.set_cons_zero, List.set_cons_succ])
          refine wpAnyH_take (i := 12) (oi := ⟨some 94, _, _, _, _, _⟩) (v := ?_) rfl (by kernel_rfl) (by kernel_rfl) (by kernel_rfl) (fun _ _ _ h => h) (Or.inl ⟨by kernel_rfl, ?_⟩) (by assumption) ?_
          rotate_left
          · (intro ww hSw; (try dsimp only at hSw); go_simp); (try with_reducible rfl)
          (try simp only [Act.put, List.setIfInBounds_toArray, List.set_cons_zero, List.set_cons_succ])
          refine wpAnyH_take (i := 13) (oi := ⟨some 95, _, _, _, _, _⟩) (v := ?_) rfl (by kernel_rfl) (by kernel_rfl) (by kernel_rfl) (fun _ _ _ h => h) (Or.inl ⟨by kernel_rfl, ?_⟩) (by assumption) ?_
          rotate_left
          · (intro ww hSw; (try dsimp only at hSw); go_simp); (try with_reducible rfl)
          (try simp only [Act.put, List.setIfInBounds_toArray, List.set_cons_zero, List.set_cons_succ])
          refine wpAnyH_take (i := 14) (oi := ⟨some 96, _, _, _, _, _⟩) (v := ?_) rfl (by kernel_rfl) (by kernel_rfl) (by kernel_rfl) (fun _ _ _ h => h) (Or.inl ⟨by kernel_rfl, ?_⟩) (by assumption) ?_
          rotate_left
          · (intro ww hSw; (try dsimp only at hSw); go_simp); (try with_reducible rfl)
          (try simp only [Act.put, List.setIfInBounds_toArray, List.set_cons_zero, List.set_cons_succ])
          refine wpAnyH_take (i := 15) (oi := ⟨some 97, _, _, _, _, _⟩) (v := ?_) rfl (by kernel_rfl) (by kernel_rfl) (by kernel_rfl) (fun _ _ _ h => h) (Or.inl ⟨by kernel_rfl, ?_⟩) (by assumption) ?_
          rotate_left
          · (intro ww hSw; (try dsimp only at hSw); go_simp); (try with_reducible rfl)
          (try simp only [Act.put, List.setIfInBounds_toArray, List.set_cons_zero, List.set_cons_succ])
          refine wpAnyH_take (i := 16) (oi := ⟨some 98, _, _, _, _, _⟩) (v := .pointer (some ⟨g, o + k * 13, none⟩)) rfl (by kernel_rfl) (by kernel_rfl) (by kernel_rfl) (fun _ _ _ h => h) (Or.inl ⟨by kernel_rfl, ?_⟩) (by assumption) ?_
          · (intro ww hSw; (try dsimp only at hSw); go_simp)
          (try simp only [Act.put, List.setIfInBounds_toArray, List.set_cons_zero, List.set_cons_succ])
          refine wpAnyH_take (i := 17) (oi := ⟨some 99, _, _, _, _, _⟩) (v := .pointer (some ⟨g, o + k * 13 + 1, none⟩)) rfl (by kernel_rfl) (by kernel_rfl) (by kernel_rfl) (fun _ _ _ h => h) (Or.inl ⟨by kernel_rfl, ?_⟩) (by assumption) ?_
          · (intro ww hSw; (try dsimp only at hSw); go_simp)
          (try simp only [Act.put, List.setIfInBounds_toArray, List.set_cons_zero, List.set_cons_succ])
          refine wpAnyH_take (i := 18) (oi := ⟨some 100, _, _, _, _, _⟩) (v := ?_) rfl (by kernel_rfl) (by kernel_rfl) (by kernel_rfl) (fun _ _ _ h => h) (Or.inl ⟨by kernel_rfl, ?_⟩) (by assumption) ?_
          rotate_left
          · (intro ww hSw; (try dsimp only at hSw); obtain ⟨⟨c0, c1, c2, c3⟩, ⟨c4, c5, c6, c7⟩, ⟨c8, c9, c10, c11⟩⟩ := (actAt_on cm0.out (HB4.out.trans (hSw.mono HB4.out.size)) HGW.out).2; have hgl := Nat.lt_of_lt_of_le HGW.out (Nat.le_trans HB4.out.size hSw.size); go_simp); (try with_reducible rfl)
          (try simp only [Act.put, List.setIfInBounds_toArray, List.set_cons_zero, List.set_cons_succ])
          refine wpAnyH_take (i := 20) (oi := ⟨some 102, _, _, _, _, _⟩) (v := ?_) rfl (by kernel_rfl) (by kernel_rfl) (by kernel_rfl) (fun _ _ _ h => h) (Or.inl ⟨by kernel_rfl, ?_⟩) (by assumption) ?_
          rotate_left
          · (intro ww hSw; (try dsimp only at hSw); go_simp); (try with_reducible rfl)
          (try simp only [Act.put, List.setIfInBounds_toArray, List.set_cons_zero, List.set_cons_succ])
          refine wpAnyH_take (i := 21) (oi := ⟨some 103, _, _, _, _, _⟩) (v := ?_) rfl (by kernel_rfl) (by kernel_rfl) (by kernel_rfl) (fun _ _ _ h => h) (Or.inl ⟨by kernel_rfl, ?_⟩) (by assumption) ?_
          rotate_left
          · (intro ww hSw; (try dsimp only at hSw); go_simp); (try with_reducible rfl)
          (try simp only [Act.put, List.setIfInBounds_toArray, List.set_cons_zero, List.set_cons_succ])
          refine wpAnyH_take (i := 22) (oi := ⟨some 104, _, _, _, _, _⟩) (v := ?_) rfl (by kernel_rfl) (by kernel_rfl) (by kernel_rfl) (fun _ _ _ h => h) (Or.inl ⟨by kernel_rfl, ?_⟩) (by assumption) ?_
          rotate_left
          · (intro ww hSw; (try dsimp only at hSw); go_simp); (try with_reducible rfl)
          (try simp only [Act.put, List.setIfInBounds_toArray, List.set_cons_zero, List.set_cons_succ])
          refine wpAnyH_take (i := 23) (oi := ⟨some 105, _, _, _, _, _⟩) (v := .pointer (some ⟨g, o + k * 13, none⟩)) rfl (by kernel_rfl) (by kernel_rfl) (by kernel_rfl) (fun _ _ _ h => h) (Or.inl ⟨by kernel_rfl, ?_⟩) (by assumption) ?_
          · (intro ww hSw; (try dsimp only at hSw); go_simp)
          (try simp only [Act.put, List.setIfInBounds_toArray, List.set_cons_zero, List.set_cons_succ])
          refine wpAnyH_take (i := 24) (oi := ⟨some 106, _, _, _, _, _⟩) (v := .pointer (some ⟨g, o + k * 13 + 1, none⟩)) rfl (by kernel_rfl) (by kernel_rfl) (by kernel_rfl) (fun _ _ _ h => h) (Or.inl ⟨by kernel_rfl, ?_⟩) (by assumption) ?_
          · (intro ww hSw; (try dsimp only at hSw); go_simp)
          (try simp only [Act.put, List.setIfInBounds_toArray, List.set_cons_zero, List.set_cons_succ])
          refine wpAnyH_take (i := 25) (oi := ⟨some 107, _, _, _, _, _⟩) (v := ?_) rfl (by kernel_rfl) (by kernel_rfl) (by kernel_rfl) (fun _ _ _ h => h) (Or.inl ⟨by kernel_rfl, ?_⟩) (by assumption) ?_
          rotate_left
          · (intro ww hSw; (try dsimp only at hSw); obtain ⟨⟨c0, c1, c2, c3⟩, ⟨c4, c5, c6, c7⟩, ⟨c8, c9, c10, c11⟩⟩ := (actAt_on cm0.out (HB4.out.trans (hSw.mono HB4.out.size)) HGW.out).2; go_simp); (try with_reducible rfl)
          (try simp only [Act.put, List.setIfInBounds_toArray, List.set_cons_zero, List.set_cons_succ])
          refine wpAnyH_ready (rs := [19]) (by kernel_rfl) (by simp) ?_
          refine AllReadyH.cons rfl (fun K hK => ?_) AllReadyH.nil
          go_simp
          refine (hhas.out _ (sto_on HS4.out (C := w4.heap.size) (by first | exact hbn | exact hbn.drew) (Nat.le_refl _))).mono ?_
          rintro e wh ⟨rfl, hbh⟩
          (try replace hbh := from_drew hbh)
          replace hbn := fb2 hbn hbh (Nat.le_refl _)
          clear hbh
          go_wp2_with fail
          refine hK.out _ _ ?_ (fun hHeld => ?_)
          · (try dsimp only); first | exact hbn | exact hbn.drew
          clear hK K
          (try simp only [Act.put, List.setIfInBounds_toArray, List.set_cons_zero, List.set_cons_succ])
          refine wpAnyH_ready (rs := [26]) (by kernel_rfl) (by simp) ?_
          refine AllReadyH.cons rfl (fun K hK => ?_) AllReadyH.nil
          go_simp
          refine (hrha.out _ _ (reads_on HR6.out (B := w4.heap.size) (by first | exact hbn | exact hbn.drew) (Nat.le_refl _))).mono ?_
          rintro e W6 ⟨rfl, hbh⟩
          (try replace hbh := from_drew hbh)
          replace hbn := fb2 hbn hbh (Nat.le_refl _)
          clear hbh
          go_wp2_with fail
          refine hK.out _ _ ?_ (fun hHeld => ?_)
          · (try dsimp only); first | exact hbn | exact hbn.drew
          clear hK K
          (try simp only [Act.put, List.setIfInBounds_toArray, List.set_cons_zero, List.set_cons_succ])
          refine wpAnyH_take (i := 27) (oi := ⟨some 109, _, _, _, _, _⟩) (v := ?_) rfl (by kernel_rfl) (by kernel_rfl) (by kernel_rfl) (fun _ _ _ h => h) (Or.inl ⟨by kernel_rfl, ?_⟩) (by assumption) ?_
          rotate_left
          · (intro ww hSw; (try dsimp only at hSw); go_simp); (try with_reducible rfl)
          (try simp only [Act.put, List.setIfInBounds_toArray, List.set_cons_zero, List.set_cons_succ])
          refine wpAnyH_take (i := 28) (oi := ⟨some 110, _, _, _, _, _⟩) (v := ?_) rfl (by kernel_rfl) (by kernel_rfl) (by kernel_rfl) (fun _ _ _ h => h) (Or.inl ⟨by kernel_rfl, ?_⟩) (by assumption) ?_
          rotate_left
          · (intro ww hSw; (try dsimp only at hSw); go_simp); (try with_reducible rfl)
          (try simp only [Act.put, List.setIfInBounds_toArray, List.set_cons_zero, List.set_cons_succ])
          refine wpAnyH_done (by kernel_rfl) ?_ _
          have HP6 := Lib.hid (pair_on (w0 := w) (b := b) (R := R2) (v := .slice ra n2 rc) (wr := w4) ⟨u0, u1, u2, m1, m2, HS4.out, by rw [HN2.out]; exact HR6.out, (by have := HD4.out; rw [HN2.out] at this; exact this), HB4.out⟩ hbn)
          have HP7 : Hid (Pair w b (playL (A.take (k + 1))) (.slice ra n2 rc) W6) := by show Pair _ _ _ _ _; rw [HR2.out]; exact HP6.out
          clear HP6 hbn
          go_wp2
          go_roundw
          case rel => exact ⟨k + 1, by omega, by omega, by go_num, by first | exact HP7.out | exact pair_on HP7.out (Below.refl _ _).drew⟩
          case measure => simp [intOf]; omega
        | false =>
          have hra := Lib.hid (fun (v : Value) (W : World) (h : Reads W v R.length (tripCells R)) => rAdd_calls R y v W h (by have := hle.out; omega) hty.out hko.out)
          have hsa := Lib.hid (fun (W : World) (h : Sto W w.heap.size b v0 v1 v2 R l1 l2) => add_calls (Foot b v0 v1 v2) w.heap.size b v0 v1 v2 R l1 l2 y W h (fun i hi => hi) hty.out)
          have HE := Lib.hid (show addL R y = R2 from HM.out)
          go_wp2_with fail
          refine (hra.out _ _ HR.out).mono ?_
          rintro e w3 ⟨v', rfl, hr3, hf3, hb3⟩
          clear c0 c1 c2 c3 c4 c5 c6 c7 c8 c9 c10 c11 co
          have HS3 := Lib.hid (sto_on HS.out hb3 (Nat.le_refl _))
          have HB3 := Lib.hid (HB.out.trans (hb3.mono HB.out.size))
          have HD3 := Lib.hid (show ∀ g, v'.ownBlock = some g → ¬ Foot b v0 v1 v2 g from fun g hg hF => by
            rcases hf3 with rfl | hz
            · exact HD.out g hg hF
            · have := (sto_foot HS.out hF).2; have := hz g hg; omega)
          rw [HE.out] at hr3
          have HR3 := Lib.hid hr3
          have hgr3 : g < w3.heap.size := Nat.lt_of_lt_of_le hg HB3.out.size
          obtain ⟨⟨c0, c1, c2, c3⟩, ⟨c4, c5, c6, c7⟩, ⟨c8, c9, c10, c11⟩⟩ := (actAt_on cm0.out HB3.out hg).2
          clear hr3 hf3 hb3
          obtain ⟨D, hD⟩ : ∃ D, addB R y = D := ⟨_, rfl⟩
          obtain ⟨E, hE⟩ : ∃ E, addE R y = E := ⟨_, rfl⟩
          rw [hD, hE]
          go_wp2_with fail
          refine (hsa.out _ HS3.out).mono ?_
          rintro e w4 ⟨rfl, hstp⟩
          clear c0 c1 c2 c3 c4 c5 c6 c7 c8 c9 c10 c11
          rw [HE.out] at hstp
          obtain ⟨u0, u1, u2, m1, m2, hs4, hr4, hd4, hb4⟩ := pair_store HS3.out HR3.out HD3.out HB3.out hstp
          have HS4 := Lib.hid hs4
          have HR4 := Lib.hid hr4
          have HD4 := Lib.hid hd4
          have HB4 := Lib.hid hb4
          clear hs4 hr4 hd4 hb4 hstp HS3 HR3 HD3 HB3 HS HR HD HB hra hsa
          rw [hD, hE]
          clear hD hE
          obtain ⟨ra, rc, rfl, _⟩ := reads_open HR4.out
          obtain ⟨n2, hn2⟩ : ∃ n2, R2.length = n2 := ⟨_, rfl⟩
          obtain ⟨D2, hD2⟩ : ∃ D2, decide (y ∈ R2) = D2 := ⟨_, rfl⟩
          have HR5 := HR4.out
          rw [hn2] at HR5
          have HN2 := Lib.hid hn2
          have hall := Lib.hid (fun (W : World) (h : Sto W w.heap.size b u0 u1 u2 R2 m1 m2) => all_calls w.heap.size b u0 u1 u2 R2 m1 m2 W h)
          have hlen := Lib.hid (fun (W : World) (h : Sto W w.heap.size b u0 u1 u2 R2 m1 m2) => (show Calls Tryz.prog 16 #[.pointer (some ⟨b, 0, none⟩)] W (fun e w' => e = .returned (.int .i64 n2) ∧ w' = W) from by rw [← hn2]; exact len_calls w.heap.size b u0 u1 u2 R2 m1 m2 W h))
          have hhas := Lib.hid (fun (W : World) (h : Sto W w.heap.size b u0 u1 u2 R2 m1 m2) => (show Calls Tryz.prog 17 #[.pointer (some ⟨b, 0, none⟩), y.v] W (fun e w' => e = .returned (.bool D2) ∧ Below W.heap.size W w') from by rw [← hD2]; exact has_store_calls w.heap.size b u0 u1 u2 R2 m1 m2 y W h))
          have hsam := Lib.hid (fun (x z : Value) (W : World) (h1 : Reads W x n2 (tripCells R2)) (h2 : Reads W z n2 (tripCells R2)) => Same_calls R2 x z W (by have := hle2.out; omega) (by rw [HN2.out]; exact h1) (by rw [HN2.out]; exact h2))
          have hrha := Lib.hid (fun (x : Value) (W : World) (h1 : Reads W x n2 (tripCells R2)) => (show Calls Tryz.prog 18 #[x, y.v] W (fun e w' => e = .returned (.bool D2) ∧ Below W.heap.size W w') from by rw [← hD2]; exact rHas_calls R2 y x W (by rw [HN2.out]; exact h1) (by have := hle2.out; omega)))
          have gn : ((n2 : Int) == (n2 : Int)) = true := by simp
          have gD : (D2 == D2) = true := by cases D2 <;> rfl
          simp only [hn2] at HR5 ⊢
          have HR6 := Lib.hid HR5
          clear hn2 hD2 HR5
          have hw4 := Lib.hid HB4.out.size
          go_wp2_with fail
          refine wp_region_held_drew (S := (fun W => Below w4.heap.size w4 W)) (by kernel_rfl) ?_ (fun hHeld => ?_)
          · (try dsimp only); first | exact Below.refl _ _ | exact (Below.refl _ _).drew
          obtain ⟨w5, hw5⟩ : ∃ w5, w4.drew = w5 := ⟨_, rfl⟩
          rw [hw5]
          have hbn : Below w4.heap.size w4 w5 := by rw [← hw5]; exact (Below.refl _ _).drew
          clear hw5
          refine wpAnyH_take (i := 0) (oi := ⟨some 82, _, _, _, _, _⟩) (v := ?_) rfl (by kernel_rfl) (by kernel_rfl) (by kernel_rfl) (fun _ _ _ h => h) (Or.inl ⟨by kernel_rfl, ?_⟩) (by assumption) ?_
          rotate_left
          · (intro ww hSw; (try dsimp only at hSw); go_simp); (try with_reducible rfl)
          (try simp only [Act.put, List.setIfInBounds_toArray, List.set_cons_zero, List.set_cons_succ])
          refine wpAnyH_take (i := 2) (oi := ⟨some 84, _, _, _, _, _⟩) (v := ?_) rfl (by kernel_rfl) (by kernel_rfl) (by kernel_rfl) (fun _ _ _ h => h) (Or.inl ⟨by kernel_rfl, ?_⟩) (by assumption) ?_
          rotate_left
          · (intro ww hSw; (try dsimp only at hSw); go_simp); (try with_reducible rfl)
          (try simp only [Act.put, List.setIfInBounds_toArray, List.set_cons_zero, List.set_cons_succ])
          refine wpAnyH_ready (rs := [1]) (by kernel_rfl) (by simp) ?_
          refine AllReadyH.cons rfl (fun K hK => ?_) AllReadyH.nil
          go_simp
          refine (hall.out _ (sto_on HS4.out (C := w4.heap.size) (by first | exact hbn | exact hbn.drew) (Nat.le_refl _))).mono ?_
          rintro e wa ⟨va, rfl, howna, hba⟩
          (try replace hba := from_drew hba)
          replace hbn := fb2 hbn hba (Nat.le_refl _)
          have hra := reads_of howna
          rw [HN2.out] at hra
          clear hba howna
          go_wp2_with fail
          refine hK.out _ _ ?_ (fun hHeld => ?_)
          · (try dsimp only); first | exact hbn | exact hbn.drew
          clear hK K
          (try simp only [Act.put, List.setIfInBounds_toArray, List.set_cons_zero, List.set_cons_succ])
          refine wpAnyH_ready (rs := [3]) (by kernel_rfl) (by simp) ?_
          refine AllReadyH.cons rfl (fun K hK => ?_) AllReadyH.nil
          go_simp
          refine (hsam.out _ _ _ (by first | exact hra | exact readsDrew hra) (reads_on HR6.out (B := w4.heap.size) (by first | exact hbn | exact hbn.drew) (Nat.le_refl _))).mono ?_
          rintro e ws ⟨rfl, n, hws⟩
          have hbs : Below w4.heap.size w4 ws := by rw [hws]; first | exact drewN_below hbn n | exact drewN_below hbn.drew n
          clear hra hbn hws
          have hbn := hbs
          clear hbs
          go_wp2_with fail
          refine hK.out _ _ ?_ (fun hHeld => ?_)
          · (try dsimp only); first | exact hbn | exact hbn.drew
          clear hK K
          (try simp only [Act.put, List.setIfInBounds_toArray, List.set_cons_zero, List.set_cons_succ])
          refine wpAnyH_take (i := 4) (oi := ⟨some 86, _, _, _, _, _⟩) (v := ?_) rfl (by kernel_rfl) (by kernel_rfl) (by kernel_rfl) (fun _ _ _ h => h) (Or.inl ⟨by kernel_rfl, ?_⟩) (by assumption) ?_
          rotate_left
          · (intro ww hSw; (try dsimp only at hSw); go_simp); (try with_reducible rfl)
          (try simp only [Act.put, List.setIfInBounds_toArray, List.set_cons_zero, List.set_cons_succ])
          refine wpAnyH_take (i := 5) (oi := ⟨some 87, _, _, _, _, _⟩) (v := ?_) rfl (by kernel_rfl) (by kernel_rfl) (by kernel_rfl) (fun _ _ _ h => h) (Or.inl ⟨by kernel_rfl, ?_⟩) (by assumption) ?_
          rotate_left
          · (intro ww hSw; (try dsimp only at hSw); go_simp); (try with_reducible rfl)
          (try simp only [Act.put, List.setIfInBounds_toArray, List.set_cons_zero, List.set_cons_succ])
          refine wpAnyH_take (i := 6) (oi := ⟨some 88, _, _, _, _, _⟩) (v := ?_) rfl (by kernel_rfl) (by kernel_rfl) (by kernel_rfl) (fun _ _ _ h => h) (Or.inl ⟨by kernel_rfl, ?_⟩) (by assumption) ?_
          rotate_left
          · (intro ww hSw; (try dsimp only at hSw); go_simp); (try with_reducible rfl)
          (try simp only [Act.put, List.setIfInBounds_toArray, List.set_cons_zero, List.set_cons_succ])
          refine wpAnyH_take (i := 8) (oi := ⟨some 90, _, _, _, _, _⟩) (v := ?_) rfl (by kernel_rfl) (by kernel_rfl) (by kernel_rfl) (fun _ _ _ h => h) (Or.inl ⟨by kernel_rfl, ?_⟩) (by assumption) ?_
          rotate_left
          · (intro ww hSw; (try dsimp only at hSw); go_simp); (try with_reducible rfl)
          (try simp only [Act.put, List.setIfInBounds_toArray, List.set_cons_zero, List.set_cons_succ])
          refine wpAnyH_take (i := 9) (oi := ⟨some 91, _, _, _, _, _⟩) (v := ?_) rfl (by kernel_rfl) (by kernel_rfl) (by kernel_rfl) (fun _ _ _ h => h) (Or.inl ⟨by kernel_rfl, ?_⟩) (by assumption) ?_
          rotate_left
          · (intro ww hSw; (try dsimp only at hSw); go_simp); (try with_reducible rfl)
          (try simp only [Act.put, List.setIfInBounds_toArray, List.set_cons_zero, List.set_cons_succ])
          refine wpAnyH_ready (rs := [7]) (by kernel_rfl) (by simp) ?_
          refine AllReadyH.cons rfl (fun K hK => ?_) AllReadyH.nil
          go_simp
          refine (hlen.out _ (sto_on HS4.out (C := w4.heap.size) (by first | exact hbn | exact hbn.drew) (Nat.le_refl _))).mono ?_
          rintro e wl ⟨rfl, rfl⟩
          go_wp2_with fail
          refine hK.out _ _ ?_ (fun hHeld => ?_)
          · (try dsimp only); first | exact hbn | exact hbn.drew
          clear hK K
          (try simp only [Act.put, List.setIfInBounds_toArray, List.set_cons_zero, List.set_cons_succ])
          refine wpAnyH_take (i := 10) (oi := ⟨some 92, _, _, _, _, _⟩) (v := ?_) rfl (by kernel_rfl) (by kernel_rfl) (by kernel_rfl) (fun _ _ _ h => h) (Or.inl ⟨by kernel_rfl, ?_⟩) (by assumption) ?_
          rotate_left
          · (intro ww hSw; (try dsimp only at hSw); go_simp); (try with_reducible rfl)
          (try simp only [Act.put, List.setIfInBounds_toArray, List.set_cons_zero, List.set_cons_succ])
          refine wpAnyH_take (i := 11) (oi := ⟨some 93, _, _, _, _, _⟩) (v := ?_) rfl (by kernel_rfl) (by kernel_rfl) (by kernel_rfl) (fun _ _ _ h => h) (Or.inl ⟨by kernel_rfl, ?_⟩) (by assumption) ?_
          rotate_left
          · (intro ww hSw; (try dsimp only at hSw); go_simp); (try with_reducible rfl)
          (try simp only [Act.put, List.setIfInBounds_toArray, List.set_cons_zero, List.set_cons_succ])
          refine wpAnyH_take (i := 12) (oi := ⟨some 94, _, _, _, _, _⟩) (v := ?_) rfl (by kernel_rfl) (by kernel_rfl) (by kernel_rfl) (fun _ _ _ h => h) (Or.inl ⟨by kernel_rfl, ?_⟩) (by assumption) ?_
          rotate_left
          · (intro ww hSw; (try dsimp only at hSw); go_simp); (try with_reducible rfl)
          (try simp only [Act.put, List.setIfInBounds_toArray, List.set_cons_zero, List.set_cons_succ])
          refine wpAnyH_take (i := 13) (oi := ⟨some 95, _, _, _, _, _⟩) (v := ?_) rfl (by kernel_rfl) (by kernel_rfl) (by kernel_rfl) (fun _ _ _ h => h) (Or.inl ⟨by kernel_rfl, ?_⟩) (by assumption) ?_
          rotate_left
          · (intro ww hSw; (try dsimp only at hSw); go_simp); (try with_reducible rfl)
          (try simp only [Act.put, List.setIfInBounds_toArray, List.set_cons_zero, List.set_cons_succ])
          refine wpAnyH_take (i := 14) (oi := ⟨some 96, _, _, _, _, _⟩) (v := ?_) rfl (by kernel_rfl) (by kernel_rfl) (by kernel_rfl) (fun _ _ _ h => h) (Or.inl ⟨by kernel_rfl, ?_⟩) (by assumption) ?_
          rotate_left
          · (intro ww hSw; (try dsimp only at hSw); go_simp); (try with_reducible rfl)
          (try simp only [Act.put, List.setIfInBounds_toArray, List.set_cons_zero, List.set_cons_succ])
          refine wpAnyH_take (i := 15) (oi := ⟨some 97, _, _, _, _, _⟩) (v := ?_) rfl (by kernel_rfl) (by kernel_rfl) (by kernel_rfl) (fun _ _ _ h => h) (Or.inl ⟨by kernel_rfl, ?_⟩) (by assumption) ?_
          rotate_left
          · (intro ww hSw; (try dsimp only at hSw); go_simp); (try with_reducible rfl)
          (try simp only [Act.put, List.setIfInBounds_toArray, List.set_cons_zero, List.set_cons_succ])
          refine wpAnyH_take (i := 16) (oi := ⟨some 98, _, _, _, _, _⟩) (v := .pointer (some ⟨g, o + k * 13, none⟩)) rfl (by kernel_rfl) (by kernel_rfl) (by kernel_rfl) (fun _ _ _ h => h) (Or.inl ⟨by kernel_rfl, ?_⟩) (by assumption) ?_
          · (intro ww hSw; (try dsimp only at hSw); go_simp)
          (try simp only [Act.put, List.setIfInBounds_toArray, List.set_cons_zero, List.set_cons_succ])
          refine wpAnyH_take (i := 17) (oi := ⟨some 99, _, _, _, _, _⟩) (v := .pointer (some ⟨g, o + k * 13 + 1, none⟩)) rfl (by kernel_rfl) (by kernel_rfl) (by kernel_rfl) (fun _ _ _ h => h) (Or.inl ⟨by kernel_rfl, ?_⟩) (by assumption) ?_
          · (intro ww hSw; (try dsimp only at hSw); go_simp)
          (try simp only [Act.put, List.setIfInBounds_toArray, List.set_cons_zero, List.set_cons_succ])
          refine wpAnyH_take (i := 18) (oi := ⟨some 100, _, _, _, _, _⟩) (v := ?_) rfl (by kernel_rfl) (by kernel_rfl) (by kernel_rfl) (fun _ _ _ h => h) (Or.inl ⟨by kernel_rfl, ?_⟩) (by assumption) ?_
          rotate_left
          · (intro ww hSw; (try dsimp only at hSw); obtain ⟨⟨c0, c1, c2, c3⟩, ⟨c4, c5, c6, c7⟩, ⟨c8, c9, c10, c11⟩⟩ := (actAt_on cm0.out (HB4.out.trans (hSw.mono HB4.out.size)) HGW.out).2; have hgl := Nat.lt_of_lt_of_le HGW.out (Nat.le_trans HB4.out.size hSw.size); go_simp); (try with_reducible rfl)
          (try simp only [Act.put, List.setIfInBounds_toArray, List.set_cons_zero, List.set_cons_succ])
          refine wpAnyH_take (i := 20) (oi := ⟨some 102, _, _, _, _, _⟩) (v := ?_) rfl (by kernel_rfl) (by kernel_rfl) (by kernel_rfl) (fun _ _ _ h => h) (Or.inl ⟨by kernel_rfl, ?_⟩) (by assumption) ?_
          rotate_left
          · (intro ww hSw; (try dsimp only at hSw); go_simp); (try with_reducible rfl)
          (try simp only [Act.put, List.setIfInBounds_toArray, List.set_cons_zero, List.set_cons_succ])
          refine wpAnyH_take (i := 21) (oi := ⟨some 103, _, _, _, _, _⟩) (v := ?_) rfl (by kernel_rfl) (by kernel_rfl) (by kernel_rfl) (fun _ _ _ h => h) (Or.inl ⟨by kernel_rfl, ?_⟩) (by assumption) ?_
          rotate_left
          · (intro ww hSw; (try dsimp only at hSw); go_simp); (try with_reducible rfl)
          (try simp only [Act.put, List.setIfInBounds_toArray, List.set_cons_zero, List.set_cons_succ])
          refine wpAnyH_take (i := 22) (oi := ⟨some 104, _, _, _, _, _⟩) (v := ?_) rfl (by kernel_rfl) (by kernel_rfl) (by kernel_rfl) (fun _ _ _ h => h) (Or.inl ⟨by kernel_rfl, ?_⟩) (by assumption) ?_
          rotate_left
          · (intro ww hSw; (try dsimp only at hSw); go_simp); (try with_reducible rfl)
          (try simp only [Act.put, List.setIfInBounds_toArray, List.set_cons_zero, List.set_cons_succ])
          refine wpAnyH_take (i := 23) (oi := ⟨some 105, _, _, _, _, _⟩) (v := .pointer (some ⟨g, o + k * 13, none⟩)) rfl (by kernel_rfl) (by kernel_rfl) (by kernel_rfl) (fun _ _ _ h => h) (Or.inl ⟨by kernel_rfl, ?_⟩) (by assumption) ?_
          · (intro ww hSw; (try dsimp only at hSw); go_simp)
          (try simp only [Act.put, List.setIfInBounds_toArray, List.set_cons_zero, List.set_cons_succ])
          refine wpAnyH_take (i := 24) (oi := ⟨some 106, _, _, _, _, _⟩) (v := .pointer (some ⟨g, o + k * 13 + 1, none⟩)) rfl (by kernel_rfl) (by kernel_rfl) (by kernel_rfl) (fun _ _ _ h => h) (Or.inl ⟨by kernel_rfl, ?_⟩) (by assumption) ?_
          · (intro ww hSw; (try dsimp only at hSw); go_simp)
          (try simp only [Act.put, List.setIfInBounds_toArray, List.set_cons_zero, List.set_cons_succ])
          refine wpAnyH_take (i := 25) (oi := ⟨some 107, _, _, _, _, _⟩) (v := ?_) rfl (by kernel_rfl) (by kernel_rfl) (by kernel_rfl) (fun _ _ _ h => h) (Or.inl ⟨by kernel_rfl, ?_⟩) (by assumption) ?_
          rotate_left
          · (intro ww hSw; (try dsimp only at hSw); obtain ⟨⟨c0, c1, c2, c3⟩, ⟨c4, c5, c6, c7⟩, ⟨c8, c9, c10, c11⟩⟩ := (actAt_on cm0.out (HB4.out.trans (hSw.mono HB4.out.size)) HGW.out).2; go_simp); (try with_reducible rfl)
          (try simp only [Act.put, List.setIfInBounds_toArray, List.set_cons_zero, List.set_cons_succ])
          refine wpAnyH_ready (rs := [19]) (by kernel_rfl) (by simp) ?_
          refine AllReadyH.cons rfl (fun K hK => ?_) AllReadyH.nil
          go_simp
          refine (hhas.out _ (sto_on HS4.out (C := w4.heap.size) (by first | exact hbn | exact hbn.drew) (Nat.le_refl _))).mono ?_
          rintro e wh ⟨rfl, hbh⟩
          (try replace hbh := from_drew hbh)
          replace hbn := fb2 hbn hbh (Nat.le_refl _)
          clear hbh
          go_wp2_with fail
          refine hK.out _ _ ?_ (fun hHeld => ?_)
          · (try dsimp only); first | exact hbn | exact hbn.drew
          clear hK K
          (try simp only [Act.put, List.setIfInBounds_toArray, List.set_cons_zero, List.set_cons_succ])
          refine wpAnyH_ready (rs := [26]) (by kernel_rfl) (by simp) ?_
          refine AllReadyH.cons rfl (fun K hK => ?_) AllReadyH.nil
          go_simp
          refine (hrha.out _ _ (reads_on HR6.out (B := w4.heap.size) (by first | exact hbn | exact hbn.drew) (Nat.le_refl _))).mono ?_
          rintro e W6 ⟨rfl, hbh⟩
          (try replace hbh := from_drew hbh)
          replace hbn := fb2 hbn hbh (Nat.le_refl _)
          clear hbh
          go_wp2_with fail
          refine hK.out _ _ ?_ (fun hHeld => ?_)
          · (try dsimp only); first | exact hbn | exact hbn.drew
          clear hK K
          (try simp only [Act.put, List.setIfInBounds_toArray, List.set_cons_zero, List.set_cons_succ])
          refine wpAnyH_take (i := 27) (oi := ⟨some 109, _, _, _, _, _⟩) (v := ?_) rfl (by kernel_rfl) (by kernel_rfl) (by kernel_rfl) (fun _ _ _ h => h) (Or.inl ⟨by kernel_rfl, ?_⟩) (by assumption) ?_
          rotate_left
          · (intro ww hSw; (try dsimp only at hSw); go_simp); (try with_reducible rfl)
          (try simp only [Act.put, List.setIfInBounds_toArray, List.set_cons_zero, List.set_cons_succ])
          refine wpAnyH_take (i := 28) (oi := ⟨some 110, _, _, _, _, _⟩) (v := ?_) rfl (by kernel_rfl) (by kernel_rfl) (by kernel_rfl) (fun _ _ _ h => h) (Or.inl ⟨by kernel_rfl, ?_⟩) (by assumption) ?_
          rotate_left
          · (intro ww hSw; (try dsimp only at hSw); go_simp); (try with_reducible rfl)
          (try simp only [Act.put, List.setIfInBounds_toArray, List.set_cons_zero, List.set_cons_succ])
          refine wpAnyH_done (by kernel_rfl) ?_ _
          have HP6 := Lib.hid (pair_on (w0 := w) (b := b) (R := R2) (v := .slice ra n2 rc) (wr := w4) ⟨u0, u1, u2, m1, m2, HS4.out, by rw [HN2.out]; exact HR6.out, (by have := HD4.out; rw [HN2.out] at this; exact this), HB4.out⟩ hbn)
          have HP7 : Hid (Pair w b (playL (A.take (k + 1))) (.slice ra n2 rc) W6) := by show Pair _ _ _ _ _; rw [HR2.out]; exact HP6.out
          clear HP6 hbn
          go_wp2
          go_roundw
          case rel => exact ⟨k + 1, by omega, by omega, by go_num, by first | exact HP7.out | exact pair_on HP7.out (Below.refl _ _).drew⟩
          case measure => simp [intOf]; omega
      · have g3 : ¬ (k : Int) < 60 := by omega
        have HB := Lib.hid hbw
        clear hs hr hd hbw
        go_wp2_with fail
        refine (awake_calls _).mono ?_
        rintro e w5 ⟨rfl, hb5⟩
        have HB5 := Lib.hid (first_below HB.out hb5)
        clear hb5
        go_wp2
        go_ret
        exact ⟨rfl, by first | exact HB5.out | exact HB5.out.drew⟩
    · have g2 : ¬ (k : Int) < (N : Int) := by omega
      have HB := Lib.hid hbw
      clear hs hr hd hbw
      go_wp2_with fail
      refine (awake_calls _).mono ?_
      rintro e w5 ⟨rfl, hb5⟩
      have HB5 := Lib.hid (first_below HB.out hb5)
      clear hb5
      go_wp2
      go_ret
      exact ⟨rfl, by first | exact HB5.out | exact HB5.out.drew⟩

end Go.Proofs.YtnojdchodmogbaaGreat
