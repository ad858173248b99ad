/- The law PoolKeeps: it is true of any acts and any text (written by gen/mklawpolkeeps.py). -/
import Derived.Test.YtheefhogphlkiaaPolStep
import Derived.Test.YtheefhogphlkiaaPolCount
import Derived.Test.YtheefhogphlkiaaPolRow
import Derived.Deep.RegionHeld3
namespace Go.Proofs.Ytheefhogphlkiaa
open Go.RowKit

def KeepR (w : World) (A : List ActL) (P N : Nat) (s : ByteArray) (n i : Value) (wr : World) : Prop :=
  ∃ k : Nat, k ≤ N ∧ k ≤ 200 ∧ i = .int .i64 k ∧ n = .int .i64 (bytesN (playL (A.take k)) s : Nat) ∧ ∃ v, PoolT wr w.heap.size P v (playL (A.take k)) ∧ Below w.heap.size w wr
theorem both_all {w w' : World} {B P : Nat} {v z : Value} {L : List MsgL} (h : PoolT w B P v L) (hz : Own w' w.heap.size z L) (hb : Below w.heap.size w w') (hB : B ≤ w.heap.size) : Both w' B P v z L :=
  ⟨pool_on h hb, own_base hz hB, fun g hg e => by have h1 := (own_lt hz g hg).1; have h2 := (own_lt h.own g e).2; omega⟩

set_option maxRecDepth 100000 in
set_option maxHeartbeats 8000000 in
theorem poolKeeps_calls (A : List ActL) (v : Value) (s : ByteArray) (w : World) (hv : ArgA w v A) :
    Calls Try.prog 6 #[v, .string s] w fun e w' => e = .returned (.bool true) ∧ Below w.heap.size w w' := by
  obtain ⟨fa, fc, rfl, hf⟩ := hv
  obtain ⟨N, hN⟩ : ∃ N, A.length = N := ⟨_, rfl⟩
  have HF := Lib.hid (show 0 < N → ∃ g o, fa = some ⟨g, o, none⟩ ∧ g < w.heap.size ∧ ∀ j (h : j < A.length), Act5 w g (o + j * 5) A[j] from fun h0 => hf (by rw [hN]; exact h0))
  rw [hN]
  have HN := Lib.hid hN
  clear hN hf
  obtain ⟨P, hP⟩ : ∃ P, w.heap.size = P := ⟨_, rfl⟩
  obtain ⟨W1, hW1⟩ : ∃ W1, w.alloc (.cells #[.slice none 0 0] 55) = W1 := ⟨_, rfl⟩
  have HP1 := Lib.hid (show PoolT W1 w.heap.size P (.slice none 0 0) [] by rw [← hW1, ← hP]; exact new_pool w _ (Nat.le_refl _))
  have HB1 := Lib.hid (show Below w.heap.size w W1 by rw [← hW1]; exact box_below _ _)
  have HST := Lib.hid (show KeepR w A P N s (.int .i64 0) (.int .i64 0) W1 from ⟨0, Nat.zero_le _, Nat.zero_le _, rfl, rfl, _, HP1.out, HB1.out⟩)
  have HW1 := Lib.hid hW1
  have HPE := Lib.hid hP
  have HLAST := Lib.hid (fun k (hk : k ≤ A.length) => ok_play A k hk)
  clear hP hW1
  go_enter Try.func6, Try.ntmps6
  go_wp2_with fail
  refine (new_calls _).mono ?_
  rintro e w1 ⟨rfl, rfl⟩
  rw [HW1.out, HPE.out]
  go_wp2
  go_loopw [6, 7] (fun n i wr => KeepR w A P N s n i wr) (fun _ i _ => N - (intOf i).toNat)
  case atStart => exact HST.out
  case round =>
    clear HST
    obtain ⟨k, hk, hk6, rfl, rfl, pv, hpool, hbw⟩ := hrel
    have g1 : (0 : Int) ≤ (k : Int) := by omega
    have HALL := Lib.hid (fun W (hW : PoolT W w.heap.size P pv (playL (A.take k))) => all_calls w.heap.size P pv _ W hW)
    have hok := HLAST.out k (by rw [HN.out]; omega)
    have HOK0 := Lib.hid hok
    obtain ⟨R, hR⟩ : ∃ R, playL (A.take k) = R := ⟨_, rfl⟩
    rw [hR] at hpool HALL HOK0
    obtain ⟨b, hb⟩ : ∃ b, bytesN R s = b := ⟨_, rfl⟩
    have hb1 : b ≤ 256 := by rw [← hb]; exact Nat.le_trans (bytesN_le _ _) HOK0.out.2
    have HCN := Lib.hid (fun B' z W (h1 : Own W B' z R) => (show Calls Try.prog 21 #[z, .string s] W (fun e w' => e = .returned (.int .i64 (b : Nat)) ∧ w' = W) from by rw [← hb]; exact lcount_calls B' z R s W h1 (by have := HOK0.out.2; omega)))
    have HPO := Lib.hid hpool
    have HB := Lib.hid hbw
    have HRE := Lib.hid hR
    have HBE := Lib.hid hb
    rw [hR, hb]
    clear hpool hok hbw
    by_cases hlt : k < N
    · have g2 : (k : Int) < (N : Int) := by omega
      by_cases h60 : k < 200
      · have g3 : (k : Int) < 200 := by omega
        have hkA : k < A.length := by rw [HN.out]; exact hlt
        obtain ⟨g, o, rfl, hg, hrow⟩ := HF.out (by omega)
        have HGW := Lib.hid hg
        have HC0 := Lib.hid (hrow k hkA)
        have hT := List.take_succ_eq_append_getElem hkA
        have HOK2 := Lib.hid (HLAST.out (k + 1) (by rw [HN.out]; omega))
        generalize A[k] = y at HC0 hT
        have hM : playL (A.take (k + 1)) = actL R y := by rw [hT, playL_more, hR]
        have hnear := act_near R y s
        rw [hM] at HOK2
        have HSTEP := Lib.hid (fun v z W (hW : Both W w.heap.size P v z R) (hl : w.heap.size ≤ W.heap.size) => step_calls w.heap.size P v z R y W hW hl)
        obtain ⟨R2, hR2⟩ : ∃ R2, actL R y = R2 := ⟨_, rfl⟩
        rw [hR2] at HSTEP hM HOK2 hnear
        obtain ⟨a2, ha2⟩ : ∃ a2, bytesN R2 s = a2 := ⟨_, rfl⟩
        rw [hb, ha2] at hnear
        have ha1 : a2 ≤ 256 := by rw [← ha2]; exact Nat.le_trans (bytesN_le _ _) HOK2.out.2
        have HCN2 := Lib.hid (fun B' z W (h1 : Own W B' z R2) => (show Calls Try.prog 21 #[z, .string s] W (fun e w' => e = .returned (.int .i64 (a2 : Nat)) ∧ w' = W) from by rw [← ha2]; exact lcount_calls B' z R2 s W h1 (by have := HOK2.out.2; omega)))
        have HE := Lib.hid hM
        have HA2 := Lib.hid ha2
        obtain ⟨kd, kn, ⟨mf, mt, mb⟩⟩ := y
        dsimp only at HSTEP hnear
        obtain ⟨t1, t2, t3⟩ := hnear
        have T3 := Lib.hid t3
        clear hT hrow hR2 hM ha2 t3 hR hb
        have q1 : ¬ (1 : Int) < (a2 : Int) - (b : Int) := by omega
        have q2 : ¬ (1 : Int) < (b : Int) - (a2 : Int) := by omega
        clear t1 t2
        go_wp2_with fail
        refine (HALL.out _ HPO.out).mono ?_
        rintro e W3 ⟨z3, rfl, ho3, hb3⟩
        have HO3 := Lib.hid ho3
        have HP3 := Lib.hid (pool_on HPO.out hb3)
        have HB3 := Lib.hid (fb2 HB.out hb3 (Nat.le_refl _))
        clear ho3 hb3
        go_wp2_with fail
        refine (HCN.out _ _ _ HO3.out).mono ?_
        rintro e w' ⟨rfl, hw⟩
        obtain rfl := hw.symm
        clear hw
        go_wp2_with fail
        refine wp_region_held_drew (S := (fun W => Below w.heap.size w W)) (by kernel_rfl) ?_ (fun hHeld => ?_)
        · (try dsimp only); exact HB3.out.drew
        obtain ⟨Wd, hWd⟩ : ∃ Wd, W3.drew = Wd := ⟨_, rfl⟩
        rw [hWd] at hHeld ⊢
        have HBS := Lib.hid (show Below W3.heap.size W3 Wd by rw [← hWd]; exact (Below.refl _ _).drew)
        clear hWd
        refine wpAnyH_take (i := 0) (oi := ⟨some 30, _, _, _, _, _⟩) (v := ?_) rfl (by kernel_rfl) (by kernel_rfl) (by kernel_rfl) (fun _ _ _ h => h) (Or.inl ⟨by kernel_rfl, ?_⟩) (by assumption) ?_
        rotate_left
        · (intro ww hSw; (try dsimp only at hSw); go_simp); (try with_reducible rfl)
        (try simp only [Act.put, List.setIfInBounds_toArray, List.set_cons_zero, List.set_cons_succ])
        refine wpAnyH_take (i := 1) (oi := ⟨some 31, _, _, _, _, _⟩) (v := ?_) rfl (by kernel_rfl) (by kernel_rfl) (by kernel_rfl) (fun _ _ _ h => h) (Or.inl ⟨by kernel_rfl, ?_⟩) (by assumption) ?_
        rotate_left
        · (intro ww hSw; (try dsimp only at hSw); go_simp); (try with_reducible rfl)
        (try simp only [Act.put, List.setIfInBounds_toArray, List.set_cons_zero, List.set_cons_succ])
        refine wpAnyH_take (i := 3) (oi := ⟨some 33, _, _, _, _, _⟩) (v := ?_) rfl (by kernel_rfl) (by kernel_rfl) (by kernel_rfl) (fun _ _ _ h => h) (Or.inl ⟨by kernel_rfl, ?_⟩) (by assumption) ?_
        rotate_left
        · (intro ww hSw; (try dsimp only at hSw); go_simp); (try with_reducible rfl)
        (try simp only [Act.put, List.setIfInBounds_toArray, List.set_cons_zero, List.set_cons_succ])
        refine wpAnyH_take (i := 4) (oi := ⟨some 34, _, _, _, _, _⟩) (v := ?_) rfl (by kernel_rfl) (by kernel_rfl) (by kernel_rfl) (fun _ _ _ h => h) (Or.inl ⟨by kernel_rfl, ?_⟩) (by assumption) ?_
        rotate_left
        · (intro ww hSw; (try dsimp only at hSw); go_simp); (try with_reducible rfl)
        (try simp only [Act.put, List.setIfInBounds_toArray, List.set_cons_zero, List.set_cons_succ])
        refine wpAnyH_take (i := 5) (oi := ⟨some 35, _, _, _, _, _⟩) (v := ?_) rfl (by kernel_rfl) (by kernel_rfl) (by kernel_rfl) (fun _ _ _ h => h) (Or.inl ⟨by kernel_rfl, ?_⟩) (by assumption) ?_
        rotate_left
        · (intro ww hSw; (try dsimp only at hSw); go_simp); (try with_reducible rfl)
        (try simp only [Act.put, List.setIfInBounds_toArray, List.set_cons_zero, List.set_cons_succ])
        refine wpAnyH_take (i := 6) (oi := ⟨some 36, _, _, _, _, _⟩) (v := ?_) rfl (by kernel_rfl) (by kernel_rfl) (by kernel_rfl) (fun _ _ _ h => h) (Or.inl ⟨by kernel_rfl, ?_⟩) (by assumption) ?_
        rotate_left
        · (intro ww hSw; (try dsimp only at hSw); obtain ⟨d0, d1, d2, d3, d4⟩ := HC0.out.on hSw HGW.out; have hgl := Nat.lt_of_lt_of_le HGW.out hSw.size; dsimp only at d0 d1 d2 d3 d4; go_simp); (try with_reducible rfl)
        (try simp only [Act.put, List.setIfInBounds_toArray, List.set_cons_zero, List.set_cons_succ])
        refine wpAnyH_ready (rs := [2]) (by kernel_rfl) (by simp) ?_
        refine AllReadyH.cons rfl (fun K hK => ?_) AllReadyH.nil
        go_simp
        refine (HALL.out Wd (pool_on HP3.out HBS.out)).mono ?_
        rintro e W100 ⟨za, rfl, hoa, hb⟩
        have hbx : Below Wd.heap.size Wd W100 := hb
        clear hb
        have HBO := Lib.hid (both_all (pool_on HP3.out HBS.out) hoa hbx (fb2 HB3.out HBS.out (Nat.le_refl _)).size)
        clear hoa
        replace HBS := Lib.hid (fb2 HBS.out hbx (Nat.le_refl _))
        clear hbx
        go_wp2_with fail
        refine hK.out _ _ ?_ (fun hHeld => ?_)
        · (try dsimp only); first | exact HBZ.out | exact fb2 HB3.out HBS.out (Nat.le_refl _)
        clear hK K
        (try simp only [Act.put, List.setIfInBounds_toArray, List.set_cons_zero, List.set_cons_succ])
        refine wpAnyH_ready (rs := [7]) (by kernel_rfl) (by simp) ?_
        refine AllReadyH.cons rfl (fun K hK => ?_) AllReadyH.nil
        go_simp
        refine (HSTEP.out _ _ W100 HBO.out (fb2 HB3.out HBS.out (Nat.le_refl _)).size).mono ?_
        rintro e W101 ⟨x', rfl, v4, hb4, hbb⟩
        have HH4 := Lib.hid hb4
        have HBZ := Lib.hid ((fb2 HB3.out HBS.out (Nat.le_refl _)).trans hbb)
        clear hb4 hbb
        go_wp2_with fail
        refine hK.out _ _ ?_ (fun hHeld => ?_)
        · (try dsimp only); first | exact HBZ.out | exact fb2 HB3.out HBS.out (Nat.le_refl _)
        clear hK K
        (try simp only [Act.put, List.setIfInBounds_toArray, List.set_cons_zero, List.set_cons_succ])
        refine wpAnyH_take (i := 8) (oi := ⟨some 29, _, _, _, _, _⟩) (v := ?_) rfl (by kernel_rfl) (by kernel_rfl) (by kernel_rfl) (fun _ _ _ h => h) (Or.inl ⟨by kernel_rfl, ?_⟩) (by assumption) ?_
        rotate_left
        · (intro ww hSw; (try dsimp only at hSw); go_simp); (try with_reducible rfl)
        (try simp only [Act.put, List.setIfInBounds_toArray, List.set_cons_zero, List.set_cons_succ])
        refine wpAnyH_take (i := 9) (oi := ⟨some 38, _, _, _, _, _⟩) (v := ?_) rfl (by kernel_rfl) (by kernel_rfl) (by kernel_rfl) (fun _ _ _ h => h) (Or.inl ⟨by kernel_rfl, ?_⟩) (by assumption) ?_
        rotate_left
        · (intro ww hSw; (try dsimp only at hSw); go_simp); (try with_reducible rfl)
        (try simp only [Act.put, List.setIfInBounds_toArray, List.set_cons_zero, List.set_cons_succ])
        refine wpAnyH_take (i := 10) (oi := ⟨some 39, _, _, _, _, _⟩) (v := ?_) rfl (by kernel_rfl) (by kernel_rfl) (by kernel_rfl) (fun _ _ _ h => h) (Or.inl ⟨by kernel_rfl, ?_⟩) (by assumption) ?_
        rotate_left
        · (intro ww hSw; (try dsimp only at hSw); go_simp); (try with_reducible rfl)
        (try simp only [Act.put, List.setIfInBounds_toArray, List.set_cons_zero, List.set_cons_succ])
        refine wpAnyH_take (i := 11) (oi := ⟨some 9, _, _, _, _, _⟩) (v := ?_) rfl (by kernel_rfl) (by kernel_rfl) (by kernel_rfl) (fun _ _ _ h => h) (Or.inl ⟨by kernel_rfl, ?_⟩) (by assumption) ?_
        rotate_left
        · (intro ww hSw; (try dsimp only at hSw); go_simp); (try with_reducible rfl)
        (try simp only [Act.put, List.setIfInBounds_toArray, List.set_cons_zero, List.set_cons_succ])
        refine wpAnyH_take (i := 12) (oi := ⟨some 10, _, _, _, _, _⟩) (v := ?_) rfl (by kernel_rfl) (by kernel_rfl) (by kernel_rfl) (fun _ _ _ h => h) (Or.inl ⟨by kernel_rfl, ?_⟩) (by assumption) ?_
        rotate_left
        · (intro ww hSw; (try dsimp only at hSw); go_simp); (try with_reducible rfl)
        (try simp only [Act.put, List.setIfInBounds_toArray, List.set_cons_zero, List.set_cons_succ])
        refine wpAnyH_done (by kernel_rfl) ?_ _
        have HG4 := Lib.hid (show g < W101.heap.size from Nat.lt_of_lt_of_le HGW.out HBZ.out.size)
        go_wp2_with fail
        refine (HCN2.out _ _ _ HH4.out.row).mono ?_
        rintro e w' ⟨rfl, hw⟩
        obtain rfl := hw.symm
        clear hw
        obtain ⟨c0, c1, c2, c3, c4⟩ := HC0.out.on HBZ.out HGW.out
        dsimp only at c0 c1 c2 c3 c4
        have hg4 := HG4.out
        by_cases h0 : kd = 0
        · have q3 : (kd == 0) = true := beq_iff_eq.2 h0
          have q4 : ¬ (a2 : Int) < (b : Int) := by have := T3.out h0; omega
          clear h0
          go_wp2
          go_roundw
          case rel => exact ⟨k + 1, by omega, by omega, by go_num, by rw [HE.out, HA2.out]; go_num, v4, by rw [HE.out]; exact HH4.out.pool, HBZ.out⟩
          case measure => simp [intOf]; omega
        · have q3 : (kd == 0) = false := beq_eq_false_iff_ne.2 h0
          clear h0
          go_wp2
          go_roundw
          case rel => exact ⟨k + 1, by omega, by omega, by go_num, by rw [HE.out, HA2.out]; go_num, v4, by rw [HE.out]; exact HH4.out.pool, HBZ.out⟩
          case measure => simp [intOf]; omega
      · have g3 : ¬ (k : Int) < 200 := by omega
        clear hR hb
        go_wp2_with fail
        refine (HALL.out _ HPO.out).mono ?_
        rintro e W3 ⟨z3, rfl, ho3, hb3⟩
        have HO3 := Lib.hid ho3
        have HB3 := Lib.hid (fb2 HB.out hb3 (Nat.le_refl _))
        clear ho3 hb3
        go_wp2_with fail
        refine (HCN.out _ _ _ HO3.out).mono ?_
        rintro e w' ⟨rfl, hw⟩
        obtain rfl := hw.symm
        clear hw
        have gb : ((b : Int) == (b : Int)) = true := by simp
        go_wp2_with fail
        refine (awake_calls _).mono ?_
        rintro e W6 ⟨rfl, hb6⟩
        have hbz := fb2 HB3.out hb6 (Nat.le_refl _)
        go_wp2
        go_ret
        exact ⟨rfl, hbz⟩
    · have g2 : ¬ (k : Int) < (N : Int) := by omega
      clear hR hb
      go_wp2_with fail
      refine (HALL.out _ HPO.out).mono ?_
      rintro e W3 ⟨z3, rfl, ho3, hb3⟩
      have HO3 := Lib.hid ho3
      have HB3 := Lib.hid (fb2 HB.out hb3 (Nat.le_refl _))
      clear ho3 hb3
      go_wp2_with fail
      refine (HCN.out _ _ _ HO3.out).mono ?_
      rintro e w' ⟨rfl, hw⟩
      obtain rfl := hw.symm
      clear hw
      have gb : ((b : Int) == (b : Int)) = true := by simp
      go_wp2_with fail
      refine (awake_calls _).mono ?_
      rintro e W6 ⟨rfl, hb6⟩
      have hbz := fb2 HB3.out hb6 (Nat.le_refl _)
      go_wp2
      go_ret
      exact ⟨rfl, hbz⟩

end Go.Proofs.Ytheefhogphlkiaa
