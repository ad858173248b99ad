/- The law PoolPlays: it is true of any acts (written by gen/mklawpolplays.py). -/
import Derived.Test.YtheefhogphlkiaaPolStep
import Derived.Test.YtheefhogphlkiaaPolCount
import Derived.Test.YtheefhogphlkiaaPolRow
import Derived.Deep.RegionHeld3
namespace Go.Proofs.Ytheefhogphlkiaa
open Go.RowKit

theorem len_below (B P : Nat) (v : Value) (L : List MsgL) (w : World) (h : PoolT w B P v L) :
    Calls Try.prog 12 #[.pointer (some ⟨P, 0, none⟩)] w fun e w' => e = .returned (.int .i64 L.length) ∧ Below w.heap.size w w' :=
  (len_calls B P v L w h).mono fun e w' ⟨h1, h2⟩ => ⟨h1, by rw [h2]; exact Below.refl _ _⟩
theorem rCount_below (B : Nat) (x : Value) (L : List MsgL) (to : Int) (w : World) (h : Own w B x L) (hsm : L.length ≤ 100000) :
    Calls Try.prog 14 #[x, .int .i64 to] w fun e w' => e = .returned (.int .i64 (toN L to : Nat)) ∧ Below w.heap.size w w' :=
  (rCount_calls B x L to w h hsm).mono fun e w' ⟨h1, h2⟩ => ⟨h1, by rw [h2]; exact Below.refl _ _⟩
def PlayR (w : World) (A : List ActL) (P N M : Nat) (x i : Value) (wr : World) : Prop := ∃ k : Nat, k ≤ N ∧ k ≤ M ∧ i = .int .i64 k ∧ ∃ v, Both wr w.heap.size P v x (playL (A.take k)) ∧ Below w.heap.size w wr

set_option maxRecDepth 100000 in
set_option maxHeartbeats 8000000 in
theorem poolPlays_calls (A : List ActL) (v : Value) (w : World) (hv : ArgA w v A) :
    Calls Try.prog 3 #[v] w fun e w' => e = .returned (.bool true) ∧ Below w.heap.size w w' := by
  obtain ⟨fa, fc, rfl, hf⟩ := hv
  obtain ⟨N, hN⟩ : ∃ N, A.length = N := ⟨_, rfl⟩
  have HF := Lib.hid (show 0 < N → ∃ g o, fa = some ⟨g, o, none⟩ ∧ g < w.heap.size ∧ ∀ j (h : j < A.length), Act5 w g (o + j * 5) A[j] from fun h0 => hf (by rw [hN]; exact h0))
  rw [hN]
  have HN := Lib.hid hN
  clear hN hf
  obtain ⟨P, hP⟩ : ∃ P, w.heap.size = P := ⟨_, rfl⟩
  obtain ⟨W1, hW1⟩ : ∃ W1, w.alloc (.cells #[.slice none 0 0] 55) = W1 := ⟨_, rfl⟩
  have HP1 := Lib.hid (show PoolT W1 w.heap.size P (.slice none 0 0) [] by rw [← hW1, ← hP]; exact new_pool w _ (Nat.le_refl _))
  have HB1 := Lib.hid (show Below w.heap.size w W1 by rw [← hW1]; exact box_below _ _)
  have HST := Lib.hid (show PlayR w A P N 300 (.slice (some ⟨W1.heap.size, 0, none⟩) 0 0) (.int .i64 0) (W1.alloc (.cells #[] 29)) from
    ⟨0, Nat.zero_le _, Nat.zero_le _, rfl, _, ⟨pool_on HP1.out (box_below _ _), own_base (own_empty W1) HB1.out.size, fun g _ e => by cases e⟩, HB1.out.alloc HB1.out.size _⟩)
  have HW1 := Lib.hid hW1
  have HPE := Lib.hid hP
  clear hP hW1
  go_enter Try.func3, Try.ntmps3
  go_wp2_with fail
  refine (new_calls _).mono ?_
  rintro e w1 ⟨rfl, rfl⟩
  rw [HW1.out, HPE.out]
  go_wp2
  go_loopw [4, 5] (fun x i wr => PlayR w A P N 300 x i wr) (fun _ i _ => N - (intOf i).toNat)
  case atStart => exact HST.out
  case round =>
    clear HST
    obtain ⟨k, hk, hk6, rfl, pv, hboth, hbw⟩ := hrel
    have g1 : (0 : Int) ≤ (k : Int) := by omega
    by_cases hlt : k < N
    · have g2 : (k : Int) < (N : Int) := by omega
      by_cases h60 : k < 300
      · have g3 : (k : Int) < 300 := by omega
        have hkA : k < A.length := by rw [HN.out]; exact hlt
        obtain ⟨g, o, rfl, hg, hrow⟩ := HF.out (by omega)
        have HGW := Lib.hid hg
        have HC0 := Lib.hid (hrow k hkA)
        have hT := List.take_succ_eq_append_getElem hkA
        have HOKR := Lib.hid (ok_play A (k + 1) (by omega))
        generalize A[k] = y at HC0 hT
        have HM : Hid (playL (A.take (k + 1)) = actL (playL (A.take k)) y) := by show _ = _; rw [hT, playL_more]
        clear hT hrow
        obtain ⟨R, hR⟩ : ∃ R, playL (A.take k) = R := ⟨_, rfl⟩
        rw [hR] at hboth HM
        clear hR
        have HS := Lib.hid (step_calls w.heap.size P pv _ R y wr hboth hbw.size)
        have HMo := HM.out
        have HOKo := HOKR.out
        rw [HMo] at HOKo
        obtain ⟨R2, hR2⟩ : ∃ R2, actL R y = R2 := ⟨_, rfl⟩
        rw [hR2] at HS HMo HOKo
        have HOK := Lib.hid HOKo
        have HB := Lib.hid hbw
        have HE := Lib.hid HMo
        have hgr : g < wr.heap.size := Nat.lt_of_lt_of_le hg hbw.size
        obtain ⟨c0, c1, c2, c3, c4⟩ := HC0.out.on hbw hg
        obtain ⟨kd, kn, ⟨mf, mt, mb⟩⟩ := y
        dsimp only at c0 c1 c2 c3 c4 HS
        clear hboth hbw hR2 HMo HOKo HM HOKR
        go_wp2_with fail
        refine HS.out.mono ?_
        rintro e W4 ⟨x', rfl, v4, hb4, hbb⟩
        have HH4 := Lib.hid hb4
        have HB4 := Lib.hid (HB.out.trans hbb)
        have HG4 := Lib.hid (show g < W4.heap.size from Nat.lt_of_lt_of_le HGW.out HB4.out.size)
        clear c0 c1 c2 c3 c4 hb4 hbb hgr
        obtain ⟨xa, xc, rfl⟩ := own_slice HH4.out.row
        obtain ⟨n2, hn2⟩ : ∃ n2, R2.length = n2 := ⟨_, rfl⟩
        have HALL := Lib.hid (fun W (hW : PoolT W w.heap.size P v4 R2) => all_calls w.heap.size P v4 R2 W hW)
        have HSAM := Lib.hid (fun B' z u W (h1 : Own W B' z R2) (h2 : Own W w.heap.size u R2) => same_calls B' w.heap.size z u R2 W h1 h2 (by have := HOK.out.2; omega))
        have HLEN := Lib.hid (fun W (hW : PoolT W w.heap.size P v4 R2) => len_below w.heap.size P v4 R2 W hW)
        have HCNT := Lib.hid (fun W (hW : PoolT W w.heap.size P v4 R2) => count_calls w.heap.size P v4 R2 mt W hW)
        have HRCN := Lib.hid (fun u W (h2 : Own W w.heap.size u R2) => rCount_below w.heap.size u R2 mt W h2 (by have := HOK.out.2; omega))
        obtain ⟨tn, htn⟩ : ∃ tn, toN R2 mt = tn := ⟨_, rfl⟩
        rw [hn2] at HLEN
        rw [htn] at HCNT HRCN
        have HN2 := Lib.hid hn2
        have HH5 := HH4.out.row
        have HHN := Lib.hid HH4.out
        rw [hn2] at HH5 HHN ⊢
        have HRO := Lib.hid HH5
        have gn : ((n2 : Int) == (n2 : Int)) = true := by simp
        have gt : ((tn : Int) == (tn : Int)) = true := by simp
        clear hn2 htn HH5
        go_wp2_with fail
        refine wp_region_held_drew (S := (fun W => Below W4.heap.size W4 W)) (by kernel_rfl) ?_ (fun hHeld => ?_)
        · (try dsimp only); exact (Below.refl _ _).drew
        obtain ⟨Wd, hWd⟩ : ∃ Wd, W4.drew = Wd := ⟨_, rfl⟩
        rw [hWd] at hHeld ⊢
        have HBS := Lib.hid (show Below W4.heap.size W4 Wd by rw [← hWd]; exact (Below.refl _ _).drew)
        clear hWd
        refine wpAnyH_take (i := 0) (oi := ⟨some 33, _, _, _, _, _⟩) (v := ?_) rfl (by kernel_rfl) (by kernel_rfl) (by kernel_rfl) (fun _ _ _ h => h) (Or.inl ⟨by kernel_rfl, ?_⟩) (by assumption) ?_
        rotate_left
        · (intro ww hSw; (try dsimp only at hSw); go_simp); (try with_reducible rfl)
        (try simp only [Act.put, List.setIfInBounds_toArray, List.set_cons_zero, List.set_cons_succ])
        refine wpAnyH_take (i := 1) (oi := ⟨some 34, _, _, _, _, _⟩) (v := ?_) rfl (by kernel_rfl) (by kernel_rfl) (by kernel_rfl) (fun _ _ _ h => h) (Or.inl ⟨by kernel_rfl, ?_⟩) (by assumption) ?_
        rotate_left
        · (intro ww hSw; (try dsimp only at hSw); go_simp); (try with_reducible rfl)
        (try simp only [Act.put, List.setIfInBounds_toArray, List.set_cons_zero, List.set_cons_succ])
        refine wpAnyH_take (i := 2) (oi := ⟨some 35, _, _, _, _, _⟩) (v := ?_) rfl (by kernel_rfl) (by kernel_rfl) (by kernel_rfl) (fun _ _ _ h => h) (Or.inl ⟨by kernel_rfl, ?_⟩) (by assumption) ?_
        rotate_left
        · (intro ww hSw; (try dsimp only at hSw); go_simp); (try with_reducible rfl)
        (try simp only [Act.put, List.setIfInBounds_toArray, List.set_cons_zero, List.set_cons_succ])
        refine wpAnyH_take (i := 3) (oi := ⟨some 36, _, _, _, _, _⟩) (v := ?_) rfl (by kernel_rfl) (by kernel_rfl) (by kernel_rfl) (fun _ _ _ h => h) (Or.inl ⟨by kernel_rfl, ?_⟩) (by assumption) ?_
        rotate_left
        · (intro ww hSw; (try dsimp only at hSw); go_simp); (try with_reducible rfl)
        (try simp only [Act.put, List.setIfInBounds_toArray, List.set_cons_zero, List.set_cons_succ])
        refine wpAnyH_take (i := 5) (oi := ⟨some 38, _, _, _, _, _⟩) (v := ?_) rfl (by kernel_rfl) (by kernel_rfl) (by kernel_rfl) (fun _ _ _ h => h) (Or.inl ⟨by kernel_rfl, ?_⟩) (by assumption) ?_
        rotate_left
        · (intro ww hSw; (try dsimp only at hSw); go_simp); (try with_reducible rfl)
        (try simp only [Act.put, List.setIfInBounds_toArray, List.set_cons_zero, List.set_cons_succ])
        refine wpAnyH_ready (rs := [4]) (by kernel_rfl) (by simp) ?_
        refine AllReadyH.cons rfl (fun K hK => ?_) AllReadyH.nil
        go_simp
        refine (HALL.out Wd (pool_on HH4.out.pool HBS.out)).mono ?_
        rintro e W100 ⟨za, rfl, hoa, hb⟩
        have hbx : Below Wd.heap.size Wd W100 := hb
        clear hb
        have HOA := Lib.hid hoa
        clear hoa
        replace HBS := Lib.hid (fb2 HBS.out hbx (Nat.le_refl _))
        clear hbx
        go_wp2_with fail
        refine hK.out _ _ ?_ (fun hHeld => ?_)
        · (try dsimp only); exact HBS.out
        clear hK K
        (try simp only [Act.put, List.setIfInBounds_toArray, List.set_cons_zero, List.set_cons_succ])
        refine wpAnyH_ready (rs := [6]) (by kernel_rfl) (by simp) ?_
        refine AllReadyH.cons rfl (fun K hK => ?_) AllReadyH.nil
        go_simp
        refine (HSAM.out _ _ _ W100 HOA.out (own_on HRO.out HBS.out)).mono ?_
        rintro e W101 ⟨rfl, hb⟩
        have hbx : Below W100.heap.size W100 W101 := hb
        clear hb
        replace HOA := Lib.hid (own_on HOA.out hbx)
        replace HBS := Lib.hid (fb2 HBS.out hbx (Nat.le_refl _))
        clear hbx
        go_wp2_with fail
        refine hK.out _ _ ?_ (fun hHeld => ?_)
        · (try dsimp only); exact HBS.out
        clear hK K
        (try simp only [Act.put, List.setIfInBounds_toArray, List.set_cons_zero, List.set_cons_succ])
        refine wpAnyH_take (i := 7) (oi := ⟨some 40, _, _, _, _, _⟩) (v := ?_) rfl (by kernel_rfl) (by kernel_rfl) (by kernel_rfl) (fun _ _ _ h => h) (Or.inl ⟨by kernel_rfl, ?_⟩) (by assumption) ?_
        rotate_left
        · (intro ww hSw; (try dsimp only at hSw); go_simp); (try with_reducible rfl)
        (try simp only [Act.put, List.setIfInBounds_toArray, List.set_cons_zero, List.set_cons_succ])
        refine wpAnyH_take (i := 8) (oi := ⟨some 41, _, _, _, _, _⟩) (v := ?_) rfl (by kernel_rfl) (by kernel_rfl) (by kernel_rfl) (fun _ _ _ h => h) (Or.inl ⟨by kernel_rfl, ?_⟩) (by assumption) ?_
        rotate_left
        · (intro ww hSw; (try dsimp only at hSw); go_simp); (try with_reducible rfl)
        (try simp only [Act.put, List.setIfInBounds_toArray, List.set_cons_zero, List.set_cons_succ])
        refine wpAnyH_take (i := 9) (oi := ⟨some 42, _, _, _, _, _⟩) (v := ?_) rfl (by kernel_rfl) (by kernel_rfl) (by kernel_rfl) (fun _ _ _ h => h) (Or.inl ⟨by kernel_rfl, ?_⟩) (by assumption) ?_
        rotate_left
        · (intro ww hSw; (try dsimp only at hSw); go_simp); (try with_reducible rfl)
        (try simp only [Act.put, List.setIfInBounds_toArray, List.set_cons_zero, List.set_cons_succ])
        refine wpAnyH_take (i := 10) (oi := ⟨some 43, _, _, _, _, _⟩) (v := ?_) rfl (by kernel_rfl) (by kernel_rfl) (by kernel_rfl) (fun _ _ _ h => h) (Or.inl ⟨by kernel_rfl, ?_⟩) (by assumption) ?_
        rotate_left
        · (intro ww hSw; (try dsimp only at hSw); go_simp); (try with_reducible rfl)
        (try simp only [Act.put, List.setIfInBounds_toArray, List.set_cons_zero, List.set_cons_succ])
        refine wpAnyH_take (i := 12) (oi := ⟨some 45, _, _, _, _, _⟩) (v := ?_) rfl (by kernel_rfl) (by kernel_rfl) (by kernel_rfl) (fun _ _ _ h => h) (Or.inl ⟨by kernel_rfl, ?_⟩) (by assumption) ?_
        rotate_left
        · (intro ww hSw; (try dsimp only at hSw); go_simp); (try with_reducible rfl)
        (try simp only [Act.put, List.setIfInBounds_toArray, List.set_cons_zero, List.set_cons_succ])
        refine wpAnyH_take (i := 13) (oi := ⟨some 46, _, _, _, _, _⟩) (v := ?_) rfl (by kernel_rfl) (by kernel_rfl) (by kernel_rfl) (fun _ _ _ h => h) (Or.inl ⟨by kernel_rfl, ?_⟩) (by assumption) ?_
        rotate_left
        · (intro ww hSw; (try dsimp only at hSw); go_simp); (try with_reducible rfl)
        (try simp only [Act.put, List.setIfInBounds_toArray, List.set_cons_zero, List.set_cons_succ])
        refine wpAnyH_ready (rs := [11]) (by kernel_rfl) (by simp) ?_
        refine AllReadyH.cons rfl (fun K hK => ?_) AllReadyH.nil
        go_simp
        refine (HLEN.out W101 (pool_on HH4.out.pool HBS.out)).mono ?_
        rintro e W102 ⟨rfl, hb⟩
        have hbx : Below W101.heap.size W101 W102 := hb
        clear hb
        replace HOA := Lib.hid (own_on HOA.out hbx)
        replace HBS := Lib.hid (fb2 HBS.out hbx (Nat.le_refl _))
        clear hbx
        go_wp2_with fail
        refine hK.out _ _ ?_ (fun hHeld => ?_)
        · (try dsimp only); exact HBS.out
        clear hK K
        (try simp only [Act.put, List.setIfInBounds_toArray, List.set_cons_zero, List.set_cons_succ])
        refine wpAnyH_take (i := 14) (oi := ⟨some 47, _, _, _, _, _⟩) (v := ?_) rfl (by kernel_rfl) (by kernel_rfl) (by kernel_rfl) (fun _ _ _ h => h) (Or.inl ⟨by kernel_rfl, ?_⟩) (by assumption) ?_
        rotate_left
        · (intro ww hSw; (try dsimp only at hSw); go_simp); (try with_reducible rfl)
        (try simp only [Act.put, List.setIfInBounds_toArray, List.set_cons_zero, List.set_cons_succ])
        refine wpAnyH_take (i := 15) (oi := ⟨some 48, _, _, _, _, _⟩) (v := ?_) rfl (by kernel_rfl) (by kernel_rfl) (by kernel_rfl) (fun _ _ _ h => h) (Or.inl ⟨by kernel_rfl, ?_⟩) (by assumption) ?_
        rotate_left
        · (intro ww hSw; (try dsimp only at hSw); go_simp); (try with_reducible rfl)
        (try simp only [Act.put, List.setIfInBounds_toArray, List.set_cons_zero, List.set_cons_succ])
        refine wpAnyH_take (i := 16) (oi := ⟨some 49, _, _, _, _, _⟩) (v := ?_) rfl (by kernel_rfl) (by kernel_rfl) (by kernel_rfl) (fun _ _ _ h => h) (Or.inl ⟨by kernel_rfl, ?_⟩) (by assumption) ?_
        rotate_left
        · (intro ww hSw; (try dsimp only at hSw); go_simp); (try with_reducible rfl)
        (try simp only [Act.put, List.setIfInBounds_toArray, List.set_cons_zero, List.set_cons_succ])
        refine wpAnyH_take (i := 17) (oi := ⟨some 50, _, _, _, _, _⟩) (v := ?_) rfl (by kernel_rfl) (by kernel_rfl) (by kernel_rfl) (fun _ _ _ h => h) (Or.inl ⟨by kernel_rfl, ?_⟩) (by assumption) ?_
        rotate_left
        · (intro ww hSw; (try dsimp only at hSw); go_simp); (try with_reducible rfl)
        (try simp only [Act.put, List.setIfInBounds_toArray, List.set_cons_zero, List.set_cons_succ])
        refine wpAnyH_take (i := 18) (oi := ⟨some 51, _, _, _, _, _⟩) (v := ?_) rfl (by kernel_rfl) (by kernel_rfl) (by kernel_rfl) (fun _ _ _ h => h) (Or.inl ⟨by kernel_rfl, ?_⟩) (by assumption) ?_
        rotate_left
        · (intro ww hSw; (try dsimp only at hSw); go_simp); (try with_reducible rfl)
        (try simp only [Act.put, List.setIfInBounds_toArray, List.set_cons_zero, List.set_cons_succ])
        refine wpAnyH_take (i := 19) (oi := ⟨some 52, _, _, _, _, _⟩) (v := ?_) rfl (by kernel_rfl) (by kernel_rfl) (by kernel_rfl) (fun _ _ _ h => h) (Or.inl ⟨by kernel_rfl, ?_⟩) (by assumption) ?_
        rotate_left
        · (intro ww hSw; (try dsimp only at hSw); go_simp); (try with_reducible rfl)
        (try simp only [Act.put, List.setIfInBounds_toArray, List.set_cons_zero, List.set_cons_succ])
        refine wpAnyH_take (i := 20) (oi := ⟨some 53, _, _, _, _, _⟩) (v := ?_) rfl (by kernel_rfl) (by kernel_rfl) (by kernel_rfl) (fun _ _ _ h => h) (Or.inl ⟨by kernel_rfl, ?_⟩) (by assumption) ?_
        rotate_left
        · (intro ww hSw; (try dsimp only at hSw); go_simp); (try with_reducible rfl)
        (try simp only [Act.put, List.setIfInBounds_toArray, List.set_cons_zero, List.set_cons_succ])
        refine wpAnyH_take (i := 21) (oi := ⟨some 54, _, _, _, _, _⟩) (v := ?_) rfl (by kernel_rfl) (by kernel_rfl) (by kernel_rfl) (fun _ _ _ h => h) (Or.inl ⟨by kernel_rfl, ?_⟩) (by assumption) ?_
        rotate_left
        · (intro ww hSw; (try dsimp only at hSw); go_simp); (try with_reducible rfl)
        (try simp only [Act.put, List.setIfInBounds_toArray, List.set_cons_zero, List.set_cons_succ])
        refine wpAnyH_take (i := 22) (oi := ⟨some 55, _, _, _, _, _⟩) (v := ?_) rfl (by kernel_rfl) (by kernel_rfl) (by kernel_rfl) (fun _ _ _ h => h) (Or.inl ⟨by kernel_rfl, ?_⟩) (by assumption) ?_
        rotate_left
        · (intro ww hSw; (try dsimp only at hSw); go_simp); (try with_reducible rfl)
        (try simp only [Act.put, List.setIfInBounds_toArray, List.set_cons_zero, List.set_cons_succ])
        refine wpAnyH_take (i := 23) (oi := ⟨some 56, _, _, _, _, _⟩) (v := ?_) rfl (by kernel_rfl) (by kernel_rfl) (by kernel_rfl) (fun _ _ _ h => h) (Or.inl ⟨by kernel_rfl, ?_⟩) (by assumption) ?_
        rotate_left
        · (intro ww hSw; (try dsimp only at hSw); obtain ⟨d0, d1, d2, d3, d4⟩ := HC0.out.on (HB4.out.trans (hSw.mono HB4.out.size)) HGW.out; have hgl := Nat.lt_of_lt_of_le HG4.out hSw.size; dsimp only at d0 d1 d2 d3 d4; go_simp); (try with_reducible rfl)
        (try simp only [Act.put, List.setIfInBounds_toArray, List.set_cons_zero, List.set_cons_succ])
        refine wpAnyH_take (i := 25) (oi := ⟨some 58, _, _, _, _, _⟩) (v := ?_) rfl (by kernel_rfl) (by kernel_rfl) (by kernel_rfl) (fun _ _ _ h => h) (Or.inl ⟨by kernel_rfl, ?_⟩) (by assumption) ?_
        rotate_left
        · (intro ww hSw; (try dsimp only at hSw); go_simp); (try with_reducible rfl)
        (try simp only [Act.put, List.setIfInBounds_toArray, List.set_cons_zero, List.set_cons_succ])
        refine wpAnyH_take (i := 26) (oi := ⟨some 59, _, _, _, _, _⟩) (v := ?_) rfl (by kernel_rfl) (by kernel_rfl) (by kernel_rfl) (fun _ _ _ h => h) (Or.inl ⟨by kernel_rfl, ?_⟩) (by assumption) ?_
        rotate_left
        · (intro ww hSw; (try dsimp only at hSw); go_simp); (try with_reducible rfl)
        (try simp only [Act.put, List.setIfInBounds_toArray, List.set_cons_zero, List.set_cons_succ])
        refine wpAnyH_take (i := 27) (oi := ⟨some 60, _, _, _, _, _⟩) (v := ?_) rfl (by kernel_rfl) (by kernel_rfl) (by kernel_rfl) (fun _ _ _ h => h) (Or.inl ⟨by kernel_rfl, ?_⟩) (by assumption) ?_
        rotate_left
        · (intro ww hSw; (try dsimp only at hSw); go_simp); (try with_reducible rfl)
        (try simp only [Act.put, List.setIfInBounds_toArray, List.set_cons_zero, List.set_cons_succ])
        refine wpAnyH_take (i := 28) (oi := ⟨some 61, _, _, _, _, _⟩) (v := ?_) rfl (by kernel_rfl) (by kernel_rfl) (by kernel_rfl) (fun _ _ _ h => h) (Or.inl ⟨by kernel_rfl, ?_⟩) (by assumption) ?_
        rotate_left
        · (intro ww hSw; (try dsimp only at hSw); go_simp); (try with_reducible rfl)
        (try simp only [Act.put, List.setIfInBounds_toArray, List.set_cons_zero, List.set_cons_succ])
        refine wpAnyH_take (i := 29) (oi := ⟨some 62, _, _, _, _, _⟩) (v := ?_) rfl (by kernel_rfl) (by kernel_rfl) (by kernel_rfl) (fun _ _ _ h => h) (Or.inl ⟨by kernel_rfl, ?_⟩) (by assumption) ?_
        rotate_left
        · (intro ww hSw; (try dsimp only at hSw); go_simp); (try with_reducible rfl)
        (try simp only [Act.put, List.setIfInBounds_toArray, List.set_cons_zero, List.set_cons_succ])
        refine wpAnyH_take (i := 30) (oi := ⟨some 63, _, _, _, _, _⟩) (v := ?_) rfl (by kernel_rfl) (by kernel_rfl) (by kernel_rfl) (fun _ _ _ h => h) (Or.inl ⟨by kernel_rfl, ?_⟩) (by assumption) ?_
        rotate_left
        · (intro ww hSw; (try dsimp only at hSw); go_simp); (try with_reducible rfl)
        (try simp only [Act.put, List.setIfInBounds_toArray, List.set_cons_zero, List.set_cons_succ])
        refine wpAnyH_take (i := 31) (oi := ⟨some 64, _, _, _, _, _⟩) (v := ?_) rfl (by kernel_rfl) (by kernel_rfl) (by kernel_rfl) (fun _ _ _ h => h) (Or.inl ⟨by kernel_rfl, ?_⟩) (by assumption) ?_
        rotate_left
        · (intro ww hSw; (try dsimp only at hSw); obtain ⟨d0, d1, d2, d3, d4⟩ := HC0.out.on (HB4.out.trans (hSw.mono HB4.out.size)) HGW.out; have hgl := Nat.lt_of_lt_of_le HG4.out hSw.size; dsimp only at d0 d1 d2 d3 d4; go_simp); (try with_reducible rfl)
        (try simp only [Act.put, List.setIfInBounds_toArray, List.set_cons_zero, List.set_cons_succ])
        refine wpAnyH_ready (rs := [24]) (by kernel_rfl) (by simp) ?_
        refine AllReadyH.cons rfl (fun K hK => ?_) AllReadyH.nil
        go_simp
        refine (HCNT.out W102 (pool_on HH4.out.pool HBS.out)).mono ?_
        rintro e W103 ⟨rfl, hb⟩
        have hbx : Below W102.heap.size W102 W103 := hb
        clear hb
        replace HOA := Lib.hid (own_on HOA.out hbx)
        replace HBS := Lib.hid (fb2 HBS.out hbx (Nat.le_refl _))
        clear hbx
        go_wp2_with fail
        refine hK.out _ _ ?_ (fun hHeld => ?_)
        · (try dsimp only); exact HBS.out
        clear hK K
        (try simp only [Act.put, List.setIfInBounds_toArray, List.set_cons_zero, List.set_cons_succ])
        refine wpAnyH_ready (rs := [32]) (by kernel_rfl) (by simp) ?_
        refine AllReadyH.cons rfl (fun K hK => ?_) AllReadyH.nil
        go_simp
        refine (HRCN.out _ W103 (own_on HRO.out HBS.out)).mono ?_
        rintro e W104 ⟨rfl, hb⟩
        have hbx : Below W103.heap.size W103 W104 := hb
        clear hb
        replace HOA := Lib.hid (own_on HOA.out hbx)
        replace HBS := Lib.hid (fb2 HBS.out hbx (Nat.le_refl _))
        clear hbx
        go_wp2_with fail
        refine hK.out _ _ ?_ (fun hHeld => ?_)
        · (try dsimp only); exact HBS.out
        clear hK K
        (try simp only [Act.put, List.setIfInBounds_toArray, List.set_cons_zero, List.set_cons_succ])
        refine wpAnyH_take (i := 33) (oi := ⟨some 66, _, _, _, _, _⟩) (v := ?_) rfl (by kernel_rfl) (by kernel_rfl) (by kernel_rfl) (fun _ _ _ h => h) (Or.inl ⟨by kernel_rfl, ?_⟩) (by assumption) ?_
        rotate_left
        · (intro ww hSw; (try dsimp only at hSw); go_simp); (try with_reducible rfl)
        (try simp only [Act.put, List.setIfInBounds_toArray, List.set_cons_zero, List.set_cons_succ])
        refine wpAnyH_take (i := 34) (oi := ⟨some 67, _, _, _, _, _⟩) (v := ?_) rfl (by kernel_rfl) (by kernel_rfl) (by kernel_rfl) (fun _ _ _ h => h) (Or.inl ⟨by kernel_rfl, ?_⟩) (by assumption) ?_
        rotate_left
        · (intro ww hSw; (try dsimp only at hSw); go_simp); (try with_reducible rfl)
        (try simp only [Act.put, List.setIfInBounds_toArray, List.set_cons_zero, List.set_cons_succ])
        refine wpAnyH_done (by kernel_rfl) ?_ _
        go_wp2
        go_roundw
        case rel => exact ⟨k + 1, by omega, by omega, by go_num, v4, by rw [HE.out]; exact both_on HHN.out HBS.out, fb2 HB4.out HBS.out (Nat.le_refl _)⟩
        case measure => simp [intOf]; omega
      · have g3 : ¬ (k : Int) < 300 := by omega
        have HB := Lib.hid hbw
        clear hboth hbw
        go_wp2_with fail
        refine (awake_calls _).mono ?_
        rintro e w6 ⟨rfl, hb6⟩
        have hb := fb2 HB.out hb6 (Nat.le_refl _)
        go_wp2
        go_ret
        exact ⟨rfl, hb⟩
    · have g2 : ¬ (k : Int) < (N : Int) := by omega
      have HB := Lib.hid hbw
      clear hboth hbw
      go_wp2_with fail
      refine (awake_calls _).mono ?_
      rintro e w6 ⟨rfl, hb6⟩
      have hb := fb2 HB.out hb6 (Nat.le_refl _)
      go_wp2
      go_ret
      exact ⟨rfl, hb⟩

end Go.Proofs.Ytheefhogphlkiaa
