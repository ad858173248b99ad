/- May any table be grouped: the walk of the statement's function (written by gen/mklaw13.py). -/
import Derived.Test.YtdnfaoanaehjhaaGreatDoorH27
import Derived.Test.YtdnfaoanaehjhaaGreatDoorGrpCheck
import Derived.Test.YtdnfaoanaehjhaaGreatDoorH29
import Derived.Test.YtdnfaoanaehjhaaGreatDoorH13
namespace Go.Proofs.YtdnfaoanaehjhaaGreatDoor
open Go.RowKit Go.Maps Go.Sort

set_option maxRecDepth 100000 in
set_option maxHeartbeats 8000000 in
theorem groupChecks_calls (V : List (List UInt8)) (R : List RowL) (B : List (List UInt8)) (L : List AggL) (hx : okV V) (hr : okR R) (hB : okV B) (hL : ∀ g ∈ L, g.ok) (tv : Value) (ba : Option Addr) (bn bc : Nat) (la : Option Addr) (ln lc : Nat) (w : World) (hg : Nm.Good w) (ht : TabA w tv V R) (hb : TxtA w ba bn bc B) (hl : AgA w la ln lc L) :
    Calls Tryz.prog 3 #[tv, .slice ba bn bc, .slice la ln lc] w fun e w' => e = .returned (.bool true) ∧ Below w.heap.size w w' := by
  obtain ⟨va, n, vc, ra, m, rc, rfl, hV, hR⟩ := ht
  obtain ⟨A, hA⟩ : ∃ A, w.heap.size = A := ⟨_, rfl⟩
  obtain ⟨W0, hW0⟩ : ∃ W0, w.alloc (.cells #[.slice va n vc, .slice ra m rc] 25) = W0 := ⟨_, rfl⟩
  have HB0 := Lib.hid (show Below w.heap.size w W0 by rw [← hW0]; exact box_below _ _)
  have HA0 := Lib.hid (show Blk W0 A 25 #[.slice va n vc, .slice ra m rc] by rw [← hW0, ← hA]; exact blk_new _ _ _)
  have HG := Lib.hid hg
  have hTB : ∀ W, Below w.heap.size w W → TabA W (.agg #[.slice va n vc, .slice ra m rc]) V R := fun W hb => ⟨va, n, vc, ra, m, rc, rfl, hV.on hb, hR.on hb⟩
  have HLI := Lib.hid (light_calls V R _ W0 (hTB W0 HB0.out))
  have HAW := Lib.hid (fun W hW => awake_calls W hW)
  have HCK : Hid (ln ≤ 40 → ∀ W, Below w.heap.size w W → Calls Tryz.prog 11 #[.agg #[.slice va n vc, .slice ra m rc], .slice ba bn bc, .slice la ln lc] W fun e w' => e = .returned (.int .i64 (checkG V R B L)) ∧ Below W.heap.size W w') := Lib.hid fun h W hW => gCheck_calls V R B L hx hr hB hL _ ba bn bc la ln lc W (hTB W hW) (hb.on hW) (hl.on hW) (by omega)
  have HRK : Hid (ln ≤ 40 → ∀ W, Below w.heap.size w W → Calls Tryz.prog 12 #[.agg #[.slice va n vc, .slice ra m rc], .slice ba bn bc, .slice la ln lc] W fun e w' => e = .returned (.int .i64 (checkG V R B L)) ∧ Below W.heap.size W w') := Lib.hid fun h W hW => rGCheck_calls V R B L hx hr hB hL _ ba bn bc la ln lc W (hTB W hW) (hb.on hW) (hl.on hW) (by omega)
  have HAE := Lib.hid hA
  have HW0 := Lib.hid hW0
  clear hTB hV hR hg hA hW0 hx hr hB hL hb hl
  generalize checkG V R B L = z at HCK HRK
  cases hli : lightB V R with
  | false =>
    rw [hli] at HLI
    go_enter Tryz.func3, Tryz.ntmps3
    go_wp2_with fail
    rw [HW0.out, HAE.out]
    refine HLI.out.mono ?_
    rintro e w1 ⟨rfl, hb1⟩
    have HB1 := Lib.hid (fb2 HB0.out hb1 (Nat.le_refl _))
    clear hb1
    go_wp2_with fail
    refine (HAW.out _ (HG.out.on HB1.out)).mono ?_
    rintro e w2 ⟨rfl, hb2⟩
    have HBz := Lib.hid (fb2 HB1.out hb2 (Nat.le_refl _))
    clear hb2
    go_wp2
    go_ret
    exact ⟨rfl, HBz.out⟩
  | true =>
    rw [hli] at HLI
    clear hli
    by_cases h1 : 40 < bn
    · have k1 : (40 : Int) < (bn : Int) := by omega
      go_enter Tryz.func3, Tryz.ntmps3
      go_wp2_with fail
      rw [HW0.out, HAE.out]
      refine HLI.out.mono ?_
      rintro e w1 ⟨rfl, hb1⟩
      have HB1 := Lib.hid (fb2 HB0.out hb1 (Nat.le_refl _))
      clear hb1
      go_wp2_with fail
      refine (HAW.out _ (HG.out.on HB1.out)).mono ?_
      rintro e w2 ⟨rfl, hb2⟩
      have HBz := Lib.hid (fb2 HB1.out hb2 (Nat.le_refl _))
      clear hb2
      go_wp2
      go_ret
      exact ⟨rfl, HBz.out⟩
    by_cases h2 : 40 < ln
    · have k1 : ¬ (40 : Int) < (bn : Int) := by omega
      have k2 : (40 : Int) < (ln : Int) := by omega
      go_enter Tryz.func3, Tryz.ntmps3
      go_wp2_with fail
      rw [HW0.out, HAE.out]
      refine HLI.out.mono ?_
      rintro e w1 ⟨rfl, hb1⟩
      have HB1 := Lib.hid (fb2 HB0.out hb1 (Nat.le_refl _))
      clear hb1
      go_wp2_with fail
      refine (HAW.out _ (HG.out.on HB1.out)).mono ?_
      rintro e w2 ⟨rfl, hb2⟩
      have HBz := Lib.hid (fb2 HB1.out hb2 (Nat.le_refl _))
      clear hb2
      go_wp2
      go_ret
      exact ⟨rfl, HBz.out⟩
    have k1 : ¬ (40 : Int) < (bn : Int) := by omega
    have k2 : ¬ (40 : Int) < (ln : Int) := by omega
    have HC := Lib.hid (HCK.out (by omega))
    have HR := Lib.hid (HRK.out (by omega))
    clear HCK HRK
    go_enter Tryz.func3, Tryz.ntmps3
    go_wp2_with fail
    rw [HW0.out, HAE.out]
    refine HLI.out.mono ?_
    rintro e w1 ⟨rfl, hb1⟩
    have HB1 := Lib.hid (fb2 HB0.out hb1 (Nat.le_refl _))
    have HA1 := Lib.hid (blk_on HA0.out hb1 (blk_lt HA0.out))
    clear hb1
    have q0 : w1.cell? ⟨A, 0, none⟩ = some (.slice va n vc) := (blk_cell HA1.out 0).trans rfl
    have q1 : w1.cell? ⟨A, 1, none⟩ = some (.slice ra m rc) := (blk_cell HA1.out 1).trans rfl
    have hlA := blk_lt HA1.out
    go_wp2_with fail
    refine wp_region_held_drew (S := (fun W => Below w1.heap.size w1 W)) (by kernel_rfl) ?_ (fun hHeld => ?_)
    · (try dsimp only); exact (Below.refl _ _).drew
    obtain ⟨Wd, hWd⟩ : ∃ Wd, w1.drew = Wd := ⟨_, rfl⟩
    rw [hWd] at hHeld ⊢
    have HBS := Lib.hid (show Below w1.heap.size w1 Wd by rw [← hWd]; exact (Below.refl _ _).drew)
    clear hWd
    refine wpAnyH_take (i := 0) (oi := ⟨some 21, _, _, _, _, _⟩) (v := ?_) rfl (by kernel_rfl) (by kernel_rfl) (by kernel_rfl) (fun _ _ _ h => h) (Or.inl ⟨by kernel_rfl, ?_⟩) (by assumption) ?_
    rotate_left
    · (intro ww hSw; (try dsimp only at hSw); have e0 := keptC q0 hSw hlA; have e1 := keptC q1 hSw hlA; go_simp); (try with_reducible rfl)
    (try simp only [Act.put, List.setIfInBounds_toArray, List.set_cons_zero, List.set_cons_succ])
    refine wpAnyH_take (i := 1) (oi := ⟨some 22, _, _, _, _, _⟩) (v := ?_) rfl (by kernel_rfl) (by kernel_rfl) (by kernel_rfl) (fun _ _ _ h => h) (Or.inl ⟨by kernel_rfl, ?_⟩) (by assumption) ?_
    rotate_left
    · (intro ww hSw; (try dsimp only at hSw); go_simp); (try with_reducible rfl)
    (try simp only [Act.put, List.setIfInBounds_toArray, List.set_cons_zero, List.set_cons_succ])
    refine wpAnyH_take (i := 2) (oi := ⟨some 23, _, _, _, _, _⟩) (v := ?_) rfl (by kernel_rfl) (by kernel_rfl) (by kernel_rfl) (fun _ _ _ h => h) (Or.inl ⟨by kernel_rfl, ?_⟩) (by assumption) ?_
    rotate_left
    · (intro ww hSw; (try dsimp only at hSw); go_simp); (try with_reducible rfl)
    (try simp only [Act.put, List.setIfInBounds_toArray, List.set_cons_zero, List.set_cons_succ])
    refine wpAnyH_take (i := 4) (oi := ⟨some 25, _, _, _, _, _⟩) (v := ?_) rfl (by kernel_rfl) (by kernel_rfl) (by kernel_rfl) (fun _ _ _ h => h) (Or.inl ⟨by kernel_rfl, ?_⟩) (by assumption) ?_
    rotate_left
    · (intro ww hSw; (try dsimp only at hSw); have e0 := keptC q0 hSw hlA; have e1 := keptC q1 hSw hlA; go_simp); (try with_reducible rfl)
    (try simp only [Act.put, List.setIfInBounds_toArray, List.set_cons_zero, List.set_cons_succ])
    refine wpAnyH_take (i := 5) (oi := ⟨some 26, _, _, _, _, _⟩) (v := ?_) rfl (by kernel_rfl) (by kernel_rfl) (by kernel_rfl) (fun _ _ _ h => h) (Or.inl ⟨by kernel_rfl, ?_⟩) (by assumption) ?_
    rotate_left
    · (intro ww hSw; (try dsimp only at hSw); go_simp); (try with_reducible rfl)
    (try simp only [Act.put, List.setIfInBounds_toArray, List.set_cons_zero, List.set_cons_succ])
    refine wpAnyH_take (i := 6) (oi := ⟨some 27, _, _, _, _, _⟩) (v := ?_) rfl (by kernel_rfl) (by kernel_rfl) (by kernel_rfl) (fun _ _ _ h => h) (Or.inl ⟨by kernel_rfl, ?_⟩) (by assumption) ?_
    rotate_left
    · (intro ww hSw; (try dsimp only at hSw); go_simp); (try with_reducible rfl)
    (try simp only [Act.put, List.setIfInBounds_toArray, List.set_cons_zero, List.set_cons_succ])
    refine wpAnyH_ready (rs := [3]) (by kernel_rfl) (by simp) ?_
    refine AllReadyH.cons rfl (fun K hK => ?_) AllReadyH.nil
    go_simp
    refine (HC.out Wd (fb2 HB1.out HBS.out (Nat.le_refl _))).mono ?_
    rintro e W100 ⟨rfl, hb⟩
    have hbx : Below Wd.heap.size Wd W100 := hb
    clear hb
    replace HBS := Lib.hid (fb2 HBS.out hbx (Nat.le_refl _))
    clear hbx
    go_wp2_with fail
    refine hK.out _ _ ?_ (fun hHeld => ?_)
    · (try dsimp only); exact HBS.out
    clear hK K
    (try simp only [Act.put, List.setIfInBounds_toArray, List.set_cons_zero, List.set_cons_succ])
    refine wpAnyH_ready (rs := [7]) (by kernel_rfl) (by simp) ?_
    refine AllReadyH.cons rfl (fun K hK => ?_) AllReadyH.nil
    go_simp
    refine (HR.out W100 (fb2 HB1.out HBS.out (Nat.le_refl _))).mono ?_
    rintro e W101 ⟨rfl, hb⟩
    have hbx : Below W100.heap.size W100 W101 := hb
    clear hb
    replace HBS := Lib.hid (fb2 HBS.out hbx (Nat.le_refl _))
    clear hbx
    go_wp2_with fail
    refine hK.out _ _ ?_ (fun hHeld => ?_)
    · (try dsimp only); exact HBS.out
    clear hK K
    (try simp only [Act.put, List.setIfInBounds_toArray, List.set_cons_zero, List.set_cons_succ])
    refine wpAnyH_take (i := 8) (oi := ⟨some 29, _, _, _, _, _⟩) (v := ?_) rfl (by kernel_rfl) (by kernel_rfl) (by kernel_rfl) (fun _ _ _ h => h) (Or.inl ⟨by kernel_rfl, ?_⟩) (by assumption) ?_
    rotate_left
    · (intro ww hSw; (try dsimp only at hSw); go_simp); (try with_reducible rfl)
    (try simp only [Act.put, List.setIfInBounds_toArray, List.set_cons_zero, List.set_cons_succ])
    refine wpAnyH_take (i := 9) (oi := ⟨some 30, _, _, _, _, _⟩) (v := ?_) rfl (by kernel_rfl) (by kernel_rfl) (by kernel_rfl) (fun _ _ _ h => h) (Or.inl ⟨by kernel_rfl, ?_⟩) (by assumption) ?_
    rotate_left
    · (intro ww hSw; (try dsimp only at hSw); go_simp); (try with_reducible rfl)
    (try simp only [Act.put, List.setIfInBounds_toArray, List.set_cons_zero, List.set_cons_succ])
    refine wpAnyH_ready (rs := [10]) (by kernel_rfl) (by simp) ?_
    refine AllReadyH.cons rfl (fun K hK => ?_) AllReadyH.nil
    go_simp
    refine (HAW.out W101 (HG.out.on (fb2 HB1.out HBS.out (Nat.le_refl _)))).mono ?_
    rintro e W102 ⟨rfl, hb⟩
    have hbx : Below W101.heap.size W101 W102 := hb
    clear hb
    replace HBS := Lib.hid (fb2 HBS.out hbx (Nat.le_refl _))
    clear hbx
    go_wp2_with fail
    refine hK.out _ _ ?_ (fun hHeld => ?_)
    · (try dsimp only); exact HBS.out
    clear hK K
    (try simp only [Act.put, List.setIfInBounds_toArray, List.set_cons_zero, List.set_cons_succ])
    refine wpAnyH_take (i := 11) (oi := ⟨some 32, _, _, _, _, _⟩) (v := ?_) rfl (by kernel_rfl) (by kernel_rfl) (by kernel_rfl) (fun _ _ _ h => h) (Or.inl ⟨by kernel_rfl, ?_⟩) (by assumption) ?_
    rotate_left
    · (intro ww hSw; (try dsimp only at hSw); go_simp); (try with_reducible rfl)
    (try simp only [Act.put, List.setIfInBounds_toArray, List.set_cons_zero, List.set_cons_succ])
    refine wpAnyH_take (i := 12) (oi := ⟨some 6, _, _, _, _, _⟩) (v := ?_) rfl (by kernel_rfl) (by kernel_rfl) (by kernel_rfl) (fun _ _ _ h => h) (Or.inl ⟨by kernel_rfl, ?_⟩) (by assumption) ?_
    rotate_left
    · (intro ww hSw; (try dsimp only at hSw); go_simp); (try with_reducible rfl)
    (try simp only [Act.put, List.setIfInBounds_toArray, List.set_cons_zero, List.set_cons_succ])
    refine wpAnyH_done (by kernel_rfl) ?_ _
    go_wp2
    go_ret
    exact ⟨rfl, fb2 HB1.out HBS.out (Nat.le_refl _)⟩

end Go.Proofs.YtdnfaoanaehjhaaGreatDoor
