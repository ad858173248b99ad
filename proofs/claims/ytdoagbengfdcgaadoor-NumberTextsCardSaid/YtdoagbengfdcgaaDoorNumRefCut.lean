/- The document's own answer for a value and a scale cut down: what package number makes of them, for every value and every scale up to 12. -/
import Derived.Test.YtdoagbengfdcgaaDoorNumMade
namespace Go.Proofs.YtdoagbengfdcgaaDoor
open Go.RowKit

theorem tdiv_pos (x a b : Int) (hx : 0 ≤ x) (ha : 1 ≤ a) : (x.tdiv a).tdiv b = x.tdiv (a * b) := by
  rw [Int.tdiv_eq_ediv_of_nonneg hx, Int.tdiv_eq_ediv_of_nonneg (Int.ediv_nonneg hx (by omega)), Int.tdiv_eq_ediv_of_nonneg hx, Int.ediv_ediv_of_nonneg (by omega)]
theorem tdiv_twice (x a b : Int) (ha : 1 ≤ a) : (x.tdiv a).tdiv b = x.tdiv (a * b) := by
  rcases Int.le_total 0 x with hx | hx
  · exact tdiv_pos x a b hx ha
  · have h := tdiv_pos (-x) a b (by omega) ha
    rw [Int.neg_tdiv, Int.neg_tdiv, Int.neg_tdiv] at h
    omega
theorem cut_step (x : Int) (k : Nat) : cutZ x (k + 5) = cutZ (x.tdiv 10) (k + 4) := by
  unfold cutZ
  rw [show min (k + 5) 4 = 4 by omega, show min (k + 4) 4 = 4 by omega, show k + 5 - 4 = k + 1 by omega, show k + 4 - 4 = k by omega, tdiv_twice _ _ _ (by omega)]
  rfl
theorem cut_small (x : Int) (k : Nat) (h : k ≤ 4) : cutZ x k = strip k x := by
  unfold cutZ; rw [show min k 4 = k by omega, show k - 4 = 0 by omega]; simp [ten]

set_option maxHeartbeats 1000000 in
theorem rCut_calls (v : Int) (s : Nat) (d : Bool) (w : World) (hs : s ≤ 12) (h1 : -9223372036854775807 ≤ v) (h2 : v ≤ 9223372036854775807) :
    Calls Tryd.prog 35 #[.int .i64 v, .int .i64 s, .bool d] w fun e w' => e = .returned (NumL.ret (madeL v s d)) ∧ Below w.heap.size w w' := by
  have hm1 := madeL_yes v s d
  have hm2 := madeL_no v s d
  obtain ⟨R, hR⟩ : ∃ R, cutZ v s = R := ⟨_, rfl⟩
  rw [hR] at hm1 hm2
  have HR := Lib.hid hR
  have HM1 := Lib.hid hm1
  have HM2 := Lib.hid hm2
  clear hR hm1 hm2
  go_enter Tryd.func35, Tryd.ntmps35
  go_wp2
  go_loop [0, 1] (fun a b => ∃ (x : Int) (k : Nat), k ≤ 12 ∧ -9223372036854775807 ≤ x ∧ x ≤ 9223372036854775807 ∧ a = .int .i64 x ∧ b = .int .i64 k ∧ Hid (cutZ x k = R)) (fun _ b => (intOf b).toNat)
  case atStart => exact ⟨v, s, hs, h1, h2, rfl, rfl, HR⟩
  case round =>
    clear h1 h2
    obtain ⟨x, k, hk, hx1, hx2, rfl, rfl, HX⟩ := hrel
    by_cases h4 : k ≤ 4
    · have HX' := Lib.hid ((cut_small x k h4).symm.trans HX.out)
      clear HX
      go_wp2
      go_loop [0, 1] (fun a b => ∃ (x : Int) (k : Nat), k ≤ 4 ∧ -9223372036854775807 ≤ x ∧ x ≤ 9223372036854775807 ∧ a = .int .i64 x ∧ b = .int .i64 k ∧ Hid (strip k x = R)) (fun _ b => (intOf b).toNat)
      case atStart => exact ⟨x, k, h4, hx1, hx2, rfl, rfl, HX'⟩
      case round =>
        clear hx1 hx2 HX' hk h4
        rename_i x0 k0 _ _
        obtain ⟨x, k, hk, hx1, hx2, rfl, rfl, HX⟩ := hrel
        have hdone : strip k x = (x, k) → R = (x, k) := fun h => HX.out.symm.trans h
        by_cases hgo : 1 ≤ k ∧ x.tmod 10 = 0
        · obtain ⟨hk1, hm⟩ := hgo
          obtain ⟨k, rfl⟩ : ∃ j, k = j + 1 := ⟨k - 1, by omega⟩
          have hq := tdiv_le x 10 (by omega) 9223372036854775807 hx1 hx2
          obtain ⟨q1, q2⟩ := hq
          have g : (x.tmod 10 == 0) = true := beq_iff_eq.2 hm
          have HS := Lib.hid (strip_yes k x hm)
          clear hm hdone
          go_wp2
          go_round
          case rel => exact ⟨x.tdiv 10, k, by omega, q1, q2, rfl, by go_num, Lib.hid (by rw [← HS.out, HX.out])⟩
          case measure => simp [intOf]
        · have hst : R = (x, k) := hdone (by
            cases k with
            | zero => rfl
            | succ k => exact strip_no k x (fun h => hgo ⟨by omega, h⟩))
          have HST := Lib.hid hst
          have hcase : k = 0 ∨ (1 ≤ k ∧ (x.tmod 10 == 0) = false) := by
            by_cases h0 : k = 0
            · exact .inl h0
            · exact .inr ⟨by omega, beq_eq_false_iff_ne.2 fun h => hgo ⟨by omega, h⟩⟩
          clear hgo hst hdone
          rcases bound_cases x with ⟨b, b1, b2⟩ | ⟨b, b1⟩ | ⟨b, b1, b2⟩
          all_goals
            have HB := Lib.hid b
            clear b
            rcases hcase with rfl | ⟨c1, c2⟩
            all_goals try (have c3 : (x % 10 == 0) = false := by rw [← Int.tmod_eq_emod_of_nonneg (by omega)]; exact c2)
            all_goals
              go_wp2
              first
              | (refine bodyPost_ret (v := .tuple #[.agg #[.int .i64 x, .int .i64 0, .bool d], .bool true]) (by simp [results, Tryd.results35, go_sem]; done) rfl ⟨?_, box_below _ _⟩
                 rw [HM1.out (by rw [HST.out]; exact HB.out), HST.out]; rfl)
              | (refine bodyPost_ret (v := .tuple #[.agg #[.int .i64 x, .int .i64 k, .bool d], .bool true]) (by simp [results, Tryd.results35, go_sem]; done) rfl ⟨?_, box_below _ _⟩
                 rw [HM1.out (by rw [HST.out]; exact HB.out), HST.out]; rfl)
              | (refine bodyPost_ret (v := .tuple #[.agg #[.int .i64 0, .int .i64 0, .bool false], .bool false]) (by simp [results, Tryd.results35, go_sem]) rfl ⟨?_, box_below _ _⟩
                 rw [HM2.out (by rw [HST.out]; exact HB.out)]; rfl)
    · obtain ⟨k, rfl⟩ : ∃ j, k = j + 5 := ⟨k - 5, by omega⟩
      have hq := tdiv_le x 10 (by omega) 9223372036854775807 hx1 hx2
      obtain ⟨q1, q2⟩ := hq
      have HS := Lib.hid (cut_step x k)
      go_wp2
      go_round
      case rel => exact ⟨x.tdiv 10, k + 4, by omega, q1, q2, rfl, by go_num, Lib.hid (by rw [← HS.out, HX.out])⟩
      case measure => simp [intOf]; omega

end Go.Proofs.YtdoagbengfdcgaaDoor
