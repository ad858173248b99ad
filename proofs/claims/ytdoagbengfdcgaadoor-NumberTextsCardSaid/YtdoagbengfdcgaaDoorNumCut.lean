/- A value and a scale cut down, by package number (at one stroke by its table of powers) and by the document (a digit at a time): the same, for every value and every scale up to 12. -/
import Derived.Test.YtdoagbengfdcgaaDoorNumRight
namespace Go.Proofs.YtdoagbengfdcgaaDoor
open Go.RowKit

theorem strip_yes (k : Nat) (x : Int) (h : x.tmod 10 = 0) : strip (k + 1) x = strip k (x.tdiv 10) := by rw [strip, if_pos h]
theorem strip_no (k : Nat) (x : Int) (h : ¬ x.tmod 10 = 0) : strip (k + 1) x = (x, k + 1) := by rw [strip, if_neg h]
theorem ret_two {a b c d : Int} (h : a = c) (h' : b = d) : Ending.returned (.tuple #[.int .i64 a, .int .i64 b]) = .returned (.tuple #[.int .i64 c, .int .i64 d]) := by rw [h, h']
theorem ten_pos (k : Nat) : 1 ≤ ten k := by
  induction k with
  | zero => decide
  | succ k ih => show 1 ≤ 10 * ten k; omega
theorem pow_ten (k : Nat) (h : k < 9) : powTab.getD k 0 = ten k := by
  match k, h with
  | 0, _ => rfl
  | 1, _ => rfl
  | 2, _ => rfl
  | 3, _ => rfl
  | 4, _ => rfl
  | 5, _ => rfl
  | 6, _ => rfl
  | 7, _ => rfl
  | 8, _ => rfl
  | k + 9, h => omega

set_option maxHeartbeats 1000000 in
theorem cutDown_calls (v : Int) (s : Nat) (w : World) (hg : Good w) (hs : s ≤ 12) (h1 : -9223372036854775807 ≤ v) (h2 : v ≤ 9223372036854775807) :
    Calls Tryd.prog 46 #[.int .i64 v, .int .i64 s] w fun e w' => e = .returned (.tuple #[.int .i64 (cutZ v s).1, .int .i64 (cutZ v s).2]) ∧ w' = w := by
  obtain ⟨R, hR⟩ : ∃ R, cutZ v s = R := ⟨_, rfl⟩
  rw [hR]
  by_cases h4 : s ≤ 4
  · have hR' : strip s v = R := by rw [← hR]; unfold cutZ; rw [show min s 4 = s by omega, show s - 4 = 0 by omega]; simp [ten]
    have HR := Lib.hid hR'
    clear hR hR'
    go_enter Tryd.func46, Tryd.ntmps46
    go_wp2
    go_loop [0, 1] (fun a b => ∃ (x : Int) (k : Nat), k ≤ 4 ∧ -9223372036854775807 ≤ x ∧ x ≤ 9223372036854775807 ∧ a = .int .i64 x ∧ b = .int .i64 k ∧ Hid (strip k x = R)) (fun _ b => (intOf b).toNat)
    case atStart => exact ⟨v, s, h4, h1, h2, rfl, rfl, HR⟩
    case round =>
      obtain ⟨x, k, hk, hx1, hx2, rfl, rfl, HX⟩ := hrel
      cases k with
      | zero =>
        go_wp2
        go_ret2
        exact ⟨by rw [← HX.out]; rfl, rfl⟩
      | succ k =>
        have hq := tdiv_le x 10 (by omega) 9223372036854775807 hx1 hx2
        obtain ⟨q1, q2⟩ := hq
        by_cases hm : x.tmod 10 = 0
        · have g : (x.tmod 10 == 0) = true := beq_iff_eq.2 hm
          have HS := Lib.hid (strip_yes k x hm)
          clear hm
          go_wp2
          go_round
          case rel => exact ⟨x.tdiv 10, k, by omega, q1, q2, rfl, by go_num, Lib.hid (by rw [← HS.out, HX.out])⟩
          case measure => simp [intOf]
        · have g : (x.tmod 10 == 0) = false := beq_eq_false_iff_ne.2 hm
          have HS := Lib.hid (strip_no k x hm)
          clear hm
          go_wp2
          go_ret2
          exact ⟨by rw [← HX.out, HS.out]; rfl, rfl⟩
  · have hc := hg.cell (s - 4) (by omega)
    rw [pow_ten _ (by omega)] at hc
    have hR' : strip 4 (v.tdiv (ten (s - 4))) = R := by rw [← hR]; unfold cutZ; rw [show min s 4 = 4 by omega]
    have hp := ten_pos (s - 4)
    obtain ⟨T, hT⟩ : ∃ T, ten (s - 4) = T := ⟨_, rfl⟩
    rw [hT] at hc hR' hp
    have HR := Lib.hid hR'
    clear hR hR' hT
    have hq := tdiv_le v T hp 9223372036854775807 h1 h2
    obtain ⟨q1, q2⟩ := hq
    go_enter Tryd.func46, Tryd.ntmps46
    go_wp2
    go_loop [0, 1] (fun a b => ∃ (x : Int) (k : Nat), k ≤ 4 ∧ -9223372036854775807 ≤ x ∧ x ≤ 9223372036854775807 ∧ a = .int .i64 x ∧ b = .int .i64 k ∧ Hid (strip k x = R)) (fun _ b => (intOf b).toNat)
    case atStart => exact ⟨v.tdiv T, 4, by omega, q1, q2, rfl, rfl, HR⟩
    case round =>
      clear hc q1 q2 hp
      obtain ⟨x, k, hk, hx1, hx2, rfl, rfl, HX⟩ := hrel
      cases k with
      | zero =>
        go_wp2
        go_ret2
        exact ⟨by rw [← HX.out]; rfl, rfl⟩
      | succ k =>
        have hq := tdiv_le x 10 (by omega) 9223372036854775807 hx1 hx2
        obtain ⟨q1, q2⟩ := hq
        by_cases hm : x.tmod 10 = 0
        · have g : (x.tmod 10 == 0) = true := beq_iff_eq.2 hm
          have HS := Lib.hid (strip_yes k x hm)
          clear hm
          go_wp2
          go_round
          case rel => exact ⟨x.tdiv 10, k, by omega, q1, q2, rfl, by go_num, Lib.hid (by rw [← HS.out, HX.out])⟩
          case measure => simp [intOf]
        · have g : (x.tmod 10 == 0) = false := beq_eq_false_iff_ne.2 hm
          have HS := Lib.hid (strip_no k x hm)
          clear hm
          go_wp2
          go_ret2
          exact ⟨by rw [← HX.out, HS.out]; rfl, rfl⟩

end Go.Proofs.YtdoagbengfdcgaaDoor
