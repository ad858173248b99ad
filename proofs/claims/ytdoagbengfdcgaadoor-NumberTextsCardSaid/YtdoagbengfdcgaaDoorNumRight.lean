/- Which numbers are right: package number's own test and the document's, for every number. -/
import Derived.Test.YtdoagbengfdcgaaDoorNumKit
namespace Go.Proofs.YtdoagbengfdcgaaDoor
open Go.RowKit

set_option maxHeartbeats 400000 in
theorem bounded_calls (v : Int) (w : World) :
    Calls Tryd.prog 41 #[.int .i64 v] w fun e w' => e = .returned (.bool (boundZ v)) ∧ w' = w := by
  by_cases h1 : -999999999 ≤ v <;> by_cases h2 : v ≤ 999999999 <;> go_enter Tryd.func41, Tryd.ntmps41 <;> go_wp2 <;> go_ret <;> exact ⟨by simp [boundZ, *], rfl⟩

theorem right_cases (v s : Int) (d : Bool) : (boundZ v = false ∧ rightZ v s d = false) ∨ (boundZ v = true ∧ ¬ 0 ≤ s ∧ rightZ v s d = false) ∨ (boundZ v = true ∧ 0 ≤ s ∧ ¬ s ≤ 4 ∧ rightZ v s d = false) ∨
    (boundZ v = true ∧ 0 ≤ s ∧ s ≤ 4 ∧ s = 0 ∧ rightZ v s d = true) ∨ (boundZ v = true ∧ 1 ≤ s ∧ s ≤ 4 ∧ (s == 0) = false ∧ d = false ∧ rightZ v s d = false) ∨
    (boundZ v = true ∧ 1 ≤ s ∧ s ≤ 4 ∧ (s == 0) = false ∧ d = true ∧ (v.tmod 10 != 0) = true ∧ rightZ v s d = true) ∨ (boundZ v = true ∧ 1 ≤ s ∧ s ≤ 4 ∧ (s == 0) = false ∧ d = true ∧ (v.tmod 10 != 0) = false ∧ rightZ v s d = false) := by
  cases hb : boundZ v
  · left; simp [rightZ, hb]
  by_cases h0 : 0 ≤ s
  · by_cases h4 : s ≤ 4
    · by_cases hz : s = 0
      · right; right; right; left; simp [rightZ, hb, hz]
      · have h1 : 1 ≤ s := by omega
        cases d
        · right; right; right; right; left; simp [rightZ, hb, hz, h1, h4]
        · by_cases hm : v.tmod 10 = 0
          · right; right; right; right; right; right; simp [rightZ, hb, hz, h1, h4, hm]
          · right; right; right; right; right; left; simp [rightZ, hb, hz, h1, h4, hm]; omega
    · right; right; left; simp [rightZ, h0, h4]
  · right; left; simp [rightZ, h0]

set_option maxHeartbeats 1000000 in
theorem right_calls (v s : Int) (d : Bool) (w : World) :
    Calls Tryd.prog 26 #[.agg #[.int .i64 v, .int .i64 s, .bool d]] w fun e w' => e = .returned (.bool (rightZ v s d)) ∧ Below w.heap.size w w' := by
  rcases right_cases v s d with ⟨hb, hr⟩ | ⟨hb, h1, hr⟩ | ⟨hb, h1, h2, hr⟩ | ⟨hb, h1, h2, hz, hr⟩ | ⟨hb, h1, h2, hs, hd, hr⟩ | ⟨hb, h1, h2, hs, hd, hm, hr⟩ | ⟨hb, h1, h2, hs, hd, hm, hr⟩
  all_goals
    have HB := Lib.hid hb
    have HR := Lib.hid hr
    clear hb hr
    try subst hz
    try subst hd
    go_enter Tryd.func26, Tryd.ntmps26
    go_wp2_with (go_at_call 41; refine (bounded_calls _ _).mono ?_; rintro e w' ⟨rfl, rfl⟩; rw [HB.out])
    go_ret
    exact ⟨ret_bool (by rw [HR.out]), box_below _ _⟩

def errZ (b : Bool) : Int := if b then 0 else 2

set_option maxHeartbeats 400000 in
theorem Check_calls (v s : Int) (d : Bool) (w : World) :
    Calls Tryd.prog 12 #[.agg #[.int .i64 v, .int .i64 s, .bool d]] w fun e w' => e = .returned (.int .i64 (errZ (rightZ v s d))) ∧ Below w.heap.size w w' := by
  have E : rightZ v s d = true ∨ rightZ v s d = false := by cases rightZ v s d <;> simp
  rcases E with hr | hr
  all_goals
    have HR := Lib.hid hr
    clear hr
    go_enter Tryd.func12, Tryd.ntmps12
    go_wp2_with (go_at_call 26; refine (right_calls _ _ _ _).mono ?_; rintro e w' ⟨rfl, hb⟩; rw [HR.out])
    go_ret
    exact ⟨ret_int (by rw [HR.out]; rfl), one_box (by assumption)⟩

theorem bound_cases (v : Int) : (boundZ v = true ∧ ¬ v < -999999999 ∧ ¬ 999999999 < v) ∨ (boundZ v = false ∧ v < -999999999) ∨ (boundZ v = false ∧ ¬ v < -999999999 ∧ 999999999 < v) := by
  simp only [boundZ, decide_eq_true_eq, decide_eq_false_iff_not]
  omega

set_option maxHeartbeats 1000000 in
theorem rRight_calls (v s : Int) (d : Bool) (w : World) :
    Calls Tryd.prog 11 #[.agg #[.int .i64 v, .int .i64 s, .bool d]] w fun e w' => e = .returned (.bool (rightZ v s d)) ∧ Below w.heap.size w w' := by
  rcases right_cases v s d with ⟨hb, hr⟩ | ⟨hb, h1, hr⟩ | ⟨hb, h1, h2, hr⟩ | ⟨hb, h1, h2, hz, hr⟩ | ⟨hb, h1, h2, hs, hd, hr⟩ | ⟨hb, h1, h2, hs, hd, hm, hr⟩ | ⟨hb, h1, h2, hs, hd, hm, hr⟩
  all_goals
    rcases bound_cases v with ⟨k, k1, k2⟩ | ⟨k, k1⟩ | ⟨k, k1, k2⟩
    all_goals first
    | (exfalso; rw [hb] at k; cases k; done)
    | (have HR := Lib.hid hr
       clear hb hr k
       try subst hz
       try subst hd
       go_enter Tryd.func11, Tryd.ntmps11
       go_wp2
       go_ret
       exact ⟨ret_bool (by rw [HR.out]), box_below _ _⟩)

set_option maxHeartbeats 400000 in
theorem rTen_calls (k : Nat) (w : World) (hk : k ≤ 18) :
    Calls Tryd.prog 47 #[.int .i64 k] w fun e w' => e = .returned (.int .i64 (ten k)) ∧ w' = w := by
  have hpos : ∀ i : Nat, i ≤ 18 → 1 ≤ ten i ∧ ten i ≤ 1000000000000000000 := by decide
  have HP := Lib.hid hpos
  clear hpos
  go_enter Tryd.func47, Tryd.ntmps47
  go_wp2
  go_loop [3, 4] (fun n i => ∃ j : Nat, j ≤ k ∧ i = .int .i64 j ∧ n = .int .i64 (ten j)) (fun _ i => k - (intOf i).toNat)
  case atStart => exact ⟨0, Nat.zero_le _, rfl, rfl⟩
  case round =>
    obtain ⟨j, hj, rfl, rfl⟩ := hrel
    by_cases hlt : j < k
    · obtain ⟨T, hT⟩ : ∃ T, ten j = T := ⟨_, rfl⟩
      have h1 : ten (j + 1) = 10 * T := by rw [← hT]; rfl
      have b2 : ten (j + 1) ≤ 1000000000000000000 := (HP.out (j + 1) (by omega)).2
      have b1 : 1 ≤ T := by rw [← hT]; exact (HP.out j (by omega)).1
      have b3 : 10 * T ≤ 1000000000000000000 := by omega
      have H1 := Lib.hid h1
      rw [hT]
      clear h1 b2 hT
      go_wp2
      go_round
      case rel => exact ⟨j + 1, by omega, by go_num, by rw [H1.out]; go_num⟩
      case measure => simp [intOf]; omega
    · go_wp2
      go_ret
      exact ⟨ret_int (by rw [show j = k by omega]), rfl⟩

end Go.Proofs.YtdoagbengfdcgaaDoor
