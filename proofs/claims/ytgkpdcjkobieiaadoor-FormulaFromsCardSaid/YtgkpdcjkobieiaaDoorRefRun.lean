/- Blanks, letters, digits by the document's own answer, and how many of them follow a place: the same as package lex's, for every text. -/
import Derived.Test.YtgkpdcjkobieiaaDoorLexNext
import Derived.Test.YtgkpdcjkobieiaaDoorRefLeaf
namespace Go.Proofs.YtgkpdcjkobieiaaDoor
open Go.RowKit

theorem spaceZ_atoms (c : Int) : spaceZ c = ((c == 32) || (c == 9) || (c == 10)) := by
  rw [Bool.eq_iff_iff]; simp [spaceZ, or_assoc]
theorem letterZ_atoms (c : Int) : letterZ c = (betw 97 c 122 || betw 65 c 90) := by
  rw [Bool.eq_iff_iff]; simp [letterZ, smallZ, bigZ, betw]
theorem digitZ_atoms (c : Int) : digitZ c = betw 48 c 57 := rfl

set_option maxHeartbeats 400000 in
theorem rSpace_calls (b : Int) (w : World) :
    Calls Tryd.prog 32 #[.int .u8 b] w fun e w' => e = .returned (.bool (spaceZ b)) ∧ w' = w := by
  rw [spaceZ_atoms]
  cases h1 : (b == 32) <;> cases h2 : (b == 9) <;> cases h3 : (b == 10) <;> go_enter Tryd.func32, Tryd.ntmps32 <;> go_wp2 <;> go_ret <;> exact ⟨rfl, rfl⟩

set_option maxHeartbeats 400000 in
theorem rLetter_calls (b : Int) (w : World) :
    Calls Tryd.prog 33 #[.int .u8 b] w fun e w' => e = .returned (.bool (letterZ b)) ∧ w' = w := by
  rw [letterZ_atoms]
  cases h1 : betw 97 b 122 <;> cases h2 : betw 65 b 90
  all_goals
    have H1 := Lib.hid h1
    have H2 := Lib.hid h2
    clear h1 h2
    go_enter Tryd.func33, Tryd.ntmps33
    go_wp2_with (go_at_call 31; refine (rBetween_calls _ _ _ _).mono ?_; rintro e w' ⟨rfl, hw⟩; obtain rfl := hw.symm; clear hw; first | rw [H1.out] | rw [H2.out])
    go_ret
    exact ⟨rfl, rfl⟩

set_option maxHeartbeats 400000 in
theorem rDigit_calls (b : Int) (w : World) :
    Calls Tryd.prog 34 #[.int .u8 b] w fun e w' => e = .returned (.bool (digitZ b)) ∧ w' = w := by
  rw [digitZ_atoms]
  go_enter Tryd.func34, Tryd.ntmps34
  go_wp2_with (go_at_call 31; refine (rBetween_calls _ _ _ _).mono ?_; rintro e w' ⟨rfl, hw⟩; obtain rfl := hw.symm; clear hw)
  go_ret
  exact ⟨rfl, rfl⟩

set_option maxHeartbeats 2000000 in
theorem rRun1_calls (s : ByteArray) (a : Nat) (w : World) (hs : s.size ≤ 281474976710656) (ha : a ≤ s.size + 1) :
    Calls Tryd.prog 23 #[.string s, .int .i64 a, .int .i64 1] w fun e w' => e = .returned (.int .i64 (lead (fun _ c => spaceZ c) 0 (s.data.toList.drop a))) ∧ w' = w := by
  go_enter Tryd.func23, Tryd.ntmps23
  go_wp2
  go_loop [7] (fun i => ∃ n : Nat, n ≤ s.size ∧ i = .int .i64 n ∧ Hid (lead (fun _ c => spaceZ c) 0 (s.data.toList.drop a) = n + lead (fun _ c => spaceZ c) (a + n) (s.data.toList.drop (a + n)))) (fun i => s.size - (intOf i).toNat)
  case atStart => exact ⟨0, Nat.zero_le _, rfl, Lib.hid (by rw [Nat.zero_add, Nat.add_zero]; exact lead_free _ _ _ _)⟩
  case round =>
    obtain ⟨n, hn, rfl, HL⟩ := hrel
    by_cases hp : a + n < s.size
    · have gp : (a : Int) + (n : Int) < (s.size : Int) := by omega
      have hl : a + n < s.data.toList.length := by rw [← Lib.size_eq]; exact hp
      have hyes := lead_drop_yes (fun _ c => spaceZ c) s.data.toList (a + n) hl
      have hno := lead_drop_no (fun _ c => spaceZ c) s.data.toList (a + n) hl
      have gb : ((a : Int) + (n : Int)).toNat = a + n := by omega
      rw [get_list s (a + n) hp] at hyes hno
      cases hz : spaceZ (s[a + n].toNat : Int) with
      | true =>
        have H0 := Lib.hid (hyes hz)
        have HZ := Lib.hid hz
        clear hyes hno hz
        go_wp2_with (go_at_call 32; refine (rSpace_calls _ _).mono ?_; rintro e w' ⟨rfl, hw⟩; obtain rfl := hw.symm; clear hw; rw [HZ.out])
        go_round
        case rel => exact ⟨n + 1, by omega, by go_num, Lib.hid (by rw [HL.out, H0.out, Nat.add_assoc a n 1]; omega)⟩
        case measure => simp [intOf]; omega
      | false =>
        have H0 := Lib.hid (hno hz)
        have HZ := Lib.hid hz
        clear hyes hno hz
        go_wp2_with (go_at_call 32; refine (rSpace_calls _ _).mono ?_; rintro e w' ⟨rfl, hw⟩; obtain rfl := hw.symm; clear hw; rw [HZ.out])
        go_ret
        exact ⟨ret_int (by rw [HL.out, H0.out]; omega), rfl⟩
    · have gp : ¬ (a : Int) + (n : Int) < (s.size : Int) := by omega
      have H0 := Lib.hid (lead_drop_end (fun _ c => spaceZ c) s.data.toList (a + n) (by rw [← Lib.size_eq]; omega))
      go_wp2
      go_ret
      exact ⟨ret_int (by rw [HL.out, H0.out]; omega), rfl⟩

set_option maxHeartbeats 2000000 in
theorem rRun2_calls (s : ByteArray) (a : Nat) (w : World) (hs : s.size ≤ 281474976710656) (ha : a ≤ s.size + 1) :
    Calls Tryd.prog 23 #[.string s, .int .i64 a, .int .i64 2] w fun e w' => e = .returned (.int .i64 (lead (fun _ c => letterZ c) 0 (s.data.toList.drop a))) ∧ w' = w := by
  go_enter Tryd.func23, Tryd.ntmps23
  go_wp2
  go_loop [7] (fun i => ∃ n : Nat, n ≤ s.size ∧ i = .int .i64 n ∧ Hid (lead (fun _ c => letterZ c) 0 (s.data.toList.drop a) = n + lead (fun _ c => letterZ c) (a + n) (s.data.toList.drop (a + n)))) (fun i => s.size - (intOf i).toNat)
  case atStart => exact ⟨0, Nat.zero_le _, rfl, Lib.hid (by rw [Nat.zero_add, Nat.add_zero]; exact lead_free _ _ _ _)⟩
  case round =>
    obtain ⟨n, hn, rfl, HL⟩ := hrel
    by_cases hp : a + n < s.size
    · have gp : (a : Int) + (n : Int) < (s.size : Int) := by omega
      have hl : a + n < s.data.toList.length := by rw [← Lib.size_eq]; exact hp
      have hyes := lead_drop_yes (fun _ c => letterZ c) s.data.toList (a + n) hl
      have hno := lead_drop_no (fun _ c => letterZ c) s.data.toList (a + n) hl
      have gb : ((a : Int) + (n : Int)).toNat = a + n := by omega
      rw [get_list s (a + n) hp] at hyes hno
      cases hz : letterZ (s[a + n].toNat : Int) with
      | true =>
        have H0 := Lib.hid (hyes hz)
        have HZ := Lib.hid hz
        clear hyes hno hz
        go_wp2_with (go_at_call 33; refine (rLetter_calls _ _).mono ?_; rintro e w' ⟨rfl, hw⟩; obtain rfl := hw.symm; clear hw; rw [HZ.out])
        go_round
        case rel => exact ⟨n + 1, by omega, by go_num, Lib.hid (by rw [HL.out, H0.out, Nat.add_assoc a n 1]; omega)⟩
        case measure => simp [intOf]; omega
      | false =>
        have H0 := Lib.hid (hno hz)
        have HZ := Lib.hid hz
        clear hyes hno hz
        go_wp2_with (go_at_call 33; refine (rLetter_calls _ _).mono ?_; rintro e w' ⟨rfl, hw⟩; obtain rfl := hw.symm; clear hw; rw [HZ.out])
        go_ret
        exact ⟨ret_int (by rw [HL.out, H0.out]; omega), rfl⟩
    · have gp : ¬ (a : Int) + (n : Int) < (s.size : Int) := by omega
      have H0 := Lib.hid (lead_drop_end (fun _ c => letterZ c) s.data.toList (a + n) (by rw [← Lib.size_eq]; omega))
      go_wp2
      go_ret
      exact ⟨ret_int (by rw [HL.out, H0.out]; omega), rfl⟩

set_option maxHeartbeats 2000000 in
theorem rRun3_calls (s : ByteArray) (a : Nat) (w : World) (hs : s.size ≤ 281474976710656) (ha : a ≤ s.size + 1) :
    Calls Tryd.prog 23 #[.string s, .int .i64 a, .int .i64 3] w fun e w' => e = .returned (.int .i64 (lead (fun _ c => digitZ c) 0 (s.data.toList.drop a))) ∧ w' = w := by
  go_enter Tryd.func23, Tryd.ntmps23
  go_wp2
  go_loop [7] (fun i => ∃ n : Nat, n ≤ s.size ∧ i = .int .i64 n ∧ Hid (lead (fun _ c => digitZ c) 0 (s.data.toList.drop a) = n + lead (fun _ c => digitZ c) (a + n) (s.data.toList.drop (a + n)))) (fun i => s.size - (intOf i).toNat)
  case atStart => exact ⟨0, Nat.zero_le _, rfl, Lib.hid (by rw [Nat.zero_add, Nat.add_zero]; exact lead_free _ _ _ _)⟩
  case round =>
    obtain ⟨n, hn, rfl, HL⟩ := hrel
    by_cases hp : a + n < s.size
    · have gp : (a : Int) + (n : Int) < (s.size : Int) := by omega
      have hl : a + n < s.data.toList.length := by rw [← Lib.size_eq]; exact hp
      have hyes := lead_drop_yes (fun _ c => digitZ c) s.data.toList (a + n) hl
      have hno := lead_drop_no (fun _ c => digitZ c) s.data.toList (a + n) hl
      have gb : ((a : Int) + (n : Int)).toNat = a + n := by omega
      rw [get_list s (a + n) hp] at hyes hno
      cases hz : digitZ (s[a + n].toNat : Int) with
      | true =>
        have H0 := Lib.hid (hyes hz)
        have HZ := Lib.hid hz
        clear hyes hno hz
        go_wp2_with (go_at_call 34; refine (rDigit_calls _ _).mono ?_; rintro e w' ⟨rfl, hw⟩; obtain rfl := hw.symm; clear hw; rw [HZ.out])
        go_round
        case rel => exact ⟨n + 1, by omega, by go_num, Lib.hid (by rw [HL.out, H0.out, Nat.add_assoc a n 1]; omega)⟩
        case measure => simp [intOf]; omega
      | false =>
        have H0 := Lib.hid (hno hz)
        have HZ := Lib.hid hz
        clear hyes hno hz
        go_wp2_with (go_at_call 34; refine (rDigit_calls _ _).mono ?_; rintro e w' ⟨rfl, hw⟩; obtain rfl := hw.symm; clear hw; rw [HZ.out])
        go_ret
        exact ⟨ret_int (by rw [HL.out, H0.out]; omega), rfl⟩
    · have gp : ¬ (a : Int) + (n : Int) < (s.size : Int) := by omega
      have H0 := Lib.hid (lead_drop_end (fun _ c => digitZ c) s.data.toList (a + n) (by rw [← Lib.size_eq]; omega))
      go_wp2
      go_ret
      exact ⟨ret_int (by rw [HL.out, H0.out]; omega), rfl⟩

end Go.Proofs.YtgkpdcjkobieiaaDoor
