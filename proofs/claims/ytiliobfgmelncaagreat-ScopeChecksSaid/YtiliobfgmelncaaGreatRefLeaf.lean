/- What the document's own answers for bytes and texts come to (names, IRIs, languages, literals' texts): plain tests of all bytes, for every text. -/
import Derived.Test.YtiliobfgmelncaaGreatTermRight
namespace Go.Proofs.YtiliobfgmelncaaGreat
open Go.RowKit

def hasB (b : Int) (l : List UInt8) : Bool := l.any fun c => decide ((c.toNat : Int) = b)
def allB (p : Int → Bool) (l : List UInt8) : Bool := l.all fun c => p (c.toNat : Int)
theorem hasB_step (b : Int) (l : List UInt8) (k : Nat) (h : k < l.length) : hasB b (l.drop k) = (decide ((l[k].toNat : Int) = b) || hasB b (l.drop (k + 1))) := by
  rw [List.drop_eq_getElem_cons h]; rfl
theorem hasB_end (b : Int) (l : List UInt8) (k : Nat) (h : l.length ≤ k) : hasB b (l.drop k) = false := by
  rw [List.drop_eq_nil_of_le h]; rfl
theorem allB_step (p : Int → Bool) (l : List UInt8) (k : Nat) (h : k < l.length) : allB p (l.drop k) = (p (l[k].toNat : Int) && allB p (l.drop (k + 1))) := by
  rw [List.drop_eq_getElem_cons h]; rfl
theorem allB_end (p : Int → Bool) (l : List UInt8) (k : Nat) (h : l.length ≤ k) : allB p (l.drop k) = true := by
  rw [List.drop_eq_nil_of_le h]; rfl
theorem get_list (s : ByteArray) (k : Nat) (h : k < s.size) : (s.data.toList[k]'(by simpa using h)) = s[k]'h := by simp; rfl

def betw (f b t : Int) : Bool := decide (f ≤ b ∧ b ≤ t)

set_option maxHeartbeats 400000 in
theorem rBetween_calls (b f t : Int) (w : World) :
    Calls Tryz.prog 56 #[.int .u8 b, .int .u8 f, .int .u8 t] w fun e w' => e = .returned (.bool (betw f b t)) ∧ w' = w := by
  by_cases h1 : f ≤ b <;> by_cases h2 : b ≤ t <;> go_enter Tryz.func56, Tryz.ntmps56 <;> go_wp2 <;> go_ret <;> exact ⟨by simp [betw, *], rfl⟩

set_option maxHeartbeats 400000 in
theorem rIs_calls (b : Int) (s : ByteArray) (w : World) (_hs : s.size ≤ maxLen) :
    Calls Tryz.prog 79 #[.int .u8 b, .string s] w fun e w' => e = .returned (.bool (hasB b s.data.toList)) ∧ w' = w := by
  unfold maxLen at _hs
  go_enter Tryz.func79, Tryz.ntmps79
  go_wp2
  go_loop [5] (fun i => ∃ k : Nat, k ≤ s.size ∧ i = .int .i64 k ∧ Hid (hasB b s.data.toList = hasB b (s.data.toList.drop k))) (fun i => s.size - (intOf i).toNat)
  case atStart => exact ⟨0, Nat.zero_le _, rfl, Lib.hid rfl⟩
  case round =>
    obtain ⟨k, hk, rfl, HL⟩ := hrel
    by_cases hp : k < s.size
    · have h0 := hasB_step b s.data.toList k (by simpa using hp)
      rw [get_list s k hp] at h0
      by_cases hc : (s[k].toNat : Int) = b
      · have g : ((s[k].toNat : Int) == b) = true := beq_iff_eq.2 hc
        have H0 := Lib.hid (h0.trans (by simp [hc]) : _ = true)
        clear h0 hc
        go_wp2
        go_ret
        exact ⟨ret_bool (by rw [HL.out, H0.out]), rfl⟩
      · have g : ((s[k].toNat : Int) == b) = false := beq_eq_false_iff_ne.2 hc
        have H0 := Lib.hid (h0.trans (by simp [hc]) : _ = hasB b (s.data.toList.drop (k + 1)))
        clear h0 hc
        go_wp2
        go_round
        case rel => exact ⟨k + 1, by omega, by go_num, Lib.hid (by rw [HL.out, H0.out])⟩
        case measure => simp [intOf]; omega
    · have H0 := Lib.hid (hasB_end b s.data.toList k (by simpa using (by omega : s.size ≤ k)))
      go_wp2
      go_ret
      exact ⟨ret_bool (by rw [HL.out, H0.out]), rfl⟩

theorem mark_has (b : Int) : hasB b [60, 62, 34, 123, 125, 124, 94, 96, 92] = markZ b := by
  rw [Bool.eq_iff_iff]; simp [hasB, markZ]; omega

theorem iriZ_atoms (c : Int) : iriZ c = (betw 33 c 126 && !markZ c) := by
  rw [Bool.eq_iff_iff]; simp [iriZ, betw] <;> omega

theorem litZ_atoms (c : Int) : litZ c = (betw 32 c 126 || (c == 10) || (c == 9)) := by
  rw [Bool.eq_iff_iff]; simp [litZ, betw] <;> omega

theorem wordZ_atoms (c : Int) : wordZ c = (betw 97 c 122 || betw 65 c 90 || betw 48 c 57 || (c == 95)) := by
  rw [Bool.eq_iff_iff]; simp [wordZ, betw, letterZ, smallZ, bigZ, digitZ] <;> omega

theorem smallZ_atoms (c : Int) : smallZ c = (betw 97 c 122) := by
  rw [Bool.eq_iff_iff]; simp [smallZ, betw] <;> omega

set_option maxHeartbeats 1000000 in
theorem rAll1_calls (s : ByteArray) (w : World) (_hs : s.size ≤ maxLen) :
    Calls Tryz.prog 55 #[.string s, .int .i64 1] w fun e w' => e = .returned (.bool (allB iriZ s.data.toList)) ∧ w' = w := by
  unfold maxLen at _hs
  go_enter Tryz.func55, Tryz.ntmps55
  go_wp2
  go_loop [5] (fun i => ∃ k : Nat, k ≤ s.size ∧ i = .int .i64 k ∧ Hid (allB iriZ s.data.toList = allB iriZ (s.data.toList.drop k))) (fun i => s.size - (intOf i).toNat)
  case atStart => exact ⟨0, Nat.zero_le _, rfl, Lib.hid rfl⟩
  case round =>
    obtain ⟨k, hk, rfl, HL⟩ := hrel
    by_cases hp : k < s.size
    · have h0 := allB_step iriZ s.data.toList k (by simpa using hp)
      rw [get_list s k hp, iriZ_atoms] at h0
      have H0 := Lib.hid h0
      clear h0
      rcases (show (betw 33 (s[k].toNat : Int) 126) = true ∨ (betw 33 (s[k].toNat : Int) 126) = false by cases (betw 33 (s[k].toNat : Int) 126) <;> simp) with hA | hA
      all_goals rcases (show (markZ (s[k].toNat : Int)) = true ∨ (markZ (s[k].toNat : Int)) = false by cases (markZ (s[k].toNat : Int)) <;> simp) with hB | hB
      all_goals
        go_wp2_with (first | (go_at_call 56; refine (rBetween_calls _ _ _ _).mono ?_; rintro e w' ⟨rfl, hw⟩; obtain rfl := hw.symm; clear hw) | (go_at_call 79; refine (rIs_calls _ _ _ (by decide)).mono ?_; rintro e w' ⟨rfl, hw⟩; obtain rfl := hw.symm; clear hw; rw [show (ByteArray.mk #[60, 62, 34, 123, 125, 124, 94, 96, 92]).data.toList = [60, 62, 34, 123, 125, 124, 94, 96, 92] from rfl, mark_has]))
        first
        | (go_ret; exact ⟨ret_bool (by rw [HL.out, H0.out]; simp [hA, hB]), rfl⟩)
        | (go_round
           case rel => exact ⟨k + 1, by omega, by go_num, Lib.hid (by rw [HL.out, H0.out]; simp [hA, hB])⟩
           case measure => simp [intOf]; omega)
    · have H0 := Lib.hid (allB_end iriZ s.data.toList k (by simpa using (by omega : s.size ≤ k)))
      go_wp2
      go_ret
      exact ⟨ret_bool (by rw [HL.out, H0.out]), rfl⟩

set_option maxHeartbeats 1000000 in
theorem rAll2_calls (s : ByteArray) (w : World) (_hs : s.size ≤ maxLen) :
    Calls Tryz.prog 55 #[.string s, .int .i64 2] w fun e w' => e = .returned (.bool (allB litZ s.data.toList)) ∧ w' = w := by
  unfold maxLen at _hs
  go_enter Tryz.func55, Tryz.ntmps55
  go_wp2
  go_loop [5] (fun i => ∃ k : Nat, k ≤ s.size ∧ i = .int .i64 k ∧ Hid (allB litZ s.data.toList = allB litZ (s.data.toList.drop k))) (fun i => s.size - (intOf i).toNat)
  case atStart => exact ⟨0, Nat.zero_le _, rfl, Lib.hid rfl⟩
  case round =>
    obtain ⟨k, hk, rfl, HL⟩ := hrel
    by_cases hp : k < s.size
    · have h0 := allB_step litZ s.data.toList k (by simpa using hp)
      rw [get_list s k hp, litZ_atoms] at h0
      have H0 := Lib.hid h0
      clear h0
      rcases (show (betw 32 (s[k].toNat : Int) 126) = true ∨ (betw 32 (s[k].toNat : Int) 126) = false by cases (betw 32 (s[k].toNat : Int) 126) <;> simp) with hA | hA
      all_goals rcases (show (((s[k].toNat : Int) == 10)) = true ∨ (((s[k].toNat : Int) == 10)) = false by cases (((s[k].toNat : Int) == 10)) <;> simp) with hB | hB
      all_goals rcases (show (((s[k].toNat : Int) == 9)) = true ∨ (((s[k].toNat : Int) == 9)) = false by cases (((s[k].toNat : Int) == 9)) <;> simp) with hC | hC
      all_goals
        go_wp2_with (first | (go_at_call 56; refine (rBetween_calls _ _ _ _).mono ?_; rintro e w' ⟨rfl, hw⟩; obtain rfl := hw.symm; clear hw) | (go_at_call 79; refine (rIs_calls _ _ _ (by decide)).mono ?_; rintro e w' ⟨rfl, hw⟩; obtain rfl := hw.symm; clear hw; rw [show (ByteArray.mk #[60, 62, 34, 123, 125, 124, 94, 96, 92]).data.toList = [60, 62, 34, 123, 125, 124, 94, 96, 92] from rfl, mark_has]))
        first
        | (go_ret; exact ⟨ret_bool (by rw [HL.out, H0.out]; simp [hA, hB, hC]), rfl⟩)
        | (go_round
           case rel => exact ⟨k + 1, by omega, by go_num, Lib.hid (by rw [HL.out, H0.out]; simp [hA, hB, hC])⟩
           case measure => simp [intOf]; omega)
    · have H0 := Lib.hid (allB_end litZ s.data.toList k (by simpa using (by omega : s.size ≤ k)))
      go_wp2
      go_ret
      exact ⟨ret_bool (by rw [HL.out, H0.out]), rfl⟩

set_option maxHeartbeats 1000000 in
theorem rAll3_calls (s : ByteArray) (w : World) (_hs : s.size ≤ maxLen) :
    Calls Tryz.prog 55 #[.string s, .int .i64 3] w fun e w' => e = .returned (.bool (allB wordZ s.data.toList)) ∧ w' = w := by
  unfold maxLen at _hs
  go_enter Tryz.func55, Tryz.ntmps55
  go_wp2
  go_loop [5] (fun i => ∃ k : Nat, k ≤ s.size ∧ i = .int .i64 k ∧ Hid (allB wordZ s.data.toList = allB wordZ (s.data.toList.drop k))) (fun i => s.size - (intOf i).toNat)
  case atStart => exact ⟨0, Nat.zero_le _, rfl, Lib.hid rfl⟩
  case round =>
    obtain ⟨k, hk, rfl, HL⟩ := hrel
    by_cases hp : k < s.size
    · have h0 := allB_step wordZ s.data.toList k (by simpa using hp)
      rw [get_list s k hp, wordZ_atoms] at h0
      have H0 := Lib.hid h0
      clear h0
      rcases (show (betw 97 (s[k].toNat : Int) 122) = true ∨ (betw 97 (s[k].toNat : Int) 122) = false by cases (betw 97 (s[k].toNat : Int) 122) <;> simp) with hA | hA
      all_goals rcases (show (betw 65 (s[k].toNat : Int) 90) = true ∨ (betw 65 (s[k].toNat : Int) 90) = false by cases (betw 65 (s[k].toNat : Int) 90) <;> simp) with hB | hB
      all_goals rcases (show (betw 48 (s[k].toNat : Int) 57) = true ∨ (betw 48 (s[k].toNat : Int) 57) = false by cases (betw 48 (s[k].toNat : Int) 57) <;> simp) with hC | hC
      all_goals rcases (show (((s[k].toNat : Int) == 95)) = true ∨ (((s[k].toNat : Int) == 95)) = false by cases (((s[k].toNat : Int) == 95)) <;> simp) with hD | hD
      all_goals
        go_wp2_with (first | (go_at_call 56; refine (rBetween_calls _ _ _ _).mono ?_; rintro e w' ⟨rfl, hw⟩; obtain rfl := hw.symm; clear hw) | (go_at_call 79; refine (rIs_calls _ _ _ (by decide)).mono ?_; rintro e w' ⟨rfl, hw⟩; obtain rfl := hw.symm; clear hw; rw [show (ByteArray.mk #[60, 62, 34, 123, 125, 124, 94, 96, 92]).data.toList = [60, 62, 34, 123, 125, 124, 94, 96, 92] from rfl, mark_has]))
        first
        | (go_ret; exact ⟨ret_bool (by rw [HL.out, H0.out]; simp [hA, hB, hC, hD]), rfl⟩)
        | (go_round
           case rel => exact ⟨k + 1, by omega, by go_num, Lib.hid (by rw [HL.out, H0.out]; simp [hA, hB, hC, hD])⟩
           case measure => simp [intOf]; omega)
    · have H0 := Lib.hid (allB_end wordZ s.data.toList k (by simpa using (by omega : s.size ≤ k)))
      go_wp2
      go_ret
      exact ⟨ret_bool (by rw [HL.out, H0.out]), rfl⟩

set_option maxHeartbeats 1000000 in
theorem rAll4_calls (s : ByteArray) (w : World) (_hs : s.size ≤ maxLen) :
    Calls Tryz.prog 55 #[.string s, .int .i64 4] w fun e w' => e = .returned (.bool (allB smallZ s.data.toList)) ∧ w' = w := by
  unfold maxLen at _hs
  go_enter Tryz.func55, Tryz.ntmps55
  go_wp2
  go_loop [5] (fun i => ∃ k : Nat, k ≤ s.size ∧ i = .int .i64 k ∧ Hid (allB smallZ s.data.toList = allB smallZ (s.data.toList.drop k))) (fun i => s.size - (intOf i).toNat)
  case atStart => exact ⟨0, Nat.zero_le _, rfl, Lib.hid rfl⟩
  case round =>
    obtain ⟨k, hk, rfl, HL⟩ := hrel
    by_cases hp : k < s.size
    · have h0 := allB_step smallZ s.data.toList k (by simpa using hp)
      rw [get_list s k hp, smallZ_atoms] at h0
      have H0 := Lib.hid h0
      clear h0
      rcases (show (betw 97 (s[k].toNat : Int) 122) = true ∨ (betw 97 (s[k].toNat : Int) 122) = false by cases (betw 97 (s[k].toNat : Int) 122) <;> simp) with hA | hA
      all_goals
        go_wp2_with (first | (go_at_call 56; refine (rBetween_calls _ _ _ _).mono ?_; rintro e w' ⟨rfl, hw⟩; obtain rfl := hw.symm; clear hw) | (go_at_call 79; refine (rIs_calls _ _ _ (by decide)).mono ?_; rintro e w' ⟨rfl, hw⟩; obtain rfl := hw.symm; clear hw; rw [show (ByteArray.mk #[60, 62, 34, 123, 125, 124, 94, 96, 92]).data.toList = [60, 62, 34, 123, 125, 124, 94, 96, 92] from rfl, mark_has]))
        first
        | (go_ret; exact ⟨ret_bool (by rw [HL.out, H0.out]; simp [hA]), rfl⟩)
        | (go_round
           case rel => exact ⟨k + 1, by omega, by go_num, Lib.hid (by rw [HL.out, H0.out]; simp [hA])⟩
           case measure => simp [intOf]; omega)
    · have H0 := Lib.hid (allB_end smallZ s.data.toList k (by simpa using (by omega : s.size ≤ k)))
      go_wp2
      go_ret
      exact ⟨ret_bool (by rw [HL.out, H0.out]), rfl⟩

end Go.Proofs.YtiliobfgmelncaaGreat
