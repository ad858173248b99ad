/- RefLeaf, RefCompare, put together. -/
import Derived.Test.YtkfemnjblbnclaaGreatDoorGTerm
import Derived.Test.YtkfemnjblbnclaaGreatDoorTermCompare
import Derived.RegionTactic
import Derived.ChangeAlike

/- What the document's own answers for bytes and texts come to (names, IRIs, languages, literals' texts): plain tests of all bytes, for every text. -/
namespace Go.Proofs.YtkfemnjblbnclaaGreatDoor
open Go.RowKit

def hasB (b : Int) (l : List UInt8) : Bool := l.any fun c => decide ((c.toNat : Int) = b)
def allB (p : Int → Bool) (l : List UInt8) : Bool := l.all fun c => p (c.toNat : Int)
theorem hasB_step (b : Int) (l : List UInt8) (k : Nat) (h : k < l.length) : hasB b (l.drop k) = (decide ((l[k].toNat : Int) = b) || hasB b (l.drop (k + 1))) := by
  rw [List.drop_eq_getElem_cons h]; rfl
theorem hasB_end (b : Int) (l : List UInt8) (k : Nat) (h : l.length ≤ k) : hasB b (l.drop k) = false := by
  rw [List.drop_eq_nil_of_le h]; rfl
theorem allB_step (p : Int → Bool) (l : List UInt8) (k : Nat) (h : k < l.length) : allB p (l.drop k) = (p (l[k].toNat : Int) && allB p (l.drop (k + 1))) := by
  rw [List.drop_eq_getElem_cons h]; rfl
theorem allB_end (p : Int → Bool) (l : List UInt8) (k : Nat) (h : l.length ≤ k) : allB p (l.drop k) = true := by
  rw [List.drop_eq_nil_of_le h]; rfl
theorem get_list (s : ByteArray) (k : Nat) (h : k < s.size) : (s.data.toList[k]'(by simpa using h)) = s[k]'h := by simp; rfl

def betw (f b t : Int) : Bool := decide (f ≤ b ∧ b ≤ t)

set_option maxHeartbeats 400000 in
theorem rBetween_calls (b f t : Int) (w : World) :
    Calls Tryz.prog 64 #[.int .u8 b, .int .u8 f, .int .u8 t] w fun e w' => e = .returned (.bool (betw f b t)) ∧ w' = w := by
  by_cases h1 : f ≤ b <;> by_cases h2 : b ≤ t <;> go_enter Tryz.func64, Tryz.ntmps64 <;> go_wp2 <;> go_ret <;> exact ⟨by simp [betw, *], rfl⟩

set_option maxHeartbeats 400000 in
theorem rIs_calls (b : Int) (s : ByteArray) (w : World) (_hs : s.size ≤ maxLen) :
    Calls Tryz.prog 65 #[.int .u8 b, .string s] w fun e w' => e = .returned (.bool (hasB b s.data.toList)) ∧ w' = w := by
  unfold maxLen at _hs
  go_enter Tryz.func65, Tryz.ntmps65
  go_wp2
  go_loop [5] (fun i => ∃ k : Nat, k ≤ s.size ∧ i = .int .i64 k ∧ Hid (hasB b s.data.toList = hasB b (s.data.toList.drop k))) (fun i => s.size - (intOf i).toNat)
  case atStart => exact ⟨0, Nat.zero_le _, rfl, Lib.hid rfl⟩
  case round =>
    obtain ⟨k, hk, rfl, HL⟩ := hrel
    by_cases hp : k < s.size
    · have h0 := hasB_step b s.data.toList k (by simpa using hp)
      rw [get_list s k hp] at h0
      by_cases hc : (s[k].toNat : Int) = b
      · have g : ((s[k].toNat : Int) == b) = true := beq_iff_eq.2 hc
        have H0 := Lib.hid (h0.trans (by simp [hc]) : _ = true)
        clear h0 hc
        go_wp2
        go_ret
        exact ⟨ret_bool (by rw [HL.out, H0.out]), rfl⟩
      · have g : ((s[k].toNat : Int) == b) = false := beq_eq_false_iff_ne.2 hc
        have H0 := Lib.hid (h0.trans (by simp [hc]) : _ = hasB b (s.data.toList.drop (k + 1)))
        clear h0 hc
        go_wp2
        go_round
        case rel => exact ⟨k + 1, by omega, by go_num, Lib.hid (by rw [HL.out, H0.out])⟩
        case measure => simp [intOf]; omega
    · have H0 := Lib.hid (hasB_end b s.data.toList k (by simpa using (by omega : s.size ≤ k)))
      go_wp2
      go_ret
      exact ⟨ret_bool (by rw [HL.out, H0.out]), rfl⟩

theorem mark_has (b : Int) : hasB b [60, 62, 34, 123, 125, 124, 94, 96, 92] = markZ b := by
  rw [Bool.eq_iff_iff]; simp [hasB, markZ]; omega

theorem iriZ_atoms (c : Int) : iriZ c = (betw 33 c 126 && !markZ c) := by
  rw [Bool.eq_iff_iff]; simp [iriZ, betw] <;> omega

theorem litZ_atoms (c : Int) : litZ c = (betw 32 c 126 || (c == 10) || (c == 9)) := by
  rw [Bool.eq_iff_iff]; simp [litZ, betw] <;> omega

theorem wordZ_atoms (c : Int) : wordZ c = (betw 97 c 122 || betw 65 c 90 || betw 48 c 57 || (c == 95)) := by
  rw [Bool.eq_iff_iff]; simp [wordZ, betw, letterZ, smallZ, bigZ, digitZ] <;> omega

theorem smallZ_atoms (c : Int) : smallZ c = (betw 97 c 122) := by
  rw [Bool.eq_iff_iff]; simp [smallZ, betw] <;> omega

set_option maxHeartbeats 1000000 in
theorem rAll1_calls (s : ByteArray) (w : World) (_hs : s.size ≤ maxLen) :
    Calls Tryz.prog 35 #[.string s, .int .i64 1] w fun e w' => e = .returned (.bool (allB iriZ s.data.toList)) ∧ w' = w := by
  unfold maxLen at _hs
  go_enter Tryz.func35, Tryz.ntmps35
  go_wp2
  go_loop [5] (fun i => ∃ k : Nat, k ≤ s.size ∧ i = .int .i64 k ∧ Hid (allB iriZ s.data.toList = allB iriZ (s.data.toList.drop k))) (fun i => s.size - (intOf i).toNat)
  case atStart => exact ⟨0, Nat.zero_le _, rfl, Lib.hid rfl⟩
  case round =>
    obtain ⟨k, hk, rfl, HL⟩ := hrel
    by_cases hp : k < s.size
    · have h0 := allB_step iriZ s.data.toList k (by simpa using hp)
      rw [get_list s k hp, iriZ_atoms] at h0
      have H0 := Lib.hid h0
      clear h0
      rcases (show (betw 33 (s[k].toNat : Int) 126) = true ∨ (betw 33 (s[k].toNat : Int) 126) = false by cases (betw 33 (s[k].toNat : Int) 126) <;> simp) with hA | hA
      all_goals rcases (show (markZ (s[k].toNat : Int)) = true ∨ (markZ (s[k].toNat : Int)) = false by cases (markZ (s[k].toNat : Int)) <;> simp) with hB | hB
      all_goals
        go_wp2_with (first | (go_at_call 64; refine (rBetween_calls _ _ _ _).mono ?_; rintro e w' ⟨rfl, hw⟩; obtain rfl := hw.symm; clear hw) | (go_at_call 65; refine (rIs_calls _ _ _ (by decide)).mono ?_; rintro e w' ⟨rfl, hw⟩; obtain rfl := hw.symm; clear hw; rw [show (ByteArray.mk #[60, 62, 34, 123, 125, 124, 94, 96, 92]).data.toList = [60, 62, 34, 123, 125, 124, 94, 96, 92] from rfl, mark_has]))
        first
        | (go_ret; exact ⟨ret_bool (by rw [HL.out, H0.out]; simp [hA, hB]), rfl⟩)
        | (go_round
           case rel => exact ⟨k + 1, by omega, by go_num, Lib.hid (by rw [HL.out, H0.out]; simp [hA, hB])⟩
           case measure => simp [intOf]; omega)
    · have H0 := Lib.hid (allB_end iriZ s.data.toList k (by simpa using (by omega : s.size ≤ k)))
      go_wp2
      go_ret
      exact ⟨ret_bool (by rw [HL.out, H0.out]), rfl⟩

set_option maxHeartbeats 1000000 in
theorem rAll2_calls (s : ByteArray) (w : World) (_hs : s.size ≤ maxLen) :
    Calls Tryz.prog 35 #[.string s, .int .i64 2] w fun e w' => e = .returned (.bool (allB litZ s.data.toList)) ∧ w' = w := by
  unfold maxLen at _hs
  go_enter Tryz.func35, Tryz.ntmps35
  go_wp2
  go_loop [5] (fun i => ∃ k : Nat, k ≤ s.size ∧ i = .int .i64 k ∧ Hid (allB litZ s.data.toList = allB litZ (s.data.toList.drop k))) (fun i => s.size - (intOf i).toNat)
  case atStart => exact ⟨0, Nat.zero_le _, rfl, Lib.hid rfl⟩
  case round =>
    obtain ⟨k, hk, rfl, HL⟩ := hrel
    by_cases hp : k < s.size
    · have h0 := allB_step litZ s.data.toList k (by simpa using hp)
      rw [get_list s k hp, litZ_atoms] at h0
      have H0 := Lib.hid h0
      clear h0
      rcases (show (betw 32 (s[k].toNat : Int) 126) = true ∨ (betw 32 (s[k].toNat : Int) 126) = false by cases (betw 32 (s[k].toNat : Int) 126) <;> simp) with hA | hA
      all_goals rcases (show (((s[k].toNat : Int) == 10)) = true ∨ (((s[k].toNat : Int) == 10)) = false by cases (((s[k].toNat : Int) == 10)) <;> simp) with hB | hB
      all_goals rcases (show (((s[k].toNat : Int) == 9)) = true ∨ (((s[k].toNat : Int) == 9)) = false by cases (((s[k].toNat : Int) == 9)) <;> simp) with hC | hC
      all_goals
        go_wp2_with (first | (go_at_call 64; refine (rBetween_calls _ _ _ _).mono ?_; rintro e w' ⟨rfl, hw⟩; obtain rfl := hw.symm; clear hw) | (go_at_call 65; refine (rIs_calls _ _ _ (by decide)).mono ?_; rintro e w' ⟨rfl, hw⟩; obtain rfl := hw.symm; clear hw; rw [show (ByteArray.mk #[60, 62, 34, 123, 125, 124, 94, 96, 92]).data.toList = [60, 62, 34, 123, 125, 124, 94, 96, 92] from rfl, mark_has]))
        first
        | (go_ret; exact ⟨ret_bool (by rw [HL.out, H0.out]; simp [hA, hB, hC]), rfl⟩)
        | (go_round
           case rel => exact ⟨k + 1, by omega, by go_num, Lib.hid (by rw [HL.out, H0.out]; simp [hA, hB, hC])⟩
           case measure => simp [intOf]; omega)
    · have H0 := Lib.hid (allB_end litZ s.data.toList k (by simpa using (by omega : s.size ≤ k)))
      go_wp2
      go_ret
      exact ⟨ret_bool (by rw [HL.out, H0.out]), rfl⟩

set_option maxHeartbeats 1000000 in
theorem rAll3_calls (s : ByteArray) (w : World) (_hs : s.size ≤ maxLen) :
    Calls Tryz.prog 35 #[.string s, .int .i64 3] w fun e w' => e = .returned (.bool (allB wordZ s.data.toList)) ∧ w' = w := by
  unfold maxLen at _hs
  go_enter Tryz.func35, Tryz.ntmps35
  go_wp2
  go_loop [5] (fun i => ∃ k : Nat, k ≤ s.size ∧ i = .int .i64 k ∧ Hid (allB wordZ s.data.toList = allB wordZ (s.data.toList.drop k))) (fun i => s.size - (intOf i).toNat)
  case atStart => exact ⟨0, Nat.zero_le _, rfl, Lib.hid rfl⟩
  case round =>
    obtain ⟨k, hk, rfl, HL⟩ := hrel
    by_cases hp : k < s.size
    · have h0 := allB_step wordZ s.data.toList k (by simpa using hp)
      rw [get_list s k hp, wordZ_atoms] at h0
      have H0 := Lib.hid h0
      clear h0
      rcases (show (betw 97 (s[k].toNat : Int) 122) = true ∨ (betw 97 (s[k].toNat : Int) 122) = false by cases (betw 97 (s[k].toNat : Int) 122) <;> simp) with hA | hA
      all_goals rcases (show (betw 65 (s[k].toNat : Int) 90) = true ∨ (betw 65 (s[k].toNat : Int) 90) = false by cases (betw 65 (s[k].toNat : Int) 90) <;> simp) with hB | hB
      all_goals rcases (show (betw 48 (s[k].toNat : Int) 57) = true ∨ (betw 48 (s[k].toNat : Int) 57) = false by cases (betw 48 (s[k].toNat : Int) 57) <;> simp) with hC | hC
      all_goals rcases (show (((s[k].toNat : Int) == 95)) = true ∨ (((s[k].toNat : Int) == 95)) = false by cases (((s[k].toNat : Int) == 95)) <;> simp) with hD | hD
      all_goals
        go_wp2_with (first | (go_at_call 64; refine (rBetween_calls _ _ _ _).mono ?_; rintro e w' ⟨rfl, hw⟩; obtain rfl := hw.symm; clear hw) | (go_at_call 65; refine (rIs_calls _ _ _ (by decide)).mono ?_; rintro e w' ⟨rfl, hw⟩; obtain rfl := hw.symm; clear hw; rw [show (ByteArray.mk #[60, 62, 34, 123, 125, 124, 94, 96, 92]).data.toList = [60, 62, 34, 123, 125, 124, 94, 96, 92] from rfl, mark_has]))
        first
        | (go_ret; exact ⟨ret_bool (by rw [HL.out, H0.out]; simp [hA, hB, hC, hD]), rfl⟩)
        | (go_round
           case rel => exact ⟨k + 1, by omega, by go_num, Lib.hid (by rw [HL.out, H0.out]; simp [hA, hB, hC, hD])⟩
           case measure => simp [intOf]; omega)
    · have H0 := Lib.hid (allB_end wordZ s.data.toList k (by simpa using (by omega : s.size ≤ k)))
      go_wp2
      go_ret
      exact ⟨ret_bool (by rw [HL.out, H0.out]), rfl⟩

set_option maxHeartbeats 1000000 in
theorem rAll4_calls (s : ByteArray) (w : World) (_hs : s.size ≤ maxLen) :
    Calls Tryz.prog 35 #[.string s, .int .i64 4] w fun e w' => e = .returned (.bool (allB smallZ s.data.toList)) ∧ w' = w := by
  unfold maxLen at _hs
  go_enter Tryz.func35, Tryz.ntmps35
  go_wp2
  go_loop [5] (fun i => ∃ k : Nat, k ≤ s.size ∧ i = .int .i64 k ∧ Hid (allB smallZ s.data.toList = allB smallZ (s.data.toList.drop k))) (fun i => s.size - (intOf i).toNat)
  case atStart => exact ⟨0, Nat.zero_le _, rfl, Lib.hid rfl⟩
  case round =>
    obtain ⟨k, hk, rfl, HL⟩ := hrel
    by_cases hp : k < s.size
    · have h0 := allB_step smallZ s.data.toList k (by simpa using hp)
      rw [get_list s k hp, smallZ_atoms] at h0
      have H0 := Lib.hid h0
      clear h0
      rcases (show (betw 97 (s[k].toNat : Int) 122) = true ∨ (betw 97 (s[k].toNat : Int) 122) = false by cases (betw 97 (s[k].toNat : Int) 122) <;> simp) with hA | hA
      all_goals
        go_wp2_with (first | (go_at_call 64; refine (rBetween_calls _ _ _ _).mono ?_; rintro e w' ⟨rfl, hw⟩; obtain rfl := hw.symm; clear hw) | (go_at_call 65; refine (rIs_calls _ _ _ (by decide)).mono ?_; rintro e w' ⟨rfl, hw⟩; obtain rfl := hw.symm; clear hw; rw [show (ByteArray.mk #[60, 62, 34, 123, 125, 124, 94, 96, 92]).data.toList = [60, 62, 34, 123, 125, 124, 94, 96, 92] from rfl, mark_has]))
        first
        | (go_ret; exact ⟨ret_bool (by rw [HL.out, H0.out]; simp [hA]), rfl⟩)
        | (go_round
           case rel => exact ⟨k + 1, by omega, by go_num, Lib.hid (by rw [HL.out, H0.out]; simp [hA])⟩
           case measure => simp [intOf]; omega)
    · have H0 := Lib.hid (allB_end smallZ s.data.toList k (by simpa using (by omega : s.size ≤ k)))
      go_wp2
      go_ret
      exact ⟨ret_bool (by rw [HL.out, H0.out]), rfl⟩

end Go.Proofs.YtkfemnjblbnclaaGreatDoor

/- Which of two terms is ahead, by the document's own answer: the same as package term's Compare, for every two terms. -/
namespace Go.Proofs.YtkfemnjblbnclaaGreatDoor
open Go.RowKit
open Go.Lib (compareBytes)

theorem cb_drop_lt (a b : List UInt8) (k : Nat) (ha : k < a.length) (hb : k < b.length) (h : (a[k].toNat : Int) < b[k].toNat) : compareBytes (a.drop k) (b.drop k) = -1 := by
  rw [List.drop_eq_getElem_cons ha, List.drop_eq_getElem_cons hb, compareBytes, if_pos (UInt8.lt_iff_toNat_lt.2 (by omega))]
theorem cb_drop_gt (a b : List UInt8) (k : Nat) (ha : k < a.length) (hb : k < b.length) (h : (b[k].toNat : Int) < a[k].toNat) : compareBytes (a.drop k) (b.drop k) = 1 := by
  rw [List.drop_eq_getElem_cons ha, List.drop_eq_getElem_cons hb, compareBytes, if_neg (by rw [UInt8.lt_iff_toNat_lt]; omega), if_pos (UInt8.lt_iff_toNat_lt.2 (by omega))]
theorem cb_drop_eq (a b : List UInt8) (k : Nat) (ha : k < a.length) (hb : k < b.length) (h : (a[k].toNat : Int) = b[k].toNat) : compareBytes (a.drop k) (b.drop k) = compareBytes (a.drop (k + 1)) (b.drop (k + 1)) := by
  rw [List.drop_eq_getElem_cons ha, List.drop_eq_getElem_cons hb, compareBytes, if_neg (by rw [UInt8.lt_iff_toNat_lt]; omega), if_neg (by rw [UInt8.lt_iff_toNat_lt]; omega)]
theorem cb_drop_end (a b : List UInt8) (k : Nat) (ha : k ≤ a.length) (hb : k ≤ b.length) (h : k = a.length ∨ k = b.length) : compareBytes (a.drop k) (b.drop k) = if a.length < b.length then -1 else if b.length < a.length then 1 else 0 := by
  by_cases h1 : k = a.length
  · by_cases h2 : k = b.length
    · rw [List.drop_eq_nil_of_le (by omega), List.drop_eq_nil_of_le (by omega), if_neg (by omega), if_neg (by omega)]; rfl
    · rw [List.drop_eq_nil_of_le (by omega), List.drop_eq_getElem_cons (show k < b.length by omega), if_pos (by omega)]; rfl
  · rw [List.drop_eq_getElem_cons (show k < a.length by omega), show List.drop k b = [] from List.drop_eq_nil_of_le (by omega), if_neg (by omega), if_pos (by omega)]; rfl

set_option maxHeartbeats 1000000 in
theorem before_calls (a b : ByteArray) (w : World) (_ha : a.size ≤ maxLen) (_hb : b.size ≤ maxLen) :
    Calls Tryz.prog 68 #[.string a, .string b] w fun e w' => e = .returned (.int .i64 (compareBytes a.data.toList b.data.toList)) ∧ Below w.heap.size w w' := by
  unfold maxLen at _ha _hb
  go_enter Tryz.func68, Tryz.ntmps68
  go_wp2
  go_loopw [5] (fun i wr => ∃ k : Nat, k ≤ a.size ∧ k ≤ b.size ∧ i = .int .i64 k ∧ Below w.heap.size w wr ∧ Hid (compareBytes a.data.toList b.data.toList = compareBytes (a.data.toList.drop k) (b.data.toList.drop k))) (fun i _ => a.size - (intOf i).toNat)
  case atStart => exact ⟨0, Nat.zero_le _, Nat.zero_le _, rfl, Below.refl _ _, Lib.hid rfl⟩
  case round =>
    obtain ⟨k, hka, hkb, rfl, hbw, HC⟩ := hrel
    by_cases h1 : k < a.size ∧ k < b.size
    · obtain ⟨ha, hb⟩ := h1
      have hla : k < a.data.toList.length := by simpa using ha
      have hlb : k < b.data.toList.length := by simpa using hb
      have c1 := cb_drop_lt a.data.toList b.data.toList k hla hlb
      have c2 := cb_drop_gt a.data.toList b.data.toList k hla hlb
      have c3 := cb_drop_eq a.data.toList b.data.toList k hla hlb
      rw [get_list a k ha, get_list b k hb] at c1 c2 c3
      rcases Int.lt_trichotomy ((a[k]'ha).toNat : Int) ((b[k]'hb).toNat : Int) with h | h | h
      · have H := Lib.hid (c1 h)
        clear c1 c2 c3 hla hlb
        go_wp2
        go_region
        go_wp2
        go_ret
        exact ⟨ret_int (by rw [HC.out, H.out]), hbw.drew⟩
      · have H := Lib.hid (c3 h)
        have g1 : ¬ ((a[k]'ha).toNat : Int) < ((b[k]'hb).toNat : Int) := by omega
        have g2 : ¬ ((b[k]'hb).toNat : Int) < ((a[k]'ha).toNat : Int) := by omega
        clear c1 c2 c3 hla hlb h
        go_wp2
        go_region
        go_wp2
        go_region
        go_wp2
        go_roundw
        case rel => exact ⟨k + 1, by omega, by omega, by go_num, hbw.drew.drew, Lib.hid (by rw [HC.out, H.out])⟩
        case measure => simp [intOf]; omega
      · have H := Lib.hid (c2 h)
        clear c1 c2 c3 hla hlb
        go_wp2
        go_region
        go_wp2
        go_region
        go_wp2
        go_ret
        exact ⟨ret_int (by rw [HC.out, H.out]), hbw.drew.drew⟩
    · have HE := Lib.hid (cb_drop_end a.data.toList b.data.toList k (by simpa using hka) (by simpa using hkb) (by have e1 := Lib.size_eq a; have e2 := Lib.size_eq b; omega))
      have HS1 := Lib.hid (Lib.size_eq a)
      have HS2 := Lib.hid (Lib.size_eq b)
      obtain h | h | h : (k < a.size ∧ ¬ k < b.size) ∨ (¬ k < a.size ∧ k < b.size) ∨ (¬ k < a.size ∧ ¬ k < b.size) := by omega
      all_goals
        obtain ⟨g1, g2⟩ := h
        clear h1
        go_wp2
        all_goals go_ret
        all_goals exact ⟨ret_int (by rw [HC.out, HE.out, ← HS1.out, ← HS2.out]; first | rw [if_pos (by omega)] | rw [if_neg (by omega), if_pos (by omega)] | rw [if_neg (by omega), if_neg (by omega)]), hbw⟩

set_option maxHeartbeats 1000000 in
theorem rCompare_calls (k : Int) (x y z : ByteArray) (k' : Int) (x' y' z' : ByteArray) (w : World) (_hx : x.size ≤ maxLen) (_hy : y.size ≤ maxLen) (_hz : z.size ≤ maxLen) (_hx' : x'.size ≤ maxLen) (_hy' : y'.size ≤ maxLen) (_hz' : z'.size ≤ maxLen) :
    Calls Tryz.prog 43 #[.agg #[.int .i64 k, .string x, .string y, .string z], .agg #[.int .i64 k', .string x', .string y', .string z']] w fun e w' => e = .returned (.int .i64 (termCmp k x.data.toList y.data.toList z.data.toList k' x'.data.toList y'.data.toList z'.data.toList)) ∧ Below w.heap.size w w' := by
  obtain ⟨X, hX⟩ : ∃ X, compareBytes x.data.toList x'.data.toList = X := ⟨_, rfl⟩
  obtain ⟨Y, hY⟩ : ∃ Y, compareBytes y.data.toList y'.data.toList = Y := ⟨_, rfl⟩
  have HT := Lib.hid (show termCmp k x.data.toList y.data.toList z.data.toList k' x'.data.toList y'.data.toList z'.data.toList = _ from by unfold termCmp; rw [hX, hY])
  have HX := Lib.hid hX
  have HY := Lib.hid hY
  clear hX hY
  by_cases h1 : k < k'
  · have HT' := Lib.hid (HT.out.trans (if_pos h1))
    go_enter Tryz.func43, Tryz.ntmps43
    go_wp2_with fail
    go_ret
    exact ⟨ret_int HT'.out.symm, two_alloc _ _ _⟩
  by_cases h2 : k' < k
  · have HT' := Lib.hid ((HT.out.trans (if_neg h1)).trans (if_pos h2))
    go_enter Tryz.func43, Tryz.ntmps43
    go_wp2_with fail
    go_ret
    exact ⟨ret_int HT'.out.symm, two_alloc _ _ _⟩
  replace HT := Lib.hid ((HT.out.trans (if_neg h1)).trans (if_neg h2))
  go_enter Tryz.func43, Tryz.ntmps43
  go_wp2_with fail
  refine (before_calls _ _ _ _hx _hx').mono ?_
  rintro e w1 ⟨rfl, hb1⟩
  rw [HX.out]
  obtain ⟨hc, hf⟩ := bcell hb1
  by_cases hX0 : X ≠ 0
  · replace HT := Lib.hid (HT.out.trans (if_pos hX0))
    have g : (X != 0) = true := by simpa using hX0
    clear hX0
    go_wp2_with fail
    refine (before_calls _ _ _ _hx _hx').mono ?_
    rintro e w2 ⟨rfl, hb2⟩
    rw [HX.out]
    go_wp2
    go_ret
    exact ⟨ret_int HT.out.symm, (two_alloc _ _ _).trans ((bnext hb1 hb2).mono (by simp; omega))⟩
  · replace HT := Lib.hid (HT.out.trans (if_neg hX0))
    have g : (X != 0) = false := by simpa using hX0
    clear hX0
    go_wp2_with fail
    refine (before_calls _ _ _ _hy _hy').mono ?_
    rintro e w2 ⟨rfl, hb2'⟩
    rw [HY.out]
    have hb2 := bnext hb1 hb2'
    clear hc hf
    obtain ⟨hc, hf⟩ := bcell hb2
    by_cases hY0 : Y ≠ 0
    · replace HT := Lib.hid (HT.out.trans (if_pos hY0))
      have g : (Y != 0) = true := by simpa using hY0
      clear hY0
      go_wp2_with fail
      refine (before_calls _ _ _ _hy _hy').mono ?_
      rintro e w3 ⟨rfl, hb3⟩
      rw [HY.out]
      go_wp2
      go_ret
      exact ⟨ret_int HT.out.symm, (two_alloc _ _ _).trans ((bnext hb2 hb3).mono (by simp; omega))⟩
    · replace HT := Lib.hid (HT.out.trans (if_neg hY0))
      have g : (Y != 0) = false := by simpa using hY0
      clear hY0
      go_wp2_with fail
      refine (before_calls _ _ _ _hz _hz').mono ?_
      rintro e w3 ⟨rfl, hb3⟩
      go_wp2
      go_ret
      exact ⟨ret_int HT.out.symm, (two_alloc _ _ _).trans ((bnext hb2 hb3).mono (by simp; omega))⟩

end Go.Proofs.YtkfemnjblbnclaaGreatDoor
