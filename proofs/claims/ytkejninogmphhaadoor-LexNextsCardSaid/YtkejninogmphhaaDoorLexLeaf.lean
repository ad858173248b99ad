/- How many letters, digits and blanks a text begins with; where the next word must begin: package lex's small functions, for every text. -/
import Derived.Test.YtkejninogmphhaaDoorLexPlain2
import Derived.Test.YtkejninogmphhaaDoorTermUnquote
import Derived.Shelf.Strings.SlTrimAscii
namespace Go.Proofs.YtkejninogmphhaaDoor
open Go.RowKit

set_option maxHeartbeats 400000 in
theorem isLetter_calls (r : Int) (w : World) :
    Calls Tryd.prog 24 #[.int .i32 r] w fun e w' => e = .returned (.bool (letterZ r)) ∧ w' = w := by
  go_enter Tryd.func24, Tryd.ntmps24
  go_wp2
  all_goals go_ret
  all_goals exact ⟨ret_bool (by rw [Bool.eq_iff_iff]; simp [letterZ, smallZ, bigZ] <;> omega), rfl⟩

set_option maxHeartbeats 400000 in
theorem isDigit_calls (r : Int) (w : World) :
    Calls Tryd.prog 26 #[.int .i32 r] w fun e w' => e = .returned (.bool (digitZ r)) ∧ w' = w := by
  by_cases h1 : 48 ≤ r <;> by_cases h2 : r ≤ 57 <;> go_enter Tryd.func26, Tryd.ntmps26 <;> go_wp2 <;> go_ret <;> exact ⟨by simp [digitZ, *], rfl⟩

set_option maxHeartbeats 400000 in
theorem leadingLetter_calls (s : ByteArray) (w : World) (_hs : s.size ≤ maxLen) :
    Calls Tryd.prog 23 #[.string s, .func (.func 24) #[] #[]] w fun e w' => e = .returned (.int .i64 (letterLead s.data.toList)) ∧ Below w.heap.size w w' := by
  unfold maxLen at _hs
  go_enter Tryd.func23, Tryd.ntmps23
  go_wp2
  go_loopw [5] (fun _ w' => ∃ k : Nat, w' = w.iter s k ∧ k ≤ s.size ∧ Hid (letterLead s.data.toList = k + lead (fun _ c => letterZ c) k (s.data.toList.drop k))) (fun _ w' => s.size - w'.iterPos w.heap.size)
  case atStart => exact ⟨0, rfl, Nat.zero_le _, Lib.hid (by simp [letterLead])⟩
  case round =>
    obtain ⟨k, rfl, hk, HL⟩ := hrel
    by_cases hp : k < s.size
    · have hnx : ∀ ty, (Instr.next (.pointer (some ⟨w.heap.size, 0, none⟩)) true ty).run Tryd.prog (w.iter s k) = _ := fun ty => run_next_any w s k ty hp
      have hr := rune_of s k hp
      have hl : k < s.data.toList.length := by simpa using hp
      have hd : 1 ≤ (Utf8.decode s k).2 := width_pos s k hp
      generalize ((Utf8.decode s k).1 : Int) = r at hr hnx
      generalize (Utf8.decode s k).2 = d at hr hd hnx
      generalize hb : (s.data.toList[k]'hl).toNat = b at hr
      by_cases hz : letterZ r = true
      · have hlow : ¬ 128 ≤ r := fun h => by rw [letter_high h] at hz; cases hz
        obtain ⟨rfl, rfl⟩ : r = (b : Int) ∧ d = 1 := hr.resolve_right fun h => hlow h.1
        have h0 := lead_drop_yes (fun _ c => letterZ c) s.data.toList k hl
        rw [hb] at h0
        have H0 := Lib.hid (h0 hz)
        clear h0 hb hr
        go_wp2_with (go_at_call 24; refine (isLetter_calls _ _).mono ?_; rintro e w' ⟨rfl, rfl⟩)
        go_roundw
        case rel => exact ⟨k + 1, rfl, by omega, Lib.hid (by rw [HL.out, H0.out]; omega)⟩
        case measure => simp; omega
      · have hz' : letterZ r = false := by simpa using hz
        have h0 := lead_drop_no (fun _ c => letterZ c) s.data.toList k hl
        rw [hb] at h0
        have H0 := Lib.hid (h0 (by
          rcases hr with h | h
          · rw [← h.1]; exact hz'
          · exact letter_high (by omega)))
        clear h0 hb hr hz
        go_wp2_with (go_at_call 24; refine (isLetter_calls _ _).mono ?_; rintro e w' ⟨rfl, rfl⟩)
        go_ret
        exact ⟨ret_int (by rw [HL.out, H0.out]; omega), iter_below _ _ _⟩
    · have hnx : ∀ ty, (Instr.next (.pointer (some ⟨w.heap.size, 0, none⟩)) true ty).run Tryd.prog (w.iter s k) = _ := fun ty => run_next_end w s k ty hp
      go_wp2
      go_ret
      exact ⟨ret_int (by rw [HL.out, lead_drop_end _ _ _ (by simpa using (by omega : s.size ≤ k))]; omega), iter_below _ _ _⟩

set_option maxHeartbeats 400000 in
theorem leadingDigit_calls (s : ByteArray) (w : World) (_hs : s.size ≤ maxLen) :
    Calls Tryd.prog 23 #[.string s, .func (.func 26) #[] #[]] w fun e w' => e = .returned (.int .i64 (digitLead s.data.toList)) ∧ Below w.heap.size w w' := by
  unfold maxLen at _hs
  go_enter Tryd.func23, Tryd.ntmps23
  go_wp2
  go_loopw [5] (fun _ w' => ∃ k : Nat, w' = w.iter s k ∧ k ≤ s.size ∧ Hid (digitLead s.data.toList = k + lead (fun _ c => digitZ c) k (s.data.toList.drop k))) (fun _ w' => s.size - w'.iterPos w.heap.size)
  case atStart => exact ⟨0, rfl, Nat.zero_le _, Lib.hid (by simp [digitLead])⟩
  case round =>
    obtain ⟨k, rfl, hk, HL⟩ := hrel
    by_cases hp : k < s.size
    · have hnx : ∀ ty, (Instr.next (.pointer (some ⟨w.heap.size, 0, none⟩)) true ty).run Tryd.prog (w.iter s k) = _ := fun ty => run_next_any w s k ty hp
      have hr := rune_of s k hp
      have hl : k < s.data.toList.length := by simpa using hp
      have hd : 1 ≤ (Utf8.decode s k).2 := width_pos s k hp
      generalize ((Utf8.decode s k).1 : Int) = r at hr hnx
      generalize (Utf8.decode s k).2 = d at hr hd hnx
      generalize hb : (s.data.toList[k]'hl).toNat = b at hr
      by_cases hz : digitZ r = true
      · have hlow : ¬ 128 ≤ r := fun h => by rw [digit_high h] at hz; cases hz
        obtain ⟨rfl, rfl⟩ : r = (b : Int) ∧ d = 1 := hr.resolve_right fun h => hlow h.1
        have h0 := lead_drop_yes (fun _ c => digitZ c) s.data.toList k hl
        rw [hb] at h0
        have H0 := Lib.hid (h0 hz)
        clear h0 hb hr
        go_wp2_with (go_at_call 26; refine (isDigit_calls _ _).mono ?_; rintro e w' ⟨rfl, rfl⟩)
        go_roundw
        case rel => exact ⟨k + 1, rfl, by omega, Lib.hid (by rw [HL.out, H0.out]; omega)⟩
        case measure => simp; omega
      · have hz' : digitZ r = false := by simpa using hz
        have h0 := lead_drop_no (fun _ c => digitZ c) s.data.toList k hl
        rw [hb] at h0
        have H0 := Lib.hid (h0 (by
          rcases hr with h | h
          · rw [← h.1]; exact hz'
          · exact digit_high (by omega)))
        clear h0 hb hr hz
        go_wp2_with (go_at_call 26; refine (isDigit_calls _ _).mono ?_; rintro e w' ⟨rfl, rfl⟩)
        go_ret
        exact ⟨ret_int (by rw [HL.out, H0.out]; omega), iter_below _ _ _⟩
    · have hnx : ∀ ty, (Instr.next (.pointer (some ⟨w.heap.size, 0, none⟩)) true ty).run Tryd.prog (w.iter s k) = _ := fun ty => run_next_end w s k ty hp
      go_wp2
      go_ret
      exact ⟨ret_int (by rw [HL.out, lead_drop_end _ _ _ (by simpa using (by omega : s.size ≤ k))]; omega), iter_below _ _ _⟩

theorem TrimLeft_calls (s : ByteArray) (w : World) :
    Calls Tryd.prog 20 #[.string s, .string ⟨#[32, 9, 10]⟩] w fun e w' => e = .returned (.string (bs (s.data.toList.drop (spaceLead s.data.toList)))) ∧ Below w.heap.size w w' := by
  have := Any.strings_TrimLeft_laid Tryd.lays161 (by kernel_rfl) s ⟨#[32, 9, 10]⟩ w (by decide) (ascii_of_all (by decide))
  rw [show (ByteArray.data ⟨#[32, 9, 10]⟩).toList = [32, 9, 10] from rfl, trim_lead] at this
  exact this

set_option maxHeartbeats 400000 in
theorem begin_calls (s : ByteArray) (a : Nat) (w : World) (hs : s.size ≤ maxLen) (ha : a ≤ s.size) :
    Calls Tryd.prog 14 #[.string s, .int .i64 a] w fun e w' => e = .returned (.int .i64 (begS s.data.toList a)) ∧ Below w.heap.size w w' := by
  unfold maxLen at hs
  have hb := begS_le (l := s.data.toList) (a := a) (by rw [← Lib.size_eq]; exact ha)
  have hsp := space_le (s.data.toList.drop a)
  rw [List.length_drop, ← Lib.size_eq] at hsp
  rw [← Lib.size_eq] at hb
  have HB := Lib.hid (show begS s.data.toList a = a + spaceLead (s.data.toList.drop a) from rfl)
  have hsz : ((s.data.toList.drop a).drop (spaceLead (s.data.toList.drop a))).length = s.size - (a + spaceLead (s.data.toList.drop a)) := by
    rw [List.length_drop, List.length_drop, ← Lib.size_eq]; omega
  obtain ⟨n, hn⟩ : ∃ n, spaceLead (s.data.toList.drop a) = n := ⟨_, rfl⟩
  obtain ⟨R, hR⟩ : ∃ R, (s.data.toList.drop a).drop n = R := ⟨_, rfl⟩
  rw [hn] at HB hsz hsp
  rw [hR] at hsz
  have HN := Lib.hid hn
  have HR := Lib.hid hR
  have HZ := Lib.hid (show (bs R).size = s.size - (a + n) from hsz)
  have hbl : (bs R).size ≤ s.size := by rw [HZ.out]; omega
  clear hn hR hsz
  go_enter Tryd.func14, Tryd.ntmps14
  go_wp2_with fail
  rw [drop_bs s a]
  refine (TrimLeft_calls (bs _) _).mono ?_
  rintro e w1 ⟨rfl, hb1⟩
  rw [bs_data, HN.out, HR.out]
  go_wp2
  go_ret
  exact ⟨ret_int (by rw [HB.out, HZ.out]; omega), hb1⟩

end Go.Proofs.YtkejninogmphhaaDoor
