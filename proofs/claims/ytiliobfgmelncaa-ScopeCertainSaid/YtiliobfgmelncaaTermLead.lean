/- How many bytes of a text are a name's, an IRI's, a language's: what the three loops of package term over a text's runes come to, for every text. -/
import Derived.Test.YtiliobfgmelncaaTermLeaf
namespace Go.Proofs.Ytiliobfgmelncaa
open Go.RowKit

theorem iter_below (w : World) (s : ByteArray) (p : Nat) : Below w.heap.size w (w.iter s p) := (Below.refl _ _).alloc (Nat.le_refl _) _

theorem width_pos (s : ByteArray) (pos : Nat) (h : pos < s.size) : 1 ≤ (Utf8.decode s pos).2 := by
  by_cases ha : (s[pos]'h).toNat < 128
  · rw [decode_ascii s pos h ha]
    exact Nat.le_refl _
  · exact (decode_high s pos h (by omega)).2

/- one rune: below 128 it is its byte; else no byte of any text that is asked for -/
theorem rune_of (s : ByteArray) (k : Nat) (h : k < s.size) :
    (((Utf8.decode s k).1 : Int) = ((s.data.toList[k]'(by simpa using h)).toNat : Int) ∧ (Utf8.decode s k).2 = 1) ∨ (128 ≤ ((Utf8.decode s k).1 : Int) ∧ 128 ≤ ((s.data.toList[k]'(by simpa using h)).toNat : Int)) := by
  have e : (s.data.toList[k]'(by simpa using h)) = s[k]'h := by simp; rfl
  rw [e]
  by_cases ha : (s[k]'h).toNat < 128
  · left; rw [decode_ascii s k h ha]; exact ⟨rfl, rfl⟩
  · right; have := (decode_high s k h (by omega)).1; omega

set_option maxHeartbeats 400000 in
theorem nameLength_calls (s : ByteArray) (w : World) (_hs : s.size ≤ maxLen) :
    Calls Try.prog 47 #[.string s] w fun e w' => e = .returned (.int .i64 (nameLead s.data.toList)) ∧ Below w.heap.size w w' := by
  unfold maxLen at _hs
  go_enter Try.func47, Try.ntmps47
  go_wp2
  go_loopw [3] (fun _ w' => ∃ k : Nat, w' = w.iter s k ∧ k ≤ s.size ∧ k ≤ 32 ∧ Hid (nameLead s.data.toList = k + lead (fun k c => decide (k < 32) && nameZ c k) k (s.data.toList.drop k))) (fun _ w' => s.size - w'.iterPos w.heap.size)
  case atStart => exact ⟨0, rfl, Nat.zero_le _, Nat.zero_le _, Lib.hid (by simp [nameLead])⟩
  case round =>
    obtain ⟨k, rfl, hk, hk2, HL⟩ := hrel
    by_cases hp : k < s.size
    · have hnx : ∀ ty, (Instr.next (.pointer (some ⟨w.heap.size, 0, none⟩)) true ty).run Try.prog (w.iter s k) = _ := fun ty => run_next_any w s k ty hp
      have hr := rune_of s k hp
      have hl : k < s.data.toList.length := by simpa using hp
      have hd : 1 ≤ (Utf8.decode s k).2 := width_pos s k hp
      generalize ((Utf8.decode s k).1 : Int) = r at hr hnx
      generalize (Utf8.decode s k).2 = d at hr hd hnx
      generalize hb : (s.data.toList[k]'hl).toNat = b at hr
      by_cases h32 : k = 32
      · have g : ((k : Int) == 32) = true := beq_iff_eq.2 (by omega)
        have h0 := lead_drop_no (fun k c => decide (k < 32) && nameZ c k) s.data.toList k hl (by simp; omega)
        have H0 := Lib.hid h0
        clear h0 h32 hr hb
        go_wp2
        go_ret
        exact ⟨ret_int (by rw [HL.out, H0.out]; omega), iter_below _ _ _⟩
      · have g : ((k : Int) == 32) = false := beq_eq_false_iff_ne.2 (by omega)
        by_cases hz : nameZ r k = true
        · have hlow : ¬ 128 ≤ r := fun h => by rw [name_high h] at hz; cases hz
          obtain ⟨rfl, rfl⟩ : r = (b : Int) ∧ d = 1 := hr.resolve_right fun h => hlow h.1
          have h0 := lead_drop_yes (fun k c => decide (k < 32) && nameZ c k) s.data.toList k hl
          rw [hb] at h0
          have H0 := Lib.hid (h0 (by simp [hz]; omega))
          clear h0 hb hr
          go_wp2_with (go_at_call 68; refine (isNameByte_calls _ _ _).mono ?_; rintro e w' ⟨rfl, rfl⟩)
          go_roundw
          case rel => exact ⟨k + 1, rfl, by omega, by omega, Lib.hid (by rw [HL.out, H0.out]; omega)⟩
          case measure => simp; omega
        · have hz' : nameZ r k = false := by simpa using hz
          have h0 := lead_drop_no (fun k c => decide (k < 32) && nameZ c k) s.data.toList k hl
          rw [hb] at h0
          have H0 := Lib.hid (h0 (by
            rcases hr with h | h
            · rw [← h.1]; simp [hz']
            · rw [name_high (by omega)]; simp))
          clear h0 hb hr hz
          go_wp2_with (go_at_call 68; refine (isNameByte_calls _ _ _).mono ?_; rintro e w' ⟨rfl, rfl⟩)
          go_ret
          exact ⟨ret_int (by rw [HL.out, H0.out]; omega), iter_below _ _ _⟩
    · have hnx : ∀ ty, (Instr.next (.pointer (some ⟨w.heap.size, 0, none⟩)) true ty).run Try.prog (w.iter s k) = _ := fun ty => run_next_end w s k ty hp
      go_wp2
      go_ret
      exact ⟨ret_int (by rw [HL.out, lead_drop_end _ _ _ (by simpa using (by omega : s.size ≤ k))]; omega), iter_below _ _ _⟩

set_option maxHeartbeats 400000 in
theorem iriLength_calls (s : ByteArray) (w : World) (_hs : s.size ≤ maxLen) :
    Calls Try.prog 83 #[.string s] w fun e w' => e = .returned (.int .i64 (iriLead s.data.toList)) ∧ Below w.heap.size w w' := by
  unfold maxLen at _hs
  go_enter Try.func83, Try.ntmps83
  go_wp2
  go_loopw [3] (fun _ w' => ∃ k : Nat, w' = w.iter s k ∧ k ≤ s.size ∧ k ≤ 4096 ∧ Hid (iriLead s.data.toList = k + lead (fun k c => decide (k < 4096) && iriZ c) k (s.data.toList.drop k))) (fun _ w' => s.size - w'.iterPos w.heap.size)
  case atStart => exact ⟨0, rfl, Nat.zero_le _, Nat.zero_le _, Lib.hid (by simp [iriLead])⟩
  case round =>
    obtain ⟨k, rfl, hk, hk2, HL⟩ := hrel
    by_cases hp : k < s.size
    · have hnx : ∀ ty, (Instr.next (.pointer (some ⟨w.heap.size, 0, none⟩)) true ty).run Try.prog (w.iter s k) = _ := fun ty => run_next_any w s k ty hp
      have hr := rune_of s k hp
      have hl : k < s.data.toList.length := by simpa using hp
      have hd : 1 ≤ (Utf8.decode s k).2 := width_pos s k hp
      generalize ((Utf8.decode s k).1 : Int) = r at hr hnx
      generalize (Utf8.decode s k).2 = d at hr hd hnx
      generalize hb : (s.data.toList[k]'hl).toNat = b at hr
      by_cases h32 : k = 4096
      · have g : ((k : Int) == 4096) = true := beq_iff_eq.2 (by omega)
        have h0 := lead_drop_no (fun k c => decide (k < 4096) && iriZ c) s.data.toList k hl (by simp; omega)
        have H0 := Lib.hid h0
        clear h0 h32 hr hb
        go_wp2
        go_ret
        exact ⟨ret_int (by rw [HL.out, H0.out]; omega), iter_below _ _ _⟩
      · have g : ((k : Int) == 4096) = false := beq_eq_false_iff_ne.2 (by omega)
        by_cases hz : iriZ r = true
        · have hlow : ¬ 128 ≤ r := fun h => by rw [iri_high h] at hz; cases hz
          obtain ⟨rfl, rfl⟩ : r = (b : Int) ∧ d = 1 := hr.resolve_right fun h => hlow h.1
          have h0 := lead_drop_yes (fun k c => decide (k < 4096) && iriZ c) s.data.toList k hl
          rw [hb] at h0
          have H0 := Lib.hid (h0 (by simp [hz]; omega))
          clear h0 hb hr
          go_wp2_with (go_at_call 87; refine (isIriByte_calls _ _).mono ?_; rintro e w' ⟨rfl, rfl⟩)
          go_roundw
          case rel => exact ⟨k + 1, rfl, by omega, by omega, Lib.hid (by rw [HL.out, H0.out]; omega)⟩
          case measure => simp; omega
        · have hz' : iriZ r = false := by simpa using hz
          have h0 := lead_drop_no (fun k c => decide (k < 4096) && iriZ c) s.data.toList k hl
          rw [hb] at h0
          have H0 := Lib.hid (h0 (by
            rcases hr with h | h
            · rw [← h.1]; simp [hz']
            · rw [iri_high (by omega)]; simp))
          clear h0 hb hr hz
          go_wp2_with (go_at_call 87; refine (isIriByte_calls _ _).mono ?_; rintro e w' ⟨rfl, rfl⟩)
          go_ret
          exact ⟨ret_int (by rw [HL.out, H0.out]; omega), iter_below _ _ _⟩
    · have hnx : ∀ ty, (Instr.next (.pointer (some ⟨w.heap.size, 0, none⟩)) true ty).run Try.prog (w.iter s k) = _ := fun ty => run_next_end w s k ty hp
      go_wp2
      go_ret
      exact ⟨ret_int (by rw [HL.out, lead_drop_end _ _ _ (by simpa using (by omega : s.size ≤ k))]; omega), iter_below _ _ _⟩

set_option maxHeartbeats 400000 in
theorem langLength_calls (s : ByteArray) (w : World) (_hs : s.size ≤ maxLen) :
    Calls Try.prog 88 #[.string s] w fun e w' => e = .returned (.int .i64 (langLead s.data.toList)) ∧ Below w.heap.size w w' := by
  unfold maxLen at _hs
  go_enter Try.func88, Try.ntmps88
  go_wp2
  go_loopw [3] (fun _ w' => ∃ k : Nat, w' = w.iter s k ∧ k ≤ s.size ∧ k ≤ 9 ∧ Hid (langLead s.data.toList = k + lead (fun k c => decide (k ≤ 8) && smallZ c) k (s.data.toList.drop k))) (fun _ w' => s.size - w'.iterPos w.heap.size)
  case atStart => exact ⟨0, rfl, Nat.zero_le _, Nat.zero_le _, Lib.hid (by simp [langLead])⟩
  case round =>
    obtain ⟨k, rfl, hk, hk2, HL⟩ := hrel
    by_cases hp : k < s.size
    · have hnx : ∀ ty, (Instr.next (.pointer (some ⟨w.heap.size, 0, none⟩)) true ty).run Try.prog (w.iter s k) = _ := fun ty => run_next_any w s k ty hp
      have hr := rune_of s k hp
      have hl : k < s.data.toList.length := by simpa using hp
      have hd : 1 ≤ (Utf8.decode s k).2 := width_pos s k hp
      generalize ((Utf8.decode s k).1 : Int) = r at hr hnx
      generalize (Utf8.decode s k).2 = d at hr hd hnx
      generalize hb : (s.data.toList[k]'hl).toNat = b at hr
      by_cases h32 : 8 < k
      · have g : (8 : Int) < (k : Int) := by omega
        have h0 := lead_drop_no (fun k c => decide (k ≤ 8) && smallZ c) s.data.toList k hl (by simp; omega)
        have H0 := Lib.hid h0
        clear h0 h32 hr hb
        go_wp2
        go_ret
        exact ⟨ret_int (by rw [HL.out, H0.out]; omega), iter_below _ _ _⟩
      · have g : ¬ (8 : Int) < (k : Int) := by omega
        by_cases hz : smallZ r = true
        · have hlow : ¬ 128 ≤ r := fun h => by rw [small_high h] at hz; cases hz
          obtain ⟨rfl, rfl⟩ : r = (b : Int) ∧ d = 1 := hr.resolve_right fun h => hlow h.1
          have h0 := lead_drop_yes (fun k c => decide (k ≤ 8) && smallZ c) s.data.toList k hl
          rw [hb] at h0
          have H0 := Lib.hid (h0 (by simp [hz]; omega))
          clear h0 hb hr
          go_wp2_with (go_at_call 82; refine (isSmall_calls _ _).mono ?_; rintro e w' ⟨rfl, rfl⟩)
          go_roundw
          case rel => exact ⟨k + 1, rfl, by omega, by omega, Lib.hid (by rw [HL.out, H0.out]; omega)⟩
          case measure => simp; omega
        · have hz' : smallZ r = false := by simpa using hz
          have h0 := lead_drop_no (fun k c => decide (k ≤ 8) && smallZ c) s.data.toList k hl
          rw [hb] at h0
          have H0 := Lib.hid (h0 (by
            rcases hr with h | h
            · rw [← h.1]; simp [hz']
            · rw [small_high (by omega)]; simp))
          clear h0 hb hr hz
          go_wp2_with (go_at_call 82; refine (isSmall_calls _ _).mono ?_; rintro e w' ⟨rfl, rfl⟩)
          go_ret
          exact ⟨ret_int (by rw [HL.out, H0.out]; omega), iter_below _ _ _⟩
    · have hnx : ∀ ty, (Instr.next (.pointer (some ⟨w.heap.size, 0, none⟩)) true ty).run Try.prog (w.iter s k) = _ := fun ty => run_next_end w s k ty hp
      go_wp2
      go_ret
      exact ⟨ret_int (by rw [HL.out, lead_drop_end _ _ _ (by simpa using (by omega : s.size ≤ k))]; omega), iter_below _ _ _⟩

end Go.Proofs.Ytiliobfgmelncaa
