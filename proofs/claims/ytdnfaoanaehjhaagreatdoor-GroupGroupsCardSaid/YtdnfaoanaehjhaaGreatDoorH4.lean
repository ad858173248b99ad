/- TermLeaf, TermLead, TermRight, TermCheck, BlkKit, put together. -/
import Derived.Test.YtdnfaoanaehjhaaGreatDoorH1
import Derived.Test.YtdnfaoanaehjhaaGreatDoorShelf
import Derived.Test.YtdnfaoanaehjhaaGreatDoorProg
import Derived.WalkKit
import Derived.Lib.Hide
import Derived.WalkSpells
import Derived.WalkLawsBesides

/- What the small functions on bytes of package term come to: each answers just its test, and leaves the world as it was. -/
namespace Go.Proofs.YtdnfaoanaehjhaaGreatDoor
open Go.RowKit

set_option maxHeartbeats 400000 in
theorem isSmall_calls (r : Int) (w : World) :
    Calls Tryz.prog 117 #[.int .i32 r] w fun e w' => e = .returned (.bool (smallZ r)) ∧ w' = w := by
  by_cases h1 : 97 ≤ r <;> by_cases h2 : r ≤ 122 <;> go_enter Tryz.func117, Tryz.ntmps117 <;> go_wp2 <;> go_ret <;> exact ⟨by simp [smallZ, *], rfl⟩

set_option maxHeartbeats 400000 in
theorem isNameByte_calls (r k : Int) (w : World) :
    Calls Tryz.prog 104 #[.int .i32 r, .int .i64 k] w fun e w' => e = .returned (.bool (nameZ r k)) ∧ w' = w := by
  go_enter Tryz.func104, Tryz.ntmps104
  go_wp2
  all_goals go_ret
  all_goals exact ⟨ret_bool (by rw [Bool.eq_iff_iff]; simp [nameZ, letterZ, smallZ, bigZ, digitZ] <;> omega), rfl⟩

set_option maxHeartbeats 400000 in
theorem isLiteralByte_calls (r : Int) (w : World) :
    Calls Tryz.prog 129 #[.int .i32 r] w fun e w' => e = .returned (.bool (litZ r)) ∧ w' = w := by
  go_enter Tryz.func129, Tryz.ntmps129
  go_wp2
  all_goals go_ret
  all_goals exact ⟨ret_bool (by rw [Bool.eq_iff_iff]; simp [litZ] <;> omega), rfl⟩

theorem mark_ascii : ∀ n : Fin 128, decide (0 ≤ Lib.indexByte [60, 62, 34, 123, 125, 124, 94, 96, 92] n.val.toUInt8) = markZ (n.val : Int) := by decide +kernel
theorem mark_of (r : Int) (h0 : 0 ≤ r) (h1 : r < 128) : decide (0 ≤ Lib.indexByte [60, 62, 34, 123, 125, 124, 94, 96, 92] r.toNat.toUInt8) = markZ r := by
  obtain ⟨n, rfl⟩ := Int.eq_ofNat_of_zero_le h0
  exact mark_ascii ⟨n, by omega⟩

set_option maxHeartbeats 400000 in
theorem isIriByte_calls (r : Int) (w : World) :
    Calls Tryz.prog 145 #[.int .i32 r] w fun e w' => e = .returned (.bool (iriZ r)) ∧ w' = w := by
  by_cases h1 : 33 ≤ r <;> by_cases h2 : r ≤ 126
  · have hm := mark_of r (by omega) (by omega)
    have HM := Lib.hid hm
    clear hm
    go_enter Tryz.func145, Tryz.ntmps145
    go_wp2_with (go_at_call 161; refine (Tryz.strings_ContainsRune_ascii _ r _ (by omega) (by omega)).mono ?_; rintro e w' ⟨rfl, rfl⟩)
    go_ret
    exact ⟨ret_bool (by rw [show iriZ r = !markZ r from by simp [iriZ, h1, h2], ← HM.out]), rfl⟩
  all_goals
    go_enter Tryz.func145, Tryz.ntmps145
    go_wp2_with fail
    go_ret
    exact ⟨ret_bool (by rw [Bool.eq_iff_iff]; simp [iriZ] <;> omega), rfl⟩

end Go.Proofs.YtdnfaoanaehjhaaGreatDoor

/- How many bytes of a text are a name's, an IRI's, a language's: what the three loops of package term over a text's runes come to, for every text. -/
namespace Go.Proofs.YtdnfaoanaehjhaaGreatDoor
open Go.RowKit

theorem iter_below (w : World) (s : ByteArray) (p : Nat) : Below w.heap.size w (w.iter s p) := (Below.refl _ _).alloc (Nat.le_refl _) _

theorem width_pos (s : ByteArray) (pos : Nat) (h : pos < s.size) : 1 ≤ (Utf8.decode s pos).2 := by
  by_cases ha : (s[pos]'h).toNat < 128
  · rw [decode_ascii s pos h ha]
    exact Nat.le_refl _
  · exact (decode_high s pos h (by omega)).2

/- one rune: below 128 it is its byte; else no byte of any text that is asked for -/
theorem rune_of (s : ByteArray) (k : Nat) (h : k < s.size) :
    (((Utf8.decode s k).1 : Int) = ((s.data.toList[k]'(by simpa using h)).toNat : Int) ∧ (Utf8.decode s k).2 = 1) ∨ (128 ≤ ((Utf8.decode s k).1 : Int) ∧ 128 ≤ ((s.data.toList[k]'(by simpa using h)).toNat : Int)) := by
  have e : (s.data.toList[k]'(by simpa using h)) = s[k]'h := by simp; rfl
  rw [e]
  by_cases ha : (s[k]'h).toNat < 128
  · left; rw [decode_ascii s k h ha]; exact ⟨rfl, rfl⟩
  · right; have := (decode_high s k h (by omega)).1; omega

set_option maxHeartbeats 400000 in
theorem nameLength_calls (s : ByteArray) (w : World) (_hs : s.size ≤ maxLen) :
    Calls Tryz.prog 92 #[.string s] w fun e w' => e = .returned (.int .i64 (nameLead s.data.toList)) ∧ Below w.heap.size w w' := by
  unfold maxLen at _hs
  go_enter Tryz.func92, Tryz.ntmps92
  go_wp2
  go_loopw [3] (fun _ w' => ∃ k : Nat, w' = w.iter s k ∧ k ≤ s.size ∧ k ≤ 32 ∧ Hid (nameLead s.data.toList = k + lead (fun k c => decide (k < 32) && nameZ c k) k (s.data.toList.drop k))) (fun _ w' => s.size - w'.iterPos w.heap.size)
  case atStart => exact ⟨0, rfl, Nat.zero_le _, Nat.zero_le _, Lib.hid (by simp [nameLead])⟩
  case round =>
    obtain ⟨k, rfl, hk, hk2, HL⟩ := hrel
    by_cases hp : k < s.size
    · have hnx : ∀ ty, (Instr.next (.pointer (some ⟨w.heap.size, 0, none⟩)) true ty).run Tryz.prog (w.iter s k) = _ := fun ty => run_next_any w s k ty hp
      have hr := rune_of s k hp
      have hl : k < s.data.toList.length := by simpa using hp
      have hd : 1 ≤ (Utf8.decode s k).2 := width_pos s k hp
      generalize ((Utf8.decode s k).1 : Int) = r at hr hnx
      generalize (Utf8.decode s k).2 = d at hr hd hnx
      generalize hb : (s.data.toList[k]'hl).toNat = b at hr
      by_cases h32 : k = 32
      · have g : ((k : Int) == 32) = true := beq_iff_eq.2 (by omega)
        have h0 := lead_drop_no (fun k c => decide (k < 32) && nameZ c k) s.data.toList k hl (by simp; omega)
        have H0 := Lib.hid h0
        clear h0 h32 hr hb
        go_wp2
        go_ret
        exact ⟨ret_int (by rw [HL.out, H0.out]; omega), iter_below _ _ _⟩
      · have g : ((k : Int) == 32) = false := beq_eq_false_iff_ne.2 (by omega)
        by_cases hz : nameZ r k = true
        · have hlow : ¬ 128 ≤ r := fun h => by rw [name_high h] at hz; cases hz
          obtain ⟨rfl, rfl⟩ : r = (b : Int) ∧ d = 1 := hr.resolve_right fun h => hlow h.1
          have h0 := lead_drop_yes (fun k c => decide (k < 32) && nameZ c k) s.data.toList k hl
          rw [hb] at h0
          have H0 := Lib.hid (h0 (by simp [hz]; omega))
          clear h0 hb hr
          go_wp2_with (go_at_call 104; refine (isNameByte_calls _ _ _).mono ?_; rintro e w' ⟨rfl, rfl⟩)
          go_roundw
          case rel => exact ⟨k + 1, rfl, by omega, by omega, Lib.hid (by rw [HL.out, H0.out]; omega)⟩
          case measure => simp; omega
        · have hz' : nameZ r k = false := by simpa using hz
          have h0 := lead_drop_no (fun k c => decide (k < 32) && nameZ c k) s.data.toList k hl
          rw [hb] at h0
          have H0 := Lib.hid (h0 (by
            rcases hr with h | h
            · rw [← h.1]; simp [hz']
            · rw [name_high (by omega)]; simp))
          clear h0 hb hr hz
          go_wp2_with (go_at_call 104; refine (isNameByte_calls _ _ _).mono ?_; rintro e w' ⟨rfl, rfl⟩)
          go_ret
          exact ⟨ret_int (by rw [HL.out, H0.out]; omega), iter_below _ _ _⟩
    · have hnx : ∀ ty, (Instr.next (.pointer (some ⟨w.heap.size, 0, none⟩)) true ty).run Tryz.prog (w.iter s k) = _ := fun ty => run_next_end w s k ty hp
      go_wp2
      go_ret
      exact ⟨ret_int (by rw [HL.out, lead_drop_end _ _ _ (by simpa using (by omega : s.size ≤ k))]; omega), iter_below _ _ _⟩

set_option maxHeartbeats 400000 in
theorem iriLength_calls (s : ByteArray) (w : World) (_hs : s.size ≤ maxLen) :
    Calls Tryz.prog 128 #[.string s] w fun e w' => e = .returned (.int .i64 (iriLead s.data.toList)) ∧ Below w.heap.size w w' := by
  unfold maxLen at _hs
  go_enter Tryz.func128, Tryz.ntmps128
  go_wp2
  go_loopw [3] (fun _ w' => ∃ k : Nat, w' = w.iter s k ∧ k ≤ s.size ∧ k ≤ 4096 ∧ Hid (iriLead s.data.toList = k + lead (fun k c => decide (k < 4096) && iriZ c) k (s.data.toList.drop k))) (fun _ w' => s.size - w'.iterPos w.heap.size)
  case atStart => exact ⟨0, rfl, Nat.zero_le _, Nat.zero_le _, Lib.hid (by simp [iriLead])⟩
  case round =>
    obtain ⟨k, rfl, hk, hk2, HL⟩ := hrel
    by_cases hp : k < s.size
    · have hnx : ∀ ty, (Instr.next (.pointer (some ⟨w.heap.size, 0, none⟩)) true ty).run Tryz.prog (w.iter s k) = _ := fun ty => run_next_any w s k ty hp
      have hr := rune_of s k hp
      have hl : k < s.data.toList.length := by simpa using hp
      have hd : 1 ≤ (Utf8.decode s k).2 := width_pos s k hp
      generalize ((Utf8.decode s k).1 : Int) = r at hr hnx
      generalize (Utf8.decode s k).2 = d at hr hd hnx
      generalize hb : (s.data.toList[k]'hl).toNat = b at hr
      by_cases h32 : k = 4096
      · have g : ((k : Int) == 4096) = true := beq_iff_eq.2 (by omega)
        have h0 := lead_drop_no (fun k c => decide (k < 4096) && iriZ c) s.data.toList k hl (by simp; omega)
        have H0 := Lib.hid h0
        clear h0 h32 hr hb
        go_wp2
        go_ret
        exact ⟨ret_int (by rw [HL.out, H0.out]; omega), iter_below _ _ _⟩
      · have g : ((k : Int) == 4096) = false := beq_eq_false_iff_ne.2 (by omega)
        by_cases hz : iriZ r = true
        · have hlow : ¬ 128 ≤ r := fun h => by rw [iri_high h] at hz; cases hz
          obtain ⟨rfl, rfl⟩ : r = (b : Int) ∧ d = 1 := hr.resolve_right fun h => hlow h.1
          have h0 := lead_drop_yes (fun k c => decide (k < 4096) && iriZ c) s.data.toList k hl
          rw [hb] at h0
          have H0 := Lib.hid (h0 (by simp [hz]; omega))
          clear h0 hb hr
          go_wp2_with (go_at_call 145; refine (isIriByte_calls _ _).mono ?_; rintro e w' ⟨rfl, rfl⟩)
          go_roundw
          case rel => exact ⟨k + 1, rfl, by omega, by omega, Lib.hid (by rw [HL.out, H0.out]; omega)⟩
          case measure => simp; omega
        · have hz' : iriZ r = false := by simpa using hz
          have h0 := lead_drop_no (fun k c => decide (k < 4096) && iriZ c) s.data.toList k hl
          rw [hb] at h0
          have H0 := Lib.hid (h0 (by
            rcases hr with h | h
            · rw [← h.1]; simp [hz']
            · rw [iri_high (by omega)]; simp))
          clear h0 hb hr hz
          go_wp2_with (go_at_call 145; refine (isIriByte_calls _ _).mono ?_; rintro e w' ⟨rfl, rfl⟩)
          go_ret
          exact ⟨ret_int (by rw [HL.out, H0.out]; omega), iter_below _ _ _⟩
    · have hnx : ∀ ty, (Instr.next (.pointer (some ⟨w.heap.size, 0, none⟩)) true ty).run Tryz.prog (w.iter s k) = _ := fun ty => run_next_end w s k ty hp
      go_wp2
      go_ret
      exact ⟨ret_int (by rw [HL.out, lead_drop_end _ _ _ (by simpa using (by omega : s.size ≤ k))]; omega), iter_below _ _ _⟩

set_option maxHeartbeats 400000 in
theorem langLength_calls (s : ByteArray) (w : World) (_hs : s.size ≤ maxLen) :
    Calls Tryz.prog 146 #[.string s] w fun e w' => e = .returned (.int .i64 (langLead s.data.toList)) ∧ Below w.heap.size w w' := by
  unfold maxLen at _hs
  go_enter Tryz.func146, Tryz.ntmps146
  go_wp2
  go_loopw [3] (fun _ w' => ∃ k : Nat, w' = w.iter s k ∧ k ≤ s.size ∧ k ≤ 9 ∧ Hid (langLead s.data.toList = k + lead (fun k c => decide (k ≤ 8) && smallZ c) k (s.data.toList.drop k))) (fun _ w' => s.size - w'.iterPos w.heap.size)
  case atStart => exact ⟨0, rfl, Nat.zero_le _, Nat.zero_le _, Lib.hid (by simp [langLead])⟩
  case round =>
    obtain ⟨k, rfl, hk, hk2, HL⟩ := hrel
    by_cases hp : k < s.size
    · have hnx : ∀ ty, (Instr.next (.pointer (some ⟨w.heap.size, 0, none⟩)) true ty).run Tryz.prog (w.iter s k) = _ := fun ty => run_next_any w s k ty hp
      have hr := rune_of s k hp
      have hl : k < s.data.toList.length := by simpa using hp
      have hd : 1 ≤ (Utf8.decode s k).2 := width_pos s k hp
      generalize ((Utf8.decode s k).1 : Int) = r at hr hnx
      generalize (Utf8.decode s k).2 = d at hr hd hnx
      generalize hb : (s.data.toList[k]'hl).toNat = b at hr
      by_cases h32 : 8 < k
      · have g : (8 : Int) < (k : Int) := by omega
        have h0 := lead_drop_no (fun k c => decide (k ≤ 8) && smallZ c) s.data.toList k hl (by simp; omega)
        have H0 := Lib.hid h0
        clear h0 h32 hr hb
        go_wp2
        go_ret
        exact ⟨ret_int (by rw [HL.out, H0.out]; omega), iter_below _ _ _⟩
      · have g : ¬ (8 : Int) < (k : Int) := by omega
        by_cases hz : smallZ r = true
        · have hlow : ¬ 128 ≤ r := fun h => by rw [small_high h] at hz; cases hz
          obtain ⟨rfl, rfl⟩ : r = (b : Int) ∧ d = 1 := hr.resolve_right fun h => hlow h.1
          have h0 := lead_drop_yes (fun k c => decide (k ≤ 8) && smallZ c) s.data.toList k hl
          rw [hb] at h0
          have H0 := Lib.hid (h0 (by simp [hz]; omega))
          clear h0 hb hr
          go_wp2_with (go_at_call 117; refine (isSmall_calls _ _).mono ?_; rintro e w' ⟨rfl, rfl⟩)
          go_roundw
          case rel => exact ⟨k + 1, rfl, by omega, by omega, Lib.hid (by rw [HL.out, H0.out]; omega)⟩
          case measure => simp; omega
        · have hz' : smallZ r = false := by simpa using hz
          have h0 := lead_drop_no (fun k c => decide (k ≤ 8) && smallZ c) s.data.toList k hl
          rw [hb] at h0
          have H0 := Lib.hid (h0 (by
            rcases hr with h | h
            · rw [← h.1]; simp [hz']
            · rw [small_high (by omega)]; simp))
          clear h0 hb hr hz
          go_wp2_with (go_at_call 117; refine (isSmall_calls _ _).mono ?_; rintro e w' ⟨rfl, rfl⟩)
          go_ret
          exact ⟨ret_int (by rw [HL.out, H0.out]; omega), iter_below _ _ _⟩
    · have hnx : ∀ ty, (Instr.next (.pointer (some ⟨w.heap.size, 0, none⟩)) true ty).run Tryz.prog (w.iter s k) = _ := fun ty => run_next_end w s k ty hp
      go_wp2
      go_ret
      exact ⟨ret_int (by rw [HL.out, lead_drop_end _ _ _ (by simpa using (by omega : s.size ≤ k))]; omega), iter_below _ _ _⟩

end Go.Proofs.YtdnfaoanaehjhaaGreatDoor

/- Which texts are names, IRIs, languages, literals' texts, and which terms are right: what package term's tests come to, for every text and term. -/
namespace Go.Proofs.YtdnfaoanaehjhaaGreatDoor
open Go.RowKit

set_option maxHeartbeats 400000 in
theorem IsName_calls (s : ByteArray) (w : World) (_hs : s.size ≤ maxLen) :
    Calls Tryz.prog 63 #[.string s] w fun e w' => e = .returned (.bool (nameL s.data.toList)) ∧ Below w.heap.size w w' := by
  unfold maxLen at _hs
  by_cases hemp : s.toList = []
  · have he : nameL s.data.toList = false := by rw [← Lib.toList_data, hemp]; rfl
    have HE := Lib.hid he
    clear he
    go_enter Tryz.func63, Tryz.ntmps63
    go_wp2_with fail
    go_ret
    exact ⟨ret_bool HE.out.symm, Below.refl _ _⟩
  · have he : s.data.toList.isEmpty = false := by rw [← Lib.toList_data]; simpa using hemp
    have HE := Lib.hid he
    clear he
    go_enter Tryz.func63, Tryz.ntmps63
    go_wp2_with (go_at_call 92; refine (nameLength_calls _ _ _hs).mono ?_; rintro e w' ⟨rfl, hb⟩)
    all_goals go_ret
    all_goals exact ⟨ret_bool (by have hsz : s.size = s.data.size := rfl; have he := HE.out; rw [Bool.eq_iff_iff]; simp [nameL, Lib.toList_data] at he ⊢ <;> omega), hb⟩

set_option maxHeartbeats 400000 in
theorem isIri_calls (s : ByteArray) (w : World) (_hs : s.size ≤ maxLen) :
    Calls Tryz.prog 114 #[.string s] w fun e w' => e = .returned (.bool (iriL s.data.toList)) ∧ Below w.heap.size w w' := by
  unfold maxLen at _hs
  by_cases hemp : s.toList = []
  · have he : iriL s.data.toList = false := by rw [← Lib.toList_data, hemp]; rfl
    have HE := Lib.hid he
    clear he
    go_enter Tryz.func114, Tryz.ntmps114
    go_wp2_with fail
    go_ret
    exact ⟨ret_bool HE.out.symm, Below.refl _ _⟩
  · have he : s.data.toList.isEmpty = false := by rw [← Lib.toList_data]; simpa using hemp
    have HE := Lib.hid he
    clear he
    go_enter Tryz.func114, Tryz.ntmps114
    go_wp2_with (go_at_call 128; refine (iriLength_calls _ _ _hs).mono ?_; rintro e w' ⟨rfl, hb⟩)
    all_goals go_ret
    all_goals exact ⟨ret_bool (by have hsz : s.size = s.data.size := rfl; have he := HE.out; rw [Bool.eq_iff_iff]; simp [iriL, Lib.toList_data] at he ⊢ <;> omega), hb⟩

set_option maxHeartbeats 400000 in
theorem isLang_calls (s : ByteArray) (w : World) (_hs : s.size ≤ maxLen) :
    Calls Tryz.prog 130 #[.string s] w fun e w' => e = .returned (.bool (langL s.data.toList)) ∧ Below w.heap.size w w' := by
  unfold maxLen at _hs
  by_cases hemp : s.toList = []
  · have he : langL s.data.toList = false := by rw [← Lib.toList_data, hemp]; rfl
    have HE := Lib.hid he
    clear he
    go_enter Tryz.func130, Tryz.ntmps130
    go_wp2_with fail
    go_ret
    exact ⟨ret_bool HE.out.symm, Below.refl _ _⟩
  · have he : s.data.toList.isEmpty = false := by rw [← Lib.toList_data]; simpa using hemp
    have HE := Lib.hid he
    clear he
    go_enter Tryz.func130, Tryz.ntmps130
    go_wp2_with (go_at_call 146; refine (langLength_calls _ _ _hs).mono ?_; rintro e w' ⟨rfl, hb⟩)
    all_goals go_ret
    all_goals exact ⟨ret_bool (by have hsz : s.size = s.data.size := rfl; have he := HE.out; simp at he; rw [Bool.eq_iff_iff]; simp [langL, Lib.toList_data, he] <;> omega), hb⟩

theorem lit_step (l : List UInt8) (k : Nat) (h : k < l.length) :
    (l.drop k).all (fun b => litZ (b.toNat : Int)) = (litZ (l[k].toNat : Int) && (l.drop (k + 1)).all fun b => litZ (b.toNat : Int)) := by
  rw [List.drop_eq_getElem_cons h]; rfl

set_option maxHeartbeats 400000 in
theorem isLiteralText_calls (s : ByteArray) (w : World) (_hs : s.size ≤ maxLen) :
    Calls Tryz.prog 115 #[.string s] w fun e w' => e = .returned (.bool (litL s.data.toList)) ∧ Below w.heap.size w w' := by
  unfold maxLen at _hs
  by_cases hlong : 4096 < s.size
  · have HE := Lib.hid (show litL s.data.toList = false by
      have hsz : s.size = s.data.size := rfl
      simp [litL]; omega)
    go_enter Tryz.func115, Tryz.ntmps115
    go_wp2_with fail
    go_ret
    exact ⟨ret_bool HE.out.symm, Below.refl _ _⟩
  · have HE := Lib.hid (show litL s.data.toList = s.data.toList.all (fun b => litZ (b.toNat : Int)) by
      have hsz : s.size = s.data.size := rfl
      simp [litL]; omega)
    go_enter Tryz.func115, Tryz.ntmps115
    go_wp2_with fail
    go_loopw [4] (fun _ w' => ∃ k : Nat, w' = w.iter s k ∧ k ≤ s.size ∧ Hid (s.data.toList.all (fun b => litZ (b.toNat : Int)) = (s.data.toList.drop k).all (fun b => litZ (b.toNat : Int)))) (fun _ w' => s.size - w'.iterPos w.heap.size)
    case atStart => exact ⟨0, rfl, Nat.zero_le _, Lib.hid (by simp)⟩
    case round =>
      obtain ⟨k, rfl, hk, HL⟩ := hrel
      by_cases hp : k < s.size
      · have hnx : ∀ ty, (Instr.next (.pointer (some ⟨w.heap.size, 0, none⟩)) true ty).run Tryz.prog (w.iter s k) = _ := fun ty => run_next_any w s k ty hp
        have hr := rune_of s k hp
        have hl : k < s.data.toList.length := by simpa using hp
        have hd : 1 ≤ (Utf8.decode s k).2 := width_pos s k hp
        have h0 := lit_step s.data.toList k hl
        generalize ((Utf8.decode s k).1 : Int) = r at hr hnx
        generalize (Utf8.decode s k).2 = d at hr hd hnx
        generalize (s.data.toList[k]'hl).toNat = b at hr h0
        by_cases hz : litZ r = true
        · have hlow : ¬ 128 ≤ r := fun h => by rw [lit_high h] at hz; cases hz
          obtain ⟨rfl, rfl⟩ : r = (b : Int) ∧ d = 1 := hr.resolve_right fun h => hlow h.1
          have H0 := Lib.hid h0
          clear h0 hr
          go_wp2_with (go_at_call 129; refine (isLiteralByte_calls _ _).mono ?_; rintro e w' ⟨rfl, rfl⟩)
          go_roundw
          case rel => exact ⟨k + 1, rfl, by omega, Lib.hid (by rw [HL.out, H0.out, hz]; rfl)⟩
          case measure => simp; omega
        · have hz' : litZ r = false := by simpa using hz
          have hb' : litZ (b : Int) = false := by
            rcases hr with h | h
            · rw [← h.1]; exact hz'
            · exact lit_high (by omega)
          rw [hb'] at h0
          have H0 := Lib.hid h0
          clear h0 hr hz hb'
          go_wp2_with (go_at_call 129; refine (isLiteralByte_calls _ _).mono ?_; rintro e w' ⟨rfl, rfl⟩)
          go_ret
          exact ⟨ret_bool (by rw [HE.out, HL.out, H0.out]; rfl), iter_below _ _ _⟩
      · have hnx : ∀ ty, (Instr.next (.pointer (some ⟨w.heap.size, 0, none⟩)) true ty).run Tryz.prog (w.iter s k) = _ := fun ty => run_next_end w s k ty hp
        go_wp2
        go_ret
        exact ⟨ret_bool (by rw [HE.out, HL.out, List.drop_eq_nil_of_le (by simpa using (by omega : s.size ≤ k))]; rfl), iter_below _ _ _⟩

end Go.Proofs.YtdnfaoanaehjhaaGreatDoor

/- Which terms are right, and what Check answers of them: what package term's tests of a term come to, for every term. -/
namespace Go.Proofs.YtdnfaoanaehjhaaGreatDoor
open Go.RowKit

/- a term as a value -/
def termV (k : Int) (x y z : ByteArray) : Value := .agg #[.int .i64 k, .string x, .string y, .string z]

/- OK, or ErrForm -/
def formZ (b : Bool) : Int := if b then 0 else 2

theorem box_below (w : World) (o : Obj) : Below w.heap.size w (w.alloc o) := (Below.refl _ _).alloc (Nat.le_refl _) _

set_option maxHeartbeats 400000 in
theorem untagged_calls (k : Int) (x y z : ByteArray) (w : World) :
    Calls Tryz.prog 113 #[.agg #[.int .i64 k, .string x, .string y, .string z]] w fun e w' => e = .returned (.bool (bareL y.data.toList z.data.toList)) ∧ Below w.heap.size w w' := by
  have HY := Lib.hid (Lib.toList_data y)
  have HZ := Lib.hid (Lib.toList_data z)
  by_cases h1 : y.toList = [] <;> by_cases h2 : z.toList = []
  all_goals
    go_enter Tryz.func113, Tryz.ntmps113
    go_wp2
    go_ret
    exact ⟨ret_bool (by rw [← HY.out, ← HZ.out]; simp [bareL, h1, h2]), box_below _ _⟩

theorem bcell {W w1 : World} (hb : Below W.heap.size W w1) : (∀ b o, b < W.heap.size → w1.cell? ⟨b, o, none⟩ = W.cell? ⟨b, o, none⟩) ∧ (∀ b o, b < W.heap.size → w1.frozen? ⟨b, o, none⟩ = W.frozen? ⟨b, o, none⟩) :=
  ⟨fun b o h => hb.cell (p := ⟨b, o, none⟩) h, fun b o h => hb.frozen (p := ⟨b, o, none⟩) h⟩

set_option maxHeartbeats 400000 in
theorem rightTag_calls (k : Int) (x y z : ByteArray) (w : World) (_hy : y.size ≤ maxLen) (_hz : z.size ≤ maxLen) :
    Calls Tryz.prog 116 #[.agg #[.int .i64 k, .string x, .string y, .string z]] w fun e w' => e = .returned (.bool (tagL y.data.toList z.data.toList)) ∧ Below w.heap.size w w' := by
  have HY := Lib.hid (Lib.toList_data y)
  have HZ := Lib.hid (Lib.toList_data z)
  have E1 : y.toList.isEmpty = true ∨ y.toList.isEmpty = false := by cases y.toList.isEmpty <;> simp
  have E2 : z.toList.isEmpty = true ∨ z.toList.isEmpty = false := by cases z.toList.isEmpty <;> simp
  rcases E1 with h1 | h1 <;> rcases E2 with h2 | h2
  all_goals
    go_enter Tryz.func116, Tryz.ntmps116
    go_wp2_with (first | (go_at_call 114; refine (isIri_calls _ _ _hy).mono ?_; rintro e w' ⟨rfl, hb⟩) | (go_at_call 130; refine (isLang_calls _ _ _hz).mono ?_; rintro e w' ⟨rfl, hb⟩))
    all_goals go_ret
    all_goals exact ⟨ret_bool (by rw [← HY.out, ← HZ.out]; simp [tagL, h1, h2]), by first | exact box_below _ _ | exact (box_below _ _).trans (hb.mono (by simp))⟩


theorem bnext {W w1 w2 : World} (h1 : Below W.heap.size W w1) (h2 : Below w1.heap.size w1 w2) : Below W.heap.size W w2 := h1.trans (h2.mono h1.size)
theorem two_boxes {w w1 w2 : World} {o : Obj} (h1 : Below (w.alloc o).heap.size (w.alloc o) w1) (h2 : Below w1.heap.size w1 w2) : Below w.heap.size w w2 :=
  ((box_below w o).trans (h1.mono (by simp))).trans (h2.mono (by have := h1.size; simp at this; omega))
theorem one_box {w w1 : World} {o : Obj} (h1 : Below (w.alloc o).heap.size (w.alloc o) w1) : Below w.heap.size w w1 :=
  (box_below w o).trans (h1.mono (by simp))

set_option maxHeartbeats 1000000 in
theorem right_named (k : Int) (x y z : ByteArray) (w : World) (_hx : x.size ≤ maxLen) (hk : k = 1 ∨ k = 3 ∨ k = 4) :
    Calls Tryz.prog 103 #[.agg #[.int .i64 k, .string x, .string y, .string z]] w fun e w' => e = .returned (.bool (rightL k x.data.toList y.data.toList z.data.toList)) ∧ Below w.heap.size w w' := by
  have E1 : bareL y.data.toList z.data.toList = true ∨ bareL y.data.toList z.data.toList = false := by cases bareL y.data.toList z.data.toList <;> simp
  rcases hk with rfl | rfl | rfl <;> rcases E1 with h1 | h1
  all_goals
    go_enter Tryz.func103, Tryz.ntmps103
    go_wp2_with fail
    refine (untagged_calls _ _ _ _ _).mono ?_
    rintro e w1 ⟨rfl, hb1⟩
    obtain ⟨hc, hf⟩ := bcell hb1
    have hz : w.heap.size < w1.heap.size := by have := hb1.size; simp at this; omega
    go_wp2_with (first | (go_at_call 114; refine (isIri_calls _ _ _hx).mono ?_; rintro e w2 ⟨rfl, hb2⟩) | (go_at_call 63; refine (IsName_calls _ _ _hx).mono ?_; rintro e w2 ⟨rfl, hb2⟩))
    all_goals go_ret
    all_goals exact ⟨ret_bool (by simp [rightL, h1]), by first | exact one_box hb1 | exact two_boxes hb1 hb2⟩


set_option maxHeartbeats 1000000 in
theorem right_literal (x y z : ByteArray) (w : World) (_hx : x.size ≤ maxLen) (_hy : y.size ≤ maxLen) (_hz : z.size ≤ maxLen) :
    Calls Tryz.prog 103 #[.agg #[.int .i64 2, .string x, .string y, .string z]] w fun e w' => e = .returned (.bool (rightL 2 x.data.toList y.data.toList z.data.toList)) ∧ Below w.heap.size w w' := by
  have E1 : litL x.data.toList = true ∨ litL x.data.toList = false := by cases litL x.data.toList <;> simp
  rcases E1 with h1 | h1
  all_goals
    go_enter Tryz.func103, Tryz.ntmps103
    go_wp2_with fail
    refine (isLiteralText_calls _ _ _hx).mono ?_
    rintro e w1 ⟨rfl, hb1⟩
    obtain ⟨hc, hf⟩ := bcell hb1
    have hz : w.heap.size < w1.heap.size := by have := hb1.size; simp at this; omega
    go_wp2_with (go_at_call 116; refine (rightTag_calls _ _ _ _ _ _hy _hz).mono ?_; rintro e w2 ⟨rfl, hb2⟩)
    all_goals go_ret
    all_goals exact ⟨ret_bool (by simp [rightL, h1]), by first | exact one_box hb1 | exact two_boxes hb1 hb2⟩

set_option maxHeartbeats 1000000 in
theorem right_other (k : Int) (x y z : ByteArray) (w : World) (h1 : k ≠ 1) (h2 : k ≠ 2) (h3 : k ≠ 3) (h4 : k ≠ 4) :
    Calls Tryz.prog 103 #[.agg #[.int .i64 k, .string x, .string y, .string z]] w fun e w' => e = .returned (.bool (rightL k x.data.toList y.data.toList z.data.toList)) ∧ Below w.heap.size w w' := by
  have g1 : (k == 1) = false := beq_eq_false_iff_ne.2 h1
  have g2 : (k == 2) = false := beq_eq_false_iff_ne.2 h2
  have g3 : (k == 3) = false := beq_eq_false_iff_ne.2 h3
  have g4 : (k == 4) = false := beq_eq_false_iff_ne.2 h4
  have H1 := Lib.hid h1
  have H2 := Lib.hid h2
  have H3 := Lib.hid h3
  have H4 := Lib.hid h4
  clear h1 h2 h3 h4
  go_enter Tryz.func103, Tryz.ntmps103
  go_wp2
  all_goals go_ret
  all_goals exact ⟨ret_bool (by have e1 := H1.out; have e2 := H2.out; have e3 := H3.out; have e4 := H4.out; rw [← Lib.toList_data x, ← Lib.toList_data y, ← Lib.toList_data z]; simp [rightL, bareL, *]), box_below _ _⟩

theorem right_calls (k : Int) (x y z : ByteArray) (w : World) (hx : x.size ≤ maxLen) (hy : y.size ≤ maxLen) (hz : z.size ≤ maxLen) :
    Calls Tryz.prog 103 #[.agg #[.int .i64 k, .string x, .string y, .string z]] w fun e w' => e = .returned (.bool (rightL k x.data.toList y.data.toList z.data.toList)) ∧ Below w.heap.size w w' := by
  by_cases h1 : k = 1 ∨ k = 3 ∨ k = 4
  · exact right_named k x y z w hx h1
  · by_cases h2 : k = 2
    · subst h2; exact right_literal x y z w hx hy hz
    · exact right_other k x y z w (by omega) h2 (by omega) (by omega)

set_option maxHeartbeats 400000 in
theorem Check_calls (k : Int) (x y z : ByteArray) (w : World) (_hx : x.size ≤ maxLen) (_hy : y.size ≤ maxLen) (_hz : z.size ≤ maxLen) :
    Calls Tryz.prog 91 #[.agg #[.int .i64 k, .string x, .string y, .string z]] w fun e w' => e = .returned (.int .i64 (formZ (rightL k x.data.toList y.data.toList z.data.toList))) ∧ Below w.heap.size w w' := by
  have E1 : rightL k x.data.toList y.data.toList z.data.toList = true ∨ rightL k x.data.toList y.data.toList z.data.toList = false := by cases rightL k x.data.toList y.data.toList z.data.toList <;> simp
  rcases E1 with h1 | h1
  all_goals
    go_enter Tryz.func91, Tryz.ntmps91
    go_wp2_with (go_at_call 103; refine (right_calls _ _ _ _ _ _hx _hy _hz).mono ?_; rintro e w1 ⟨rfl, hb1⟩)
    go_ret
    exact ⟨by simp [h1, formZ], one_box hb1⟩

end Go.Proofs.YtdnfaoanaehjhaaGreatDoor

/- A block that is known whole; a row that stays. -/
namespace Go.Proofs.YtdnfaoanaehjhaaGreatDoor
open Go.RowKit

def Blk (W : World) (X : Nat) (T : TypeId) (a : Array Value) : Prop := W.heap[X]? = some (.cells a T (0, 0))
theorem blk_lt {W : World} {X : Nat} {T : TypeId} {a : Array Value} (h : Blk W X T a) : X < W.heap.size := (Array.getElem?_eq_some_iff.1 h).1
theorem blk_cell {W : World} {X : Nat} {T : TypeId} {a : Array Value} (h : Blk W X T a) (i : Nat) : W.cell? ⟨X, i, none⟩ = a[i]? := by unfold Blk at h; simp [World.cell?, h]
theorem blk_free {W : World} {X : Nat} {T : TypeId} {a : Array Value} (h : Blk W X T a) (i : Nat) : W.frozen? ⟨X, i, none⟩ = false := by unfold Blk at h; simp [World.frozen?, h]
theorem blk_on {W W' : World} {X B : Nat} {T : TypeId} {a : Array Value} (h : Blk W X T a) (hb : Below B W W') (hX : X < B) : Blk W' X T a := by unfold Blk at *; rw [hb.block X hX]; exact h
theorem blk_new (W : World) (T : TypeId) (a : Array Value) : Blk (W.alloc (.cells a T)) W.heap.size T a := heap_alloc_new W _
theorem blk_set {W : World} {X : Nat} {T : TypeId} {a : Array Value} (h : Blk W X T a) (i : Nat) (v : Value) : Blk (W.setCell ⟨X, i, none⟩ v) X T (a.setIfInBounds i v) := by
  have hlt := blk_lt h
  unfold Blk at *
  have h' : W.heap[X] = .cells a T (0, 0) := by simpa [Array.getElem?_eq_getElem hlt] using h
  show (W.heap.modify X _)[X]? = _
  rw [Array.getElem?_eq_getElem (by simpa using hlt), Array.getElem_modify_self, h']
  rfl
theorem below_set {B : Nat} {a W : World} (h : Below B a W) {X : Nat} (hX : B ≤ X) (i : Nat) (v : Value) : Below B a (W.setCell ⟨X, i, none⟩ v) := h.setCell hX v

theorem rowOn {w w' : World} {B size n : Nat} {e : TypeId} {v : Value} {xs : List Value} (h : w.ownsRow B e size v n xs) (hb : Below w.heap.size w w') : w'.ownsRow B e size v n xs := by
  refine ⟨h.1, ?_⟩
  rcases h.2 with h0 | ⟨g, cap, cur, hv, hg, hh, r⟩
  · exact .inl h0
  · exact .inr ⟨g, cap, cur, hv, hg, by rw [hb.block g (Array.getElem?_eq_some_iff.1 hh).1]; exact hh, r⟩

theorem blk_alloc {W : World} {X : Nat} {T : TypeId} {a : Array Value} (h : Blk W X T a) (o : Obj) : Blk (W.alloc o) X T a := blk_on h (box_below W o) (blk_lt h)

end Go.Proofs.YtdnfaoanaehjhaaGreatDoor
