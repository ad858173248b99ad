/- Which sign of a row of signs a text begins with: package lex's oneOf, for every text. -/
import Derived.Test.YtkejninogmphhaaDoorLexLeaf
namespace Go.Proofs.YtkejninogmphhaaDoor
open Go.RowKit

theorem ascii_step (row : ByteArray) (k : Nat) (h : k < row.size) (ha : (row[k]'h).toNat < 128) : (Utf8.decode row k).2 = 1 := by rw [decode_ascii row k h ha]

set_option maxHeartbeats 1000000 in
theorem oneOf1_calls (row : ByteArray) (s : ByteArray) (w : World) (hrow : ∀ k (h : k < row.size), (row[k]'h).toNat < 128) (hrs : row.size ≤ 100) :
    Calls Tryd.prog 42 #[.string row, .int .i64 1, .string s] w fun e w' => e = .returned (.string (bs (pickS row.data.toList 1 s.data.toList row.size 0))) ∧ Below w.heap.size w w' := by
  have HROW := Lib.hid hrow
  clear hrow
  go_enter Tryd.func42, Tryd.ntmps42
  go_wp2
  go_loopw [7] (fun _ w' => ∃ k : Nat, w' = w.iter row k ∧ k ≤ row.size ∧ Hid (pickS row.data.toList 1 s.data.toList row.size 0 = pickS row.data.toList 1 s.data.toList (row.size - k) k)) (fun _ w' => row.size - w'.iterPos w.heap.size)
  case atStart => exact ⟨0, rfl, Nat.zero_le _, Lib.hid rfl⟩
  case round =>
    obtain ⟨k, rfl, hk, HL⟩ := hrel
    by_cases hp : k < row.size
    · have hnx : ∀ ty, (Instr.next (.pointer (some ⟨w.heap.size, 0, none⟩)) true ty).run Tryd.prog (w.iter row k) = _ := fun ty => run_next_any w row k ty hp
      rw [ascii_step row k hp (HROW.out k hp)] at hnx
      obtain ⟨f, hf⟩ : ∃ f, row.size - k = f + 1 := ⟨row.size - k - 1, by omega⟩
      have HF := Lib.hid hf
      rw [HF.out] at HL
      clear hf
      have hm : k % 1 = 0 := Nat.mod_one k
      have g1 : ((k : Int).tmod 1 == 0) = true := by simp
      have g2 : ((k : Int) % 1 == 0) = true := by simp
      obtain ⟨P, hP⟩ : ∃ P, (row.data.toList.drop k).take 1 = P := ⟨_, rfl⟩
      have hpb := piece_bs row k (k + 1)
      rw [Nat.add_sub_cancel_left, hP] at hpb
      have HPB := Lib.hid hpb
      have gk : (k : Int) + 1 ≤ (row.size : Int) := by omega
      cases hh : Lib.hasPrefix s.data.toList P with
      | true =>
        have HY := Lib.hid (pick_yes (f := f) (k := k) hm (by rw [hP]; exact hh))
        have HH := Lib.hid hh
        have HP := Lib.hid hP
        clear hh hP hpb hm
        go_wp2_with (go_at_call 36; rw [HPB.out]; refine (Tryd.strings_HasPrefix _ _ _).mono ?_; rintro e w' ⟨rfl, rfl⟩; rw [bs_data, HH.out])
        go_ret
        exact ⟨by rw [HL.out, HY.out, HP.out, HPB.out]; rfl, iter_below _ _ _⟩
      | false =>
        have HN := Lib.hid (pick_no (f := f) (k := k) (fun _ => by rw [hP]; exact hh))
        have HH := Lib.hid hh
        clear hh hP hpb hm
        go_wp2_with (go_at_call 36; rw [HPB.out]; refine (Tryd.strings_HasPrefix _ _ _).mono ?_; rintro e w' ⟨rfl, rfl⟩; rw [bs_data, HH.out])
        go_roundw
        case rel => exact ⟨k + 1, rfl, by omega, Lib.hid (by rw [HL.out, HN.out, show row.size - (k + 1) = f by have := HF.out; omega])⟩
        case measure => simp; omega
    · have hnx : ∀ ty, (Instr.next (.pointer (some ⟨w.heap.size, 0, none⟩)) true ty).run Tryd.prog (w.iter row k) = _ := fun ty => run_next_end w row k ty hp
      have HZ := Lib.hid (show row.size - k = 0 by omega)
      go_wp2
      go_ret
      exact ⟨by rw [HL.out, HZ.out]; rfl, iter_below _ _ _⟩

set_option maxHeartbeats 1000000 in
theorem oneOf2_calls (row : ByteArray) (s : ByteArray) (w : World) (hrow : ∀ k (h : k < row.size), (row[k]'h).toNat < 128) (hdiv : row.size % 2 = 0) (hrs : row.size ≤ 100) :
    Calls Tryd.prog 42 #[.string row, .int .i64 2, .string s] w fun e w' => e = .returned (.string (bs (pickS row.data.toList 2 s.data.toList row.size 0))) ∧ Below w.heap.size w w' := by
  have HROW := Lib.hid hrow
  clear hrow
  go_enter Tryd.func42, Tryd.ntmps42
  go_wp2
  go_loopw [7] (fun _ w' => ∃ k : Nat, w' = w.iter row k ∧ k ≤ row.size ∧ Hid (pickS row.data.toList 2 s.data.toList row.size 0 = pickS row.data.toList 2 s.data.toList (row.size - k) k)) (fun _ w' => row.size - w'.iterPos w.heap.size)
  case atStart => exact ⟨0, rfl, Nat.zero_le _, Lib.hid rfl⟩
  case round =>
    obtain ⟨k, rfl, hk, HL⟩ := hrel
    by_cases hp : k < row.size
    · have hnx : ∀ ty, (Instr.next (.pointer (some ⟨w.heap.size, 0, none⟩)) true ty).run Tryd.prog (w.iter row k) = _ := fun ty => run_next_any w row k ty hp
      rw [ascii_step row k hp (HROW.out k hp)] at hnx
      obtain ⟨f, hf⟩ : ∃ f, row.size - k = f + 1 := ⟨row.size - k - 1, by omega⟩
      have HF := Lib.hid hf
      rw [HF.out] at HL
      clear hf
      by_cases hm : k % 2 = 0
      · have g1 : ((k : Int).tmod 2 == 0) = true := by rw [Int.tmod_eq_emod_of_nonneg (by omega)]; exact beq_iff_eq.2 (by omega)
        have g2 : ((k : Int) % 2 == 0) = true := beq_iff_eq.2 (by omega)
        obtain ⟨P, hP⟩ : ∃ P, (row.data.toList.drop k).take 2 = P := ⟨_, rfl⟩
        have hpb := piece_bs row k (k + 2)
        rw [Nat.add_sub_cancel_left, hP] at hpb
        have HPB := Lib.hid hpb
        have gk : (k : Int) + 2 ≤ (row.size : Int) := by omega
        cases hh : Lib.hasPrefix s.data.toList P with
        | true =>
          have HY := Lib.hid (pick_yes (f := f) (k := k) hm (by rw [hP]; exact hh))
          have HH := Lib.hid hh
          have HP := Lib.hid hP
          clear hh hP hpb hm
          go_wp2_with (go_at_call 36; rw [HPB.out]; refine (Tryd.strings_HasPrefix _ _ _).mono ?_; rintro e w' ⟨rfl, rfl⟩; rw [bs_data, HH.out])
          go_ret
          exact ⟨by rw [HL.out, HY.out, HP.out, HPB.out]; rfl, iter_below _ _ _⟩
        | false =>
          have HN := Lib.hid (pick_no (f := f) (k := k) (fun _ => by rw [hP]; exact hh))
          have HH := Lib.hid hh
          clear hh hP hpb hm
          go_wp2_with (go_at_call 36; rw [HPB.out]; refine (Tryd.strings_HasPrefix _ _ _).mono ?_; rintro e w' ⟨rfl, rfl⟩; rw [bs_data, HH.out])
          go_roundw
          case rel => exact ⟨k + 1, rfl, by omega, Lib.hid (by rw [HL.out, HN.out, show row.size - (k + 1) = f by have := HF.out; omega])⟩
          case measure => simp; omega
      · have g1 : ((k : Int).tmod 2 == 0) = false := by rw [Int.tmod_eq_emod_of_nonneg (by omega)]; exact beq_eq_false_iff_ne.2 (by omega)
        have g2 : ((k : Int) % 2 == 0) = false := beq_eq_false_iff_ne.2 (by omega)
        have HN := Lib.hid (pick_no (row := row.data.toList) (n := 2) (l := s.data.toList) (f := f) (k := k) (fun h => absurd h hm))
        clear hm
        go_wp2_with fail
        go_roundw
        case rel => exact ⟨k + 1, rfl, by omega, Lib.hid (by rw [HL.out, HN.out, show row.size - (k + 1) = f by have := HF.out; omega])⟩
        case measure => simp; omega
    · have hnx : ∀ ty, (Instr.next (.pointer (some ⟨w.heap.size, 0, none⟩)) true ty).run Tryd.prog (w.iter row k) = _ := fun ty => run_next_end w row k ty hp
      have HZ := Lib.hid (show row.size - k = 0 by omega)
      go_wp2
      go_ret
      exact ⟨by rw [HL.out, HZ.out]; rfl, iter_below _ _ _⟩

end Go.Proofs.YtkejninogmphhaaDoor
