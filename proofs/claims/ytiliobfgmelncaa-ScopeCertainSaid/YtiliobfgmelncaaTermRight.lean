/- Which texts are names, IRIs, languages, literals' texts, and which terms are right: what package term's tests come to, for every text and term. -/
import Derived.Test.YtiliobfgmelncaaTermLead
namespace Go.Proofs.Ytiliobfgmelncaa
open Go.RowKit

set_option maxHeartbeats 400000 in
theorem IsName_calls (s : ByteArray) (w : World) (_hs : s.size ≤ maxLen) :
    Calls Try.prog 24 #[.string s] w fun e w' => e = .returned (.bool (nameL s.data.toList)) ∧ Below w.heap.size w w' := by
  unfold maxLen at _hs
  by_cases hemp : s.toList = []
  · have he : nameL s.data.toList = false := by rw [← Lib.toList_data, hemp]; rfl
    have HE := Lib.hid he
    clear he
    go_enter Try.func24, Try.ntmps24
    go_wp2_with fail
    go_ret
    exact ⟨ret_bool HE.out.symm, Below.refl _ _⟩
  · have he : s.data.toList.isEmpty = false := by rw [← Lib.toList_data]; simpa using hemp
    have HE := Lib.hid he
    clear he
    go_enter Try.func24, Try.ntmps24
    go_wp2_with (go_at_call 47; refine (nameLength_calls _ _ _hs).mono ?_; rintro e w' ⟨rfl, hb⟩)
    all_goals go_ret
    all_goals exact ⟨ret_bool (by have hsz : s.size = s.data.size := rfl; have he := HE.out; rw [Bool.eq_iff_iff]; simp [nameL, Lib.toList_data] at he ⊢ <;> omega), hb⟩

set_option maxHeartbeats 400000 in
theorem isIri_calls (s : ByteArray) (w : World) (_hs : s.size ≤ maxLen) :
    Calls Try.prog 70 #[.string s] w fun e w' => e = .returned (.bool (iriL s.data.toList)) ∧ Below w.heap.size w w' := by
  unfold maxLen at _hs
  by_cases hemp : s.toList = []
  · have he : iriL s.data.toList = false := by rw [← Lib.toList_data, hemp]; rfl
    have HE := Lib.hid he
    clear he
    go_enter Try.func70, Try.ntmps70
    go_wp2_with fail
    go_ret
    exact ⟨ret_bool HE.out.symm, Below.refl _ _⟩
  · have he : s.data.toList.isEmpty = false := by rw [← Lib.toList_data]; simpa using hemp
    have HE := Lib.hid he
    clear he
    go_enter Try.func70, Try.ntmps70
    go_wp2_with (go_at_call 83; refine (iriLength_calls _ _ _hs).mono ?_; rintro e w' ⟨rfl, hb⟩)
    all_goals go_ret
    all_goals exact ⟨ret_bool (by have hsz : s.size = s.data.size := rfl; have he := HE.out; rw [Bool.eq_iff_iff]; simp [iriL, Lib.toList_data] at he ⊢ <;> omega), hb⟩

set_option maxHeartbeats 400000 in
theorem isLang_calls (s : ByteArray) (w : World) (_hs : s.size ≤ maxLen) :
    Calls Try.prog 85 #[.string s] w fun e w' => e = .returned (.bool (langL s.data.toList)) ∧ Below w.heap.size w w' := by
  unfold maxLen at _hs
  by_cases hemp : s.toList = []
  · have he : langL s.data.toList = false := by rw [← Lib.toList_data, hemp]; rfl
    have HE := Lib.hid he
    clear he
    go_enter Try.func85, Try.ntmps85
    go_wp2_with fail
    go_ret
    exact ⟨ret_bool HE.out.symm, Below.refl _ _⟩
  · have he : s.data.toList.isEmpty = false := by rw [← Lib.toList_data]; simpa using hemp
    have HE := Lib.hid he
    clear he
    go_enter Try.func85, Try.ntmps85
    go_wp2_with (go_at_call 88; refine (langLength_calls _ _ _hs).mono ?_; rintro e w' ⟨rfl, hb⟩)
    all_goals go_ret
    all_goals exact ⟨ret_bool (by have hsz : s.size = s.data.size := rfl; have he := HE.out; simp at he; rw [Bool.eq_iff_iff]; simp [langL, Lib.toList_data, he] <;> omega), hb⟩

theorem lit_step (l : List UInt8) (k : Nat) (h : k < l.length) :
    (l.drop k).all (fun b => litZ (b.toNat : Int)) = (litZ (l[k].toNat : Int) && (l.drop (k + 1)).all fun b => litZ (b.toNat : Int)) := by
  rw [List.drop_eq_getElem_cons h]; rfl

set_option maxHeartbeats 400000 in
theorem isLiteralText_calls (s : ByteArray) (w : World) (_hs : s.size ≤ maxLen) :
    Calls Try.prog 71 #[.string s] w fun e w' => e = .returned (.bool (litL s.data.toList)) ∧ Below w.heap.size w w' := by
  unfold maxLen at _hs
  by_cases hlong : 4096 < s.size
  · have HE := Lib.hid (show litL s.data.toList = false by
      have hsz : s.size = s.data.size := rfl
      simp [litL]; omega)
    go_enter Try.func71, Try.ntmps71
    go_wp2_with fail
    go_ret
    exact ⟨ret_bool HE.out.symm, Below.refl _ _⟩
  · have HE := Lib.hid (show litL s.data.toList = s.data.toList.all (fun b => litZ (b.toNat : Int)) by
      have hsz : s.size = s.data.size := rfl
      simp [litL]; omega)
    go_enter Try.func71, Try.ntmps71
    go_wp2_with fail
    go_loopw [4] (fun _ w' => ∃ k : Nat, w' = w.iter s k ∧ k ≤ s.size ∧ Hid (s.data.toList.all (fun b => litZ (b.toNat : Int)) = (s.data.toList.drop k).all (fun b => litZ (b.toNat : Int)))) (fun _ w' => s.size - w'.iterPos w.heap.size)
    case atStart => exact ⟨0, rfl, Nat.zero_le _, Lib.hid (by simp)⟩
    case round =>
      obtain ⟨k, rfl, hk, HL⟩ := hrel
      by_cases hp : k < s.size
      · have hnx : ∀ ty, (Instr.next (.pointer (some ⟨w.heap.size, 0, none⟩)) true ty).run Try.prog (w.iter s k) = _ := fun ty => run_next_any w s k ty hp
        have hr := rune_of s k hp
        have hl : k < s.data.toList.length := by simpa using hp
        have hd : 1 ≤ (Utf8.decode s k).2 := width_pos s k hp
        have h0 := lit_step s.data.toList k hl
        generalize ((Utf8.decode s k).1 : Int) = r at hr hnx
        generalize (Utf8.decode s k).2 = d at hr hd hnx
        generalize (s.data.toList[k]'hl).toNat = b at hr h0
        by_cases hz : litZ r = true
        · have hlow : ¬ 128 ≤ r := fun h => by rw [lit_high h] at hz; cases hz
          obtain ⟨rfl, rfl⟩ : r = (b : Int) ∧ d = 1 := hr.resolve_right fun h => hlow h.1
          have H0 := Lib.hid h0
          clear h0 hr
          go_wp2_with (go_at_call 84; refine (isLiteralByte_calls _ _).mono ?_; rintro e w' ⟨rfl, rfl⟩)
          go_roundw
          case rel => exact ⟨k + 1, rfl, by omega, Lib.hid (by rw [HL.out, H0.out, hz]; rfl)⟩
          case measure => simp; omega
        · have hz' : litZ r = false := by simpa using hz
          have hb' : litZ (b : Int) = false := by
            rcases hr with h | h
            · rw [← h.1]; exact hz'
            · exact lit_high (by omega)
          rw [hb'] at h0
          have H0 := Lib.hid h0
          clear h0 hr hz hb'
          go_wp2_with (go_at_call 84; refine (isLiteralByte_calls _ _).mono ?_; rintro e w' ⟨rfl, rfl⟩)
          go_ret
          exact ⟨ret_bool (by rw [HE.out, HL.out, H0.out]; rfl), iter_below _ _ _⟩
      · have hnx : ∀ ty, (Instr.next (.pointer (some ⟨w.heap.size, 0, none⟩)) true ty).run Try.prog (w.iter s k) = _ := fun ty => run_next_end w s k ty hp
        go_wp2
        go_ret
        exact ⟨ret_bool (by rw [HE.out, HL.out, List.drop_eq_nil_of_le (by simpa using (by omega : s.size ≤ k))]; rfl), iter_below _ _ _⟩

end Go.Proofs.Ytiliobfgmelncaa
