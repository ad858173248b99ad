/- The sign that a text begins with; a full stop and the digits behind it: package lex's signAhead and placesAhead, for every text. -/
import Derived.Test.YtkejninogmphhaaDoorLexOneOf
namespace Go.Proofs.YtkejninogmphhaaDoor
open Go.RowKit

theorem cutStop_calls (s : ByteArray) (w : World) :
    Calls Tryd.prog 57 #[.string s, .string ⟨#[46]⟩] w fun e w' => e = .returned (.tuple #[.string (bs (Lib.trimPrefix s.data.toList [46])), .bool (Lib.hasPrefix s.data.toList [46])]) ∧ w' = w := Tryd.strings_CutPrefix s ⟨#[46]⟩ w

set_option maxHeartbeats 2000000 in
theorem placesAhead_calls (s : ByteArray) (w : World) (hs : s.size ≤ maxLen) :
    Calls Tryd.prog 41 #[.string s] w fun e w' => e = .returned (.int .i64 (placesS s.data.toList)) ∧ Below w.heap.size w w' := by
  unfold maxLen at hs
  cases hst : Lib.hasPrefix s.data.toList [46] with
  | false =>
    have HT := Lib.hid (show Lib.trimPrefix s.data.toList [46] = s.data.toList by unfold Lib.trimPrefix; rw [hst]; rfl)
    have HST := Lib.hid hst
    have HS := Lib.hid (show placesS s.data.toList = 0 by unfold placesS; rw [hst]; simp)
    clear hst
    go_enter Tryd.func41, Tryd.ntmps41
    go_wp2_with fail
    refine (cutStop_calls _ _).mono ?_
    rintro e w0 ⟨rfl, hw⟩
    obtain rfl := hw.symm
    rw [HT.out, HST.out]
    go_wp2_with fail
    refine (leadingDigit_calls (bs s.data.toList) _ (by rw [bs_of]; unfold maxLen; omega)).mono ?_
    rintro e w1 ⟨rfl, hb1⟩
    go_wp2
    go_ret
    exact ⟨by rw [HS.out]; rfl, hb1⟩
  | true =>
    have h1 := Lib.hasPrefix_le hst
    rw [← Lib.size_eq] at h1
    have hl : (s.data.toList.drop 1).length = s.size - 1 := by rw [List.length_drop, ← Lib.size_eq]
    have hd := lead_le (fun _ c => digitZ c) 0 (s.data.toList.drop 1)
    rw [show lead (fun _ c => digitZ c) 0 (s.data.toList.drop 1) = digitLead (s.data.toList.drop 1) from rfl, hl] at hd
    have hS : placesS s.data.toList = if 0 < digitLead (s.data.toList.drop 1) then digitLead (s.data.toList.drop 1) + 1 else 0 := by unfold placesS; rw [hst]; simp
    have hT : Lib.trimPrefix s.data.toList [46] = s.data.toList.drop 1 := by unfold Lib.trimPrefix; rw [hst]; rfl
    obtain ⟨R, hR⟩ : ∃ R, s.data.toList.drop 1 = R := ⟨_, rfl⟩
    rw [hR] at hl hd hS hT
    have hRl : (bs R).size ≤ s.size := by rw [bs_size, hl]; omega
    have HT := Lib.hid hT
    have HST := Lib.hid hst
    obtain ⟨n, hn⟩ : ∃ n, digitLead R = n := ⟨_, rfl⟩
    rw [hn] at hS hd
    have HS := Lib.hid hS
    have HN := Lib.hid hn
    clear hst hn hl hS hT hR
    by_cases h0 : 0 < n
    · have HS2 := Lib.hid (HS.out.trans (if_pos h0))
      go_enter Tryd.func41, Tryd.ntmps41
      go_wp2_with fail
      refine (cutStop_calls _ _).mono ?_
      rintro e w0 ⟨rfl, hw⟩
      obtain rfl := hw.symm
      rw [HT.out, HST.out]
      go_wp2_with fail
      refine (leadingDigit_calls (bs R) _ (by unfold maxLen; omega)).mono ?_
      rintro e w1 ⟨rfl, hb1⟩
      rw [bs_data, HN.out]
      go_wp2
      go_ret
      exact ⟨ret_int (by rw [HS2.out]; omega), hb1⟩
    · have HS2 := Lib.hid (HS.out.trans (if_neg h0))
      go_enter Tryd.func41, Tryd.ntmps41
      go_wp2_with fail
      refine (cutStop_calls _ _).mono ?_
      rintro e w0 ⟨rfl, hw⟩
      obtain rfl := hw.symm
      rw [HT.out, HST.out]
      go_wp2_with fail
      refine (leadingDigit_calls (bs R) _ (by unfold maxLen; omega)).mono ?_
      rintro e w1 ⟨rfl, hb1⟩
      rw [bs_data, HN.out]
      go_wp2
      go_ret
      exact ⟨ret_int (by rw [HS2.out]; rfl), hb1⟩

theorem double_ascii : ∀ k (h : k < (ByteArray.mk #[60, 61, 62, 61, 33, 61, 38, 38, 124, 124]).size), ((ByteArray.mk #[60, 61, 62, 61, 33, 61, 38, 38, 124, 124])[k]'h).toNat < 128 := by decide
theorem single_ascii : ∀ k (h : k < (ByteArray.mk #[123, 125, 40, 41, 46, 44, 42, 43, 45, 47, 61, 60, 62, 33]).size), ((ByteArray.mk #[123, 125, 40, 41, 46, 44, 42, 43, 45, 47, 61, 60, 62, 33])[k]'h).toNat < 128 := by decide

set_option maxHeartbeats 400000 in
theorem signAhead_calls (s : ByteArray) (w : World) :
    Calls Tryd.prog 28 #[.string s] w fun e w' => e = .returned (.string (bs (signT s.data.toList))) ∧ Below w.heap.size w w' := by
  have h1 : Hid (∀ W, Calls Tryd.prog 42 #[.string ⟨#[60, 61, 62, 61, 33, 61, 38, 38, 124, 124]⟩, .int .i64 2, .string s] W fun e w' => e = .returned (.string (bs (twoT s.data.toList))) ∧ Below W.heap.size W w') := Lib.hid fun W => by
    have := oneOf2_calls ⟨#[60, 61, 62, 61, 33, 61, 38, 38, 124, 124]⟩ s W double_ascii (by decide) (by decide)
    rw [← pick_two]; exact this
  have h2 : Hid (∀ W, Calls Tryd.prog 42 #[.string ⟨#[123, 125, 40, 41, 46, 44, 42, 43, 45, 47, 61, 60, 62, 33]⟩, .int .i64 1, .string s] W fun e w' => e = .returned (.string (bs (oneT s.data.toList))) ∧ Below W.heap.size W w') := Lib.hid fun W => by
    have := oneOf1_calls ⟨#[123, 125, 40, 41, 46, 44, 42, 43, 45, 47, 61, 60, 62, 33]⟩ s W single_ascii (by decide)
    rw [← pick_one]; exact this
  have HS := Lib.hid (show signT s.data.toList = _ from rfl)
  obtain ⟨T, hT⟩ : ∃ T, twoT s.data.toList = T := ⟨_, rfl⟩
  obtain ⟨O, hO⟩ : ∃ O, oneT s.data.toList = O := ⟨_, rfl⟩
  rw [hT] at h1
  rw [hO] at h2
  have HS : Hid (signT s.data.toList = if T ≠ [] then T else O) := Lib.hid (by unfold signT; rw [hT, hO])
  clear hT hO
  by_cases hn : T = []
  · have HS2 := Lib.hid (HS.out.trans (if_neg (by rw [hn]; simp)))
    subst hn
    clear HS
    go_enter Tryd.func28, Tryd.ntmps28
    go_wp2_with fail
    refine (h1.out _).mono ?_
    rintro e w1 ⟨rfl, hb1⟩
    rw [bs_nil]
    go_wp2_with fail
    refine (h2.out _).mono ?_
    rintro e w2 ⟨rfl, hb2⟩
    go_wp2
    go_ret
    exact ⟨by rw [HS2.out]; rfl, hb1.trans (hb2.mono hb1.size)⟩
  · have HS2 := Lib.hid (HS.out.trans (if_pos hn))
    have g1 : (bs T).toList.isEmpty = false := by rw [bs_toList]; simpa using hn
    clear HS hn
    go_enter Tryd.func28, Tryd.ntmps28
    go_wp2_with fail
    refine (h1.out _).mono ?_
    rintro e w1 ⟨rfl, hb1⟩
    go_wp2
    go_ret
    exact ⟨by rw [HS2.out]; rfl, hb1⟩

end Go.Proofs.YtkejninogmphhaaDoor
