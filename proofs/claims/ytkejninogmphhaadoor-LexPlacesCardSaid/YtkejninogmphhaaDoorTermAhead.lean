/- The pieces of a term that a text begins with: what package term's readers of brackets, types, languages and escapes come to, for every text. -/
import Derived.Test.YtkejninogmphhaaDoorTermCheck
import Derived.Test.YtkejninogmphhaaDoorTermPlains
namespace Go.Proofs.YtkejninogmphhaaDoor
open Go.RowKit

theorem ret_si {a b : ByteArray} {m n : Int} (h : a = b) (g : m = n) : Ending.returned (.tuple #[.string a, .int .i64 m]) = .returned (.tuple #[.string b, .int .i64 n]) := by rw [h, g]

theorem len_ok {s : ByteArray} (h : s.size ≤ 281474976710656) : s.size ≤ maxLen := by unfold maxLen; omega

set_option maxHeartbeats 400000 in
theorem Clone_calls (s : ByteArray) (w : World) (_hs : s.size ≤ 281474976710656) :
    Calls Tryd.prog 25 #[.string s] w fun e w' => e = .returned (.string s) ∧ Below w.heap.size w w' := by
  go_enter Tryd.func25, Tryd.ntmps25
  go_wp2_with (go_at_call 40; refine (Tryd.stringslite_Clone _ _ (by omega)).mono ?_; rintro e w' ⟨rfl, hb⟩)
  go_ret
  exact ⟨rfl, hb⟩

theorem drop_bs (s : ByteArray) (a : Nat) : s.extract a s.size = bs (s.data.toList.drop a) := bs_eq (by rw [Lib.extract_data, List.take_of_length_le]; rw [List.length_drop, ← Lib.size_eq]; exact Nat.le_refl _)
theorem piece_bs (s : ByteArray) (a b : Nat) : s.extract a b = bs ((s.data.toList.drop a).take (b - a)) := bs_eq (Lib.extract_data s a b)

theorem pre_le {s : ByteArray} {p : List UInt8} (h : Lib.hasPrefix s.data.toList p = true) : p.length ≤ s.size := by
  have := Lib.hasPrefix_le h; rw [Lib.size_eq]; exact this
theorem lead_le_size (p : Nat → Int → Bool) (s : ByteArray) (n : Nat) : lead p 0 (s.data.toList.drop n) ≤ s.size - n := by
  rw [Lib.size_eq]; exact lead_drop_le p _ n

set_option maxHeartbeats 400000 in
theorem bracketed_calls (s : ByteArray) (w : World) (hs : s.size ≤ 281474976710656) :
    Calls Tryd.prog 52 #[.string s] w fun e w' => e = .returned (.tuple #[.string (bs (bracketS s.data.toList).1), .int .i64 (bracketS s.data.toList).2]) ∧ Below w.heap.size w w' := by
  by_cases h1 : Lib.hasPrefix s.data.toList [60] = true
  · have hl : 1 ≤ s.size := pre_le h1
    have hn : iriLead (s.data.toList.drop 1) ≤ s.size - 1 := lead_le_size _ s 1
    have hS := Lib.hid (show bracketS s.data.toList = _ from by unfold bracketS; rw [if_pos h1])
    go_enter Tryd.func52, Tryd.ntmps52
    go_wp2_with (go_at_call 36; refine (Tryd.strings_HasPrefix _ _ _).mono ?_; rintro e w' ⟨rfl, rfl⟩)
    rw [drop_bs s 1]
    refine (iriLength_calls (bs _) _ (by rw [bs_size, List.length_drop, ← Lib.size_eq]; unfold maxLen; omega)).mono ?_
    rintro e w1 ⟨rfl, hb1⟩
    rw [bs_data]
    generalize hg : iriLead (List.drop 1 s.data.toList) = n at hn hS
    have HG := Lib.hid hg
    clear hg
    by_cases h0 : n = 0
    · have g0 : ((n : Int) == 0) = true := beq_iff_eq.2 (by omega)
      have hS' := Lib.hid (hS.out.trans (if_pos (Or.inl h0)))
      clear h0 hS
      go_wp2_with fail
      go_ret2
      exact ⟨by rw [hS'.out]; rfl, hb1⟩
    · have g0 : ((n : Int) == 0) = false := beq_eq_false_iff_ne.2 (by omega)
      by_cases h2 : Lib.hasPrefix (s.data.toList.drop (n + 1)) [62] = true
      · have hS' := Lib.hid (hS.out.trans (if_neg (by simp [h0, h2])))
        clear hS
        have H2 := Lib.hid h2
        clear h2
        go_wp2_with fail
        rw [drop_bs s (n + 1)]
        refine (Tryd.strings_HasPrefix _ _ _).mono ?_
        rintro e w2 ⟨rfl, rfl⟩
        have h2 := H2.out
        rw [bs_data]
        go_wp2_with (go_at_call 25; refine (Clone_calls _ _ ?_).mono ?_; rotate_left; rintro e w3 ⟨rfl, hb3⟩)
        · go_ret2
          refine ⟨?_, hb1.trans (hb3.mono (by have := hb1.size; omega))⟩
          rw [hS'.out, piece_bs]
          exact ret_si (by rw [Nat.add_sub_cancel]) (by simp)
        · rw [piece_bs, bs_size, List.length_take, List.length_drop, ← Lib.size_eq]; omega
      · have hS' := Lib.hid (hS.out.trans (if_pos (Or.inr (by simpa using h2))))
        clear hS
        have H2 := Lib.hid (show Lib.hasPrefix (s.data.toList.drop (n + 1)) [62] = false by simpa using h2)
        clear h2
        go_wp2_with fail
        rw [drop_bs s (n + 1)]
        refine (Tryd.strings_HasPrefix _ _ _).mono ?_
        rintro e w2 ⟨rfl, rfl⟩
        have h2 := H2.out
        rw [bs_data]
        go_wp2_with fail
        go_ret2
        exact ⟨by rw [hS'.out]; rfl, hb1⟩
  · have hS := Lib.hid (show bracketS s.data.toList = ([], 0) from by unfold bracketS; rw [if_neg h1])
    have h1' : Lib.hasPrefix s.data.toList [60] = false := by simpa using h1
    clear h1
    go_enter Tryd.func52, Tryd.ntmps52
    go_wp2_with (go_at_call 36; refine (Tryd.strings_HasPrefix _ _ _).mono ?_; rintro e w' ⟨rfl, rfl⟩)
    go_ret2
    exact ⟨by rw [hS.out]; rfl, Below.refl _ _⟩


theorem bracketS_size (s : ByteArray) (n : Nat) : (bracketS (s.data.toList.drop n)).2 ≤ s.size - n + 1 := by
  have := bracketS_le (s.data.toList.drop n); rw [List.length_drop, ← Lib.size_eq] at this; exact this

set_option maxHeartbeats 400000 in
theorem typeAhead_calls (s : ByteArray) (w : World) (hs : s.size ≤ 281474976710656) (h2 : 2 ≤ s.size) :
    Calls Tryd.prog 55 #[.string s] w fun e w' => e = .returned (.tuple #[.string (bs (typeS s.data.toList).1), .int .i64 (typeS s.data.toList).2]) ∧ Below w.heap.size w w' := by
  have hn := bracketS_size s 2
  have hS := Lib.hid (show typeS s.data.toList = _ from by unfold typeS; rfl)
  go_enter Tryd.func55, Tryd.ntmps55
  go_wp2_with fail
  rw [drop_bs s 2]
  refine (bracketed_calls (bs _) _ (by rw [bs_size, List.length_drop, ← Lib.size_eq]; omega)).mono ?_
  rintro e w1 ⟨rfl, hb1⟩
  rw [bs_data]
  generalize bracketS (List.drop 2 s.data.toList) = p at hn hS
  obtain ⟨x, n⟩ := p
  simp only at hn hS
  by_cases h0 : n = 0
  · have g0 : ((n : Int) == 0) = true := beq_iff_eq.2 (by omega)
    have hS' := Lib.hid (hS.out.trans (if_pos h0))
    clear h0 hS
    go_wp2
    go_ret2
    exact ⟨by rw [hS'.out]; rfl, hb1⟩
  · have g0 : ((n : Int) == 0) = false := beq_eq_false_iff_ne.2 (by omega)
    have hS' := Lib.hid (hS.out.trans (if_neg h0))
    clear hS
    go_wp2
    go_ret2
    exact ⟨by rw [hS'.out]; exact ret_si rfl (by simp), hb1⟩

set_option maxHeartbeats 400000 in
theorem langAhead_calls (s : ByteArray) (w : World) (hs : s.size ≤ 281474976710656) (h2 : 1 ≤ s.size) :
    Calls Tryd.prog 56 #[.string s] w fun e w' => e = .returned (.tuple #[.string (bs (langS s.data.toList).1), .int .i64 (langS s.data.toList).2]) ∧ Below w.heap.size w w' := by
  have hn : langLead (s.data.toList.drop 1) ≤ s.size - 1 := lead_le_size _ s 1
  have hS := Lib.hid (show langS s.data.toList = _ from by unfold langS; rfl)
  go_enter Tryd.func56, Tryd.ntmps56
  go_wp2_with fail
  rw [drop_bs s 1]
  refine (langLength_calls (bs _) _ (by rw [bs_size, List.length_drop, ← Lib.size_eq]; unfold maxLen; omega)).mono ?_
  rintro e w1 ⟨rfl, hb1⟩
  rw [bs_data]
  generalize langLead (List.drop 1 s.data.toList) = n at hn hS
  by_cases h0 : n = 0
  · have g0 : ((n : Int) == 0) = true := beq_iff_eq.2 (by omega)
    have hS' := Lib.hid (hS.out.trans (if_pos (Or.inl h0)))
    clear h0 hS
    go_wp2
    go_ret2
    exact ⟨by rw [hS'.out]; rfl, hb1⟩
  · have g0 : ((n : Int) == 0) = false := beq_eq_false_iff_ne.2 (by omega)
    by_cases h8 : 8 < n
    · have hS' := Lib.hid (hS.out.trans (if_pos (Or.inr h8)))
      clear hS
      go_wp2
      go_ret2
      exact ⟨by rw [hS'.out]; rfl, hb1⟩
    · have hS' := Lib.hid (hS.out.trans (if_neg (by omega)))
      clear hS
      go_wp2_with (go_at_call 25; refine (Clone_calls _ _ ?_).mono ?_; rotate_left; rintro e w3 ⟨rfl, hb3⟩)
      · go_ret2
        refine ⟨?_, hb1.trans (hb3.mono (by have := hb1.size; omega))⟩
        rw [hS'.out, piece_bs]
        exact ret_si (by rw [Nat.add_sub_cancel]) (by simp)
      · rw [piece_bs, bs_size, List.length_take, List.length_drop, ← Lib.size_eq]; omega

set_option maxHeartbeats 400000 in
theorem escaped_calls (r : Int) (w : World) :
    Calls Tryd.prog 67 #[.int .i32 r] w fun e w' => e = .returned (.tuple #[.int .u8 (escZ r).1, .bool (escZ r).2]) ∧ w' = w := by
  by_cases h1 : r = 110
  · subst h1
    go_enter Tryd.func67, Tryd.ntmps67
    go_wp2
    go_ret2
    exact ⟨rfl, rfl⟩
  by_cases h2 : r = 116
  · subst h2
    go_enter Tryd.func67, Tryd.ntmps67
    go_wp2
    go_ret2
    exact ⟨rfl, rfl⟩
  by_cases h3 : r = 34
  · subst h3
    go_enter Tryd.func67, Tryd.ntmps67
    go_wp2
    go_ret2
    exact ⟨rfl, rfl⟩
  by_cases h4 : r = 92
  · subst h4
    go_enter Tryd.func67, Tryd.ntmps67
    go_wp2
    go_ret2
    exact ⟨rfl, rfl⟩
  · have g1 : (r == 110) = false := beq_eq_false_iff_ne.2 h1
    have g2 : (r == 116) = false := beq_eq_false_iff_ne.2 h2
    have g3 : (r == 34) = false := beq_eq_false_iff_ne.2 h3
    have g4 : (r == 92) = false := beq_eq_false_iff_ne.2 h4
    have hS := Lib.hid (show escZ r = (0, false) by simp [escZ, h1, h2, h3, h4])
    clear h1 h2 h3 h4
    go_enter Tryd.func67, Tryd.ntmps67
    go_wp2
    go_ret2
    exact ⟨by rw [hS.out]; rfl, rfl⟩

end Go.Proofs.YtkejninogmphhaaDoor
