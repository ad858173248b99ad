/- Which of two terms is ahead, by the document's own answer: the same as package term's Compare, for every two terms. -/
import Derived.Test.YthdhoaihmlodjaaTermCompare
import Derived.Test.YthdhoaihmlodjaaRefLeaf
import Derived.RegionTactic
import Derived.ChangeAlike
namespace Go.Proofs.Ythdhoaihmlodjaa
open Go.RowKit
open Go.Lib (compareBytes)

theorem cb_drop_lt (a b : List UInt8) (k : Nat) (ha : k < a.length) (hb : k < b.length) (h : (a[k].toNat : Int) < b[k].toNat) : compareBytes (a.drop k) (b.drop k) = -1 := by
  rw [List.drop_eq_getElem_cons ha, List.drop_eq_getElem_cons hb, compareBytes, if_pos (UInt8.lt_iff_toNat_lt.2 (by omega))]
theorem cb_drop_gt (a b : List UInt8) (k : Nat) (ha : k < a.length) (hb : k < b.length) (h : (b[k].toNat : Int) < a[k].toNat) : compareBytes (a.drop k) (b.drop k) = 1 := by
  rw [List.drop_eq_getElem_cons ha, List.drop_eq_getElem_cons hb, compareBytes, if_neg (by rw [UInt8.lt_iff_toNat_lt]; omega), if_pos (UInt8.lt_iff_toNat_lt.2 (by omega))]
theorem cb_drop_eq (a b : List UInt8) (k : Nat) (ha : k < a.length) (hb : k < b.length) (h : (a[k].toNat : Int) = b[k].toNat) : compareBytes (a.drop k) (b.drop k) = compareBytes (a.drop (k + 1)) (b.drop (k + 1)) := by
  rw [List.drop_eq_getElem_cons ha, List.drop_eq_getElem_cons hb, compareBytes, if_neg (by rw [UInt8.lt_iff_toNat_lt]; omega), if_neg (by rw [UInt8.lt_iff_toNat_lt]; omega)]
theorem cb_drop_end (a b : List UInt8) (k : Nat) (ha : k ≤ a.length) (hb : k ≤ b.length) (h : k = a.length ∨ k = b.length) : compareBytes (a.drop k) (b.drop k) = if a.length < b.length then -1 else if b.length < a.length then 1 else 0 := by
  by_cases h1 : k = a.length
  · by_cases h2 : k = b.length
    · rw [List.drop_eq_nil_of_le (by omega), List.drop_eq_nil_of_le (by omega), if_neg (by omega), if_neg (by omega)]; rfl
    · rw [List.drop_eq_nil_of_le (by omega), List.drop_eq_getElem_cons (show k < b.length by omega), if_pos (by omega)]; rfl
  · rw [List.drop_eq_getElem_cons (show k < a.length by omega), show List.drop k b = [] from List.drop_eq_nil_of_le (by omega), if_neg (by omega), if_pos (by omega)]; rfl

set_option maxHeartbeats 1000000 in
theorem before_calls (a b : ByteArray) (w : World) (_ha : a.size ≤ maxLen) (_hb : b.size ≤ maxLen) :
    Calls Try.prog 45 #[.string a, .string b] w fun e w' => e = .returned (.int .i64 (compareBytes a.data.toList b.data.toList)) ∧ Below w.heap.size w w' := by
  unfold maxLen at _ha _hb
  go_enter Try.func45, Try.ntmps45
  go_wp2
  go_loopw [5] (fun i wr => ∃ k : Nat, k ≤ a.size ∧ k ≤ b.size ∧ i = .int .i64 k ∧ Below w.heap.size w wr ∧ Hid (compareBytes a.data.toList b.data.toList = compareBytes (a.data.toList.drop k) (b.data.toList.drop k))) (fun i _ => a.size - (intOf i).toNat)
  case atStart => exact ⟨0, Nat.zero_le _, Nat.zero_le _, rfl, Below.refl _ _, Lib.hid rfl⟩
  case round =>
    obtain ⟨k, hka, hkb, rfl, hbw, HC⟩ := hrel
    by_cases h1 : k < a.size ∧ k < b.size
    · obtain ⟨ha, hb⟩ := h1
      have hla : k < a.data.toList.length := by simpa using ha
      have hlb : k < b.data.toList.length := by simpa using hb
      have c1 := cb_drop_lt a.data.toList b.data.toList k hla hlb
      have c2 := cb_drop_gt a.data.toList b.data.toList k hla hlb
      have c3 := cb_drop_eq a.data.toList b.data.toList k hla hlb
      rw [get_list a k ha, get_list b k hb] at c1 c2 c3
      rcases Int.lt_trichotomy ((a[k]'ha).toNat : Int) ((b[k]'hb).toNat : Int) with h | h | h
      · have H := Lib.hid (c1 h)
        clear c1 c2 c3 hla hlb
        go_wp2
        go_region
        go_wp2
        go_ret
        exact ⟨ret_int (by rw [HC.out, H.out]), hbw.drew⟩
      · have H := Lib.hid (c3 h)
        have g1 : ¬ ((a[k]'ha).toNat : Int) < ((b[k]'hb).toNat : Int) := by omega
        have g2 : ¬ ((b[k]'hb).toNat : Int) < ((a[k]'ha).toNat : Int) := by omega
        clear c1 c2 c3 hla hlb h
        go_wp2
        go_region
        go_wp2
        go_region
        go_wp2
        go_roundw
        case rel => exact ⟨k + 1, by omega, by omega, by go_num, hbw.drew.drew, Lib.hid (by rw [HC.out, H.out])⟩
        case measure => simp [intOf]; omega
      · have H := Lib.hid (c2 h)
        clear c1 c2 c3 hla hlb
        go_wp2
        go_region
        go_wp2
        go_region
        go_wp2
        go_ret
        exact ⟨ret_int (by rw [HC.out, H.out]), hbw.drew.drew⟩
    · have HE := Lib.hid (cb_drop_end a.data.toList b.data.toList k (by simpa using hka) (by simpa using hkb) (by have e1 := Lib.size_eq a; have e2 := Lib.size_eq b; omega))
      have HS1 := Lib.hid (Lib.size_eq a)
      have HS2 := Lib.hid (Lib.size_eq b)
      obtain h | h | h : (k < a.size ∧ ¬ k < b.size) ∨ (¬ k < a.size ∧ k < b.size) ∨ (¬ k < a.size ∧ ¬ k < b.size) := by omega
      all_goals
        obtain ⟨g1, g2⟩ := h
        clear h1
        go_wp2
        all_goals go_ret
        all_goals exact ⟨ret_int (by rw [HC.out, HE.out, ← HS1.out, ← HS2.out]; first | rw [if_pos (by omega)] | rw [if_neg (by omega), if_pos (by omega)] | rw [if_neg (by omega), if_neg (by omega)]), hbw⟩

set_option maxHeartbeats 1000000 in
theorem rCompare_calls (k : Int) (x y z : ByteArray) (k' : Int) (x' y' z' : ByteArray) (w : World) (_hx : x.size ≤ maxLen) (_hy : y.size ≤ maxLen) (_hz : z.size ≤ maxLen) (_hx' : x'.size ≤ maxLen) (_hy' : y'.size ≤ maxLen) (_hz' : z'.size ≤ maxLen) :
    Calls Try.prog 30 #[.agg #[.int .i64 k, .string x, .string y, .string z], .agg #[.int .i64 k', .string x', .string y', .string z']] w fun e w' => e = .returned (.int .i64 (termCmp k x.data.toList y.data.toList z.data.toList k' x'.data.toList y'.data.toList z'.data.toList)) ∧ Below w.heap.size w w' := by
  obtain ⟨X, hX⟩ : ∃ X, compareBytes x.data.toList x'.data.toList = X := ⟨_, rfl⟩
  obtain ⟨Y, hY⟩ : ∃ Y, compareBytes y.data.toList y'.data.toList = Y := ⟨_, rfl⟩
  have HT := Lib.hid (show termCmp k x.data.toList y.data.toList z.data.toList k' x'.data.toList y'.data.toList z'.data.toList = _ from by unfold termCmp; rw [hX, hY])
  have HX := Lib.hid hX
  have HY := Lib.hid hY
  clear hX hY
  by_cases h1 : k < k'
  · have HT' := Lib.hid (HT.out.trans (if_pos h1))
    go_enter Try.func30, Try.ntmps30
    go_wp2_with fail
    go_ret
    exact ⟨ret_int HT'.out.symm, two_alloc _ _ _⟩
  by_cases h2 : k' < k
  · have HT' := Lib.hid ((HT.out.trans (if_neg h1)).trans (if_pos h2))
    go_enter Try.func30, Try.ntmps30
    go_wp2_with fail
    go_ret
    exact ⟨ret_int HT'.out.symm, two_alloc _ _ _⟩
  replace HT := Lib.hid ((HT.out.trans (if_neg h1)).trans (if_neg h2))
  go_enter Try.func30, Try.ntmps30
  go_wp2_with fail
  refine (before_calls _ _ _ _hx _hx').mono ?_
  rintro e w1 ⟨rfl, hb1⟩
  rw [HX.out]
  obtain ⟨hc, hf⟩ := bcell hb1
  by_cases hX0 : X ≠ 0
  · replace HT := Lib.hid (HT.out.trans (if_pos hX0))
    have g : (X != 0) = true := by simpa using hX0
    clear hX0
    go_wp2_with fail
    refine (before_calls _ _ _ _hx _hx').mono ?_
    rintro e w2 ⟨rfl, hb2⟩
    rw [HX.out]
    go_wp2
    go_ret
    exact ⟨ret_int HT.out.symm, (two_alloc _ _ _).trans ((bnext hb1 hb2).mono (by simp; omega))⟩
  · replace HT := Lib.hid (HT.out.trans (if_neg hX0))
    have g : (X != 0) = false := by simpa using hX0
    clear hX0
    go_wp2_with fail
    refine (before_calls _ _ _ _hy _hy').mono ?_
    rintro e w2 ⟨rfl, hb2'⟩
    rw [HY.out]
    have hb2 := bnext hb1 hb2'
    clear hc hf
    obtain ⟨hc, hf⟩ := bcell hb2
    by_cases hY0 : Y ≠ 0
    · replace HT := Lib.hid (HT.out.trans (if_pos hY0))
      have g : (Y != 0) = true := by simpa using hY0
      clear hY0
      go_wp2_with fail
      refine (before_calls _ _ _ _hy _hy').mono ?_
      rintro e w3 ⟨rfl, hb3⟩
      rw [HY.out]
      go_wp2
      go_ret
      exact ⟨ret_int HT.out.symm, (two_alloc _ _ _).trans ((bnext hb2 hb3).mono (by simp; omega))⟩
    · replace HT := Lib.hid (HT.out.trans (if_neg hY0))
      have g : (Y != 0) = false := by simpa using hY0
      clear hY0
      go_wp2_with fail
      refine (before_calls _ _ _ _hz _hz').mono ?_
      rintro e w3 ⟨rfl, hb3⟩
      go_wp2
      go_ret
      exact ⟨ret_int HT.out.symm, (two_alloc _ _ _).trans ((bnext hb2 hb3).mono (by simp; omega))⟩

end Go.Proofs.Ythdhoaihmlodjaa
