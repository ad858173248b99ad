/- The word that a text begins with: package lex's word, for every text. -/
import Derived.Test.YtkejninogmphhaaDoorLexBlk
namespace Go.Proofs.YtkejninogmphhaaDoor
open Go.RowKit

set_option maxHeartbeats 400000 in
theorem ofTerm_calls (k : Int) (x y z : List UInt8) (w : World) :
    Calls Tryd.prog 22 #[.agg #[.int .i64 k, .string (bs x), .string (bs y), .string (bs z)]] w fun e w' => e = .returned (termTok ⟨k, x, y, z⟩).v ∧ Below w.heap.size w w' := by
  by_cases h4 : k = 4
  · subst h4
    go_enter Tryd.func22, Tryd.ntmps22
    go_wp2
    refine bodyPost_ret (v := .agg #[.int .i64 2, .string (bs x), .int .i64 0, .string ⟨#[]⟩, .string ⟨#[]⟩, .string ⟨#[]⟩, .int .i64 0]) (by simp [results, Tryd.results22, go_sem]) rfl ⟨rfl, two_alloc _ _ _⟩
  · have g : (k == 4) = false := beq_eq_false_iff_ne.2 h4
    have HT := Lib.hid (show termTok ⟨k, x, y, z⟩ = ⟨3, [], ⟨k, x, y, z⟩, 0⟩ from if_neg h4)
    clear h4
    go_enter Tryd.func22, Tryd.ntmps22
    go_wp2
    refine bodyPost_ret (v := .agg #[.int .i64 3, .string ⟨#[]⟩, .int .i64 k, .string (bs x), .string (bs y), .string (bs z), .int .i64 0]) (by simp [results, Tryd.results22, go_sem]) rfl ⟨by rw [HT.out]; rfl, two_alloc _ _ _⟩

set_option maxHeartbeats 4000000 in
theorem ofDigits_calls (s : ByteArray) (n : Nat) (w : World) (hs : s.size ≤ 281474976710656) (hn : n ≤ s.size) :
    Calls Tryd.prog 27 #[.string s, .int .i64 n] w fun e w' => e = .returned (.tuple #[(digitsS s.data.toList n).1.v, .int .i64 (digitsS s.data.toList n).2]) ∧ Below w.heap.size w w' := by
  have hle := digits_le s.data.toList n (by rw [← Lib.size_eq]; exact hn)
  have hR : (s.data.toList.drop n).length ≤ 281474976710656 := by rw [List.length_drop, ← Lib.size_eq]; omega
  have hS : digitsS s.data.toList n = if 0 < placesS (s.data.toList.drop n) then (⟨3, [], ⟨2, s.data.toList.take (n + placesS (s.data.toList.drop n)), decT, []⟩, 0⟩, n + placesS (s.data.toList.drop n)) else (⟨4, s.data.toList.take n, noTerm, 0⟩, n) := rfl
  obtain ⟨R, hR2⟩ : ∃ R, s.data.toList.drop n = R := ⟨_, rfl⟩
  have hdb := drop_bs s n
  rw [hR2] at hR hS hdb
  obtain ⟨p, hp⟩ : ∃ p, placesS R = p := ⟨_, rfl⟩
  rw [hp] at hS
  have HP := Lib.hid hp
  have HDB := Lib.hid hdb
  clear hdb hp hR2
  by_cases h0 : 0 < p
  · rw [if_pos h0] at hS
    rw [hS] at hle
    dsimp only at hle
    rw [← Lib.size_eq] at hle
    have HS := Lib.hid hS
    clear hS
    have hpb := piece_bs s 0 (n + p)
    rw [List.drop_zero, Nat.sub_zero] at hpb
    have HPB := Lib.hid hpb
    clear hpb
    go_enter Tryd.func27, Tryd.ntmps27
    go_wp2_with fail
    rw [HDB.out]
    refine (placesAhead_calls (bs R) _ (by rw [bs_size]; unfold maxLen; omega)).mono ?_
    rintro e w1 ⟨rfl, hb1⟩
    rw [bs_data, HP.out]
    obtain ⟨hc, hf⟩ := bcell hb1
    have hz : w.heap.size < w1.heap.size := by have := hb1.size; simp at this; omega
    have gs : (n : Int) + (p : Int) ≤ (s.size : Int) := by omega
    go_wp2_with fail
    rw [HPB.out]
    refine (Clone_calls (bs _) _ (by rw [bs_size, List.length_take, ← Lib.size_eq]; omega)).mono ?_
    rintro e w2 ⟨rfl, hb2⟩
    have hb3 := hb1.trans (hb2.mono hb1.size)
    have hb3' := one_box hb3
    obtain ⟨hc3, hf3⟩ := bcell hb3
    have hz3 : w.heap.size < w2.heap.size := by have := hb2.size; omega
    have q0 : w2.cell? ⟨w.heap.size, 0, none⟩ = some (.int .i64 0) := by rw [hc3 _ _ (by simp)]; simp [go_sem]
    have q1 : w2.cell? ⟨w.heap.size, 1, none⟩ = some (.string ⟨#[]⟩) := by rw [hc3 _ _ (by simp)]; simp [go_sem]
    have q2 : w2.cell? ⟨w.heap.size, 2, none⟩ = some (.int .i64 0) := by rw [hc3 _ _ (by simp)]; simp [go_sem]
    have q3 : w2.cell? ⟨w.heap.size, 3, none⟩ = some (.string ⟨#[]⟩) := by rw [hc3 _ _ (by simp)]; simp [go_sem]
    have q4 : w2.cell? ⟨w.heap.size, 4, none⟩ = some (.string ⟨#[]⟩) := by rw [hc3 _ _ (by simp)]; simp [go_sem]
    have q5 : w2.cell? ⟨w.heap.size, 5, none⟩ = some (.string ⟨#[]⟩) := by rw [hc3 _ _ (by simp)]; simp [go_sem]
    have q6 : w2.cell? ⟨w.heap.size, 6, none⟩ = some (.int .i64 0) := by rw [hc3 _ _ (by simp)]; simp [go_sem]
    go_wp2
    refine bodyPost_ret (v := .tuple #[.agg #[.int .i64 3, .string ⟨#[]⟩, .int .i64 2, .string (bs (s.data.toList.take (n + p))), .string (bs decT), .string ⟨#[]⟩, .int .i64 0], .int .i64 (n + p)]) (by simp [results, Tryd.results27, q0, q1, q2, q3, q4, q5, q6, hz3, World.cell?_alloc_lt, go_sem]; rfl) rfl ⟨by rw [HS.out]; rfl, ?_⟩
    repeat (with_reducible (first | exact hb3' | refine Below.setCell ?_ (by first | exact Nat.le_refl _ | omega | (simp; omega)) _ | refine Below.alloc ?_ (by first | omega | (simp; omega)) _))
  · rw [if_neg h0] at hS
    have HS := Lib.hid hS
    clear hS hle
    go_enter Tryd.func27, Tryd.ntmps27
    go_wp2_with fail
    rw [HDB.out]
    refine (placesAhead_calls (bs R) _ (by rw [bs_size]; unfold maxLen; omega)).mono ?_
    rintro e w1 ⟨rfl, hb1⟩
    rw [bs_data, HP.out]
    obtain ⟨hc, hf⟩ := bcell hb1
    have hz : w.heap.size < w1.heap.size := by have := hb1.size; simp at this; omega
    have hpb := piece_bs s 0 n
    rw [List.drop_zero, Nat.sub_zero] at hpb
    have HPB := Lib.hid hpb
    clear hpb
    go_wp2_with fail
    rw [HPB.out]
    refine (Clone_calls (bs _) _ (by rw [bs_size, List.length_take, ← Lib.size_eq]; omega)).mono ?_
    rintro e w2 ⟨rfl, hb2⟩
    have hb3 := hb1.trans (hb2.mono hb1.size)
    have hb3' := one_box hb3
    obtain ⟨hc3, hf3⟩ := bcell hb3
    have hz3 : w.heap.size < w2.heap.size := by have := hb2.size; omega
    go_wp2
    refine bodyPost_ret (v := .tuple #[.agg #[.int .i64 4, .string (bs (s.data.toList.take n)), .int .i64 0, .string ⟨#[]⟩, .string ⟨#[]⟩, .string ⟨#[]⟩, .int .i64 0], .int .i64 n]) (by simp [results, Tryd.results27, hc3, go_sem]) rfl ⟨by rw [HS.out]; rfl, ?_⟩
    exact set7 hb3' (Nat.le_refl _) _ _ _ _ _ _ _

def WordT (w : World) (l : List UInt8) (e : Ending) (w' : World) : Prop := e = .returned (.tuple #[(wordS l).1.v, .int .i64 (wordS l).2]) ∧ Below w.heap.size w w'
theorem word_term {l : List UInt8} (h : 0 < (prefixS l).2) : wordS l = (termTok (prefixS l).1, (prefixS l).2) := by unfold wordS; rw [if_pos h]
theorem word_letters {l : List UInt8} (h : ¬ 0 < (prefixS l).2) (h2 : 0 < letterLead l) : wordS l = (⟨1, l.take (letterLead l), noTerm, 0⟩, letterLead l) := by unfold wordS; rw [if_neg h, if_pos h2]
theorem word_digits {l : List UInt8} (h : ¬ 0 < (prefixS l).2) (h2 : ¬ 0 < letterLead l) (h3 : 0 < digitLead l) : wordS l = digitsS l (digitLead l) := by unfold wordS; rw [if_neg h, if_neg h2, if_pos h3]
theorem word_sign {l : List UInt8} (h : ¬ 0 < (prefixS l).2) (h2 : ¬ 0 < letterLead l) (h3 : ¬ 0 < digitLead l) : wordS l = if signT l = [] then (noTok, 0) else (⟨5, signT l, noTerm, 0⟩, (signT l).length) := by
  unfold wordS
  rw [if_neg h, if_neg h2, if_neg h3]
  obtain ⟨h4, h5⟩ := signT_take l
  unfold signS
  by_cases h0 : signN l = 0
  · rw [if_pos h0, if_pos (by rw [h4, h0]; simp)]
  · rw [if_neg h0, if_neg (by intro c; rw [c] at h5; exact h0 h5.symm), h5, h4]

set_option maxRecDepth 100000 in
set_option maxHeartbeats 4000000 in
theorem word_calls (s : ByteArray) (w : World) (hs : s.size ≤ 281474976710656) : Calls Tryd.prog 15 #[.string s] w (WordT w s.data.toList) := by
  have hle : (prefixS s.data.toList).2 ≤ s.size := by rw [Lib.size_eq]; exact prefix_le _
  have hll : letterLead s.data.toList ≤ s.size := by rw [Lib.size_eq]; exact lead_le _ 0 _
  have hdl : digitLead s.data.toList ≤ s.size := by rw [Lib.size_eq]; exact lead_le _ 0 _
  have hw1 := @word_term s.data.toList
  have hw2 := @word_letters s.data.toList
  have hw3 := @word_digits s.data.toList
  have hw4 := @word_sign s.data.toList
  have hsz := (signT_take s.data.toList).2
  have hsn := signN_le s.data.toList
  rw [← Lib.size_eq] at hsn
  obtain ⟨q, hq⟩ : ∃ q, prefixS s.data.toList = q := ⟨_, rfl⟩
  obtain ⟨m, hm⟩ : ∃ m, letterLead s.data.toList = m := ⟨_, rfl⟩
  obtain ⟨d, hd⟩ : ∃ d, digitLead s.data.toList = d := ⟨_, rfl⟩
  obtain ⟨g, hg⟩ : ∃ g, signT s.data.toList = g := ⟨_, rfl⟩
  rw [hq] at hle hw1 hw2 hw3 hw4
  rw [hm] at hll hw2 hw3 hw4
  rw [hd] at hdl hw3 hw4
  rw [hg] at hw4 hsz
  obtain ⟨⟨k, x, y, z⟩, n⟩ := q
  dsimp only at hle hw1 hw2 hw3 hw4
  have HQ := Lib.hid hq
  have HM := Lib.hid hm
  have HD := Lib.hid hd
  have HG := Lib.hid hg
  have HW1 := Lib.hid hw1
  have HW2 := Lib.hid hw2
  have HW3 := Lib.hid hw3
  have HW4 := Lib.hid hw4
  have hgl : g.length ≤ s.size := by omega
  clear hq hm hd hg hw1 hw2 hw3 hw4 hsz hsn
  go_enter Tryd.func15, Tryd.ntmps15
  go_wp2_with fail
  refine (Prefix_calls s _ hs).mono ?_
  rintro e w1 ⟨rfl, hb1⟩
  rw [HQ.out]
  simp only [TermL.v]
  have hB1 := blk_on (blk_new w 32 zero7) hb1 (by rw [World.size_alloc]; exact Nat.lt_succ_self _)
  have hb1' := one_box hb1
  have hz1 : w.heap.size < w1.heap.size := blk_lt hB1
  clear hb1
  by_cases h0 : 0 < n
  · have HS := Lib.hid (HW1.out h0)
    clear HW1 HW2 HW3 HW4
    have hB2 := blk_alloc hB1 (.cells #[.int .i64 k, .string (bs x), .string (bs y), .string (bs z)] 30)
    clear hB1
    go_wp2_with fail
    refine (ofTerm_calls k x y z _).mono ?_
    rintro e w2 ⟨rfl, hb2⟩
    have hB3 := blk_on hB2 hb2 (blk_lt hB2)
    have hzz := blk_lt hB3
    have HBB := Lib.hid (show Below w.heap.size w w2 from (hb1'.alloc (Nat.le_of_lt hz1) _).trans (hb2.mono (by rw [World.size_alloc]; omega)))
    clear hB2 hb2 hb1'
    obtain ⟨q0, q1, q2, q3, q4, q5, q6⟩ := blk_cells7 hB3
    have fr := fun i => blk_free hB3 i
    clear hB3
    obtain ⟨⟨tk, tx, ⟨uk, ux, uy, uz⟩, ta⟩, hT⟩ : ∃ T, termTok ⟨k, x, y, z⟩ = T := ⟨_, rfl⟩
    rw [hT]
    rw [hT] at HS
    clear hT
    simp only [TokL.v]
    go_wp2
    refine bodyPost_ret (v := .tuple #[.agg #[.int .i64 tk, .string (bs tx), .int .i64 uk, .string (bs ux), .string (bs uy), .string (bs uz), .int .i64 ta], .int .i64 n]) (by simp [results, Tryd.results15, q0, q1, q2, q3, q4, q5, q6, go_sem]) rfl ⟨by rw [HS.out]; rfl, ?_⟩
    repeat (with_reducible (first | exact HBB.out | refine Below.setCell ?_ (by first | exact Nat.le_refl _ | omega | (simp; omega)) _ | refine Below.alloc ?_ (by first | omega | (simp; omega)) _))
  · have HW := Lib.hid h0
    have g0 : ¬ (0 : Int) < (n : Int) := by omega
    have hB2 := blk_alloc hB1 (.cells #[.int .i64 k, .string (bs x), .string (bs y), .string (bs z)] 30)
    have hb2' := hb1'.alloc (Nat.le_of_lt hz1) (.cells #[.int .i64 k, .string (bs x), .string (bs y), .string (bs z)] 30)
    clear hB1 hb1' HW1 h0
    go_wp2_with fail
    refine (leadingLetter_calls s _ (by unfold maxLen; omega)).mono ?_
    rintro e w2 ⟨rfl, hb2⟩
    rw [HM.out]
    have hB3 := blk_on hB2 hb2 (blk_lt hB2)
    have hb3' := hb2'.trans (hb2.mono hb2'.size)
    have hz3 : w.heap.size < w2.heap.size := blk_lt hB3
    clear hB2 hb2 hb2'
    by_cases hm0 : 0 < m
    · have HS := Lib.hid (HW2.out HW.out hm0)
      have hpb := piece_bs s 0 m
      rw [List.drop_zero, Nat.sub_zero] at hpb
      have HPB := Lib.hid hpb
      clear hpb
      go_wp2_with fail
      rw [HPB.out]
      refine (Clone_calls (bs _) _ (by rw [bs_size, List.length_take, ← Lib.size_eq]; omega)).mono ?_
      rintro e w3 ⟨rfl, hb4⟩
      have hB4 := blk_on hB3 hb4 hz3
      have hzz := blk_lt hB4
      have HBB := Lib.hid (hb3'.trans (hb4.mono hb3'.size))
      clear hB3 hb4 hb3'
      obtain ⟨q0, q1, q2, q3, q4, q5, q6⟩ := blk_cells7 hB4
      have fr := fun i => blk_free hB4 i
      clear hB4
      go_wp2
      refine bodyPost_ret (v := .tuple #[.agg #[.int .i64 1, .string (bs (s.data.toList.take m)), .int .i64 0, .string ⟨#[]⟩, .string ⟨#[]⟩, .string ⟨#[]⟩, .int .i64 0], .int .i64 m]) (by simp [results, Tryd.results15, q0, q1, q2, q3, q4, q5, q6, go_sem]) rfl ⟨by rw [HS.out]; rfl, ?_⟩
      repeat (with_reducible (first | exact HBB.out | refine Below.setCell ?_ (by first | exact Nat.le_refl _ | omega | (simp; omega)) _ | refine Below.alloc ?_ (by first | omega | (simp; omega)) _))
    · have HW' := Lib.hid hm0
      have g1 : ¬ (0 : Int) < (m : Int) := by omega
      clear hm0 HW2
      go_wp2_with fail
      refine (leadingDigit_calls s _ (by unfold maxLen; omega)).mono ?_
      rintro e w3 ⟨rfl, hb4⟩
      rw [HD.out]
      have hB4 := blk_on hB3 hb4 hz3
      have hb5' := hb3'.trans (hb4.mono hb3'.size)
      have hz4 : w.heap.size < w3.heap.size := blk_lt hB4
      clear hB3 hb4 hb3'
      by_cases hd0 : 0 < d
      · have hS := HW3.out HW.out HW'.out hd0
        go_wp2_with fail
        refine (ofDigits_calls s d _ hs hdl).mono ?_
        rintro e w4 ⟨rfl, hb6⟩
        obtain ⟨D, hD⟩ : ∃ D, digitsS s.data.toList d = D := ⟨_, rfl⟩
        rw [hD] at hS ⊢
        have HS := Lib.hid hS
        obtain ⟨⟨tk, tx, ⟨uk, ux, uy, uz⟩, ta⟩, nn⟩ := D
        clear hD hS
        simp only [TokL.v]
        have hB6 := blk_on hB4 hb6 hz4
        have hzz := blk_lt hB6
        have HBB := Lib.hid (hb5'.trans (hb6.mono hb5'.size))
        clear hB4 hb6 hb5'
        obtain ⟨q0, q1, q2, q3, q4, q5, q6⟩ := blk_cells7 hB6
        have fr := fun i => blk_free hB6 i
        clear hB6
        go_wp2
        refine bodyPost_ret (v := .tuple #[.agg #[.int .i64 tk, .string (bs tx), .int .i64 uk, .string (bs ux), .string (bs uy), .string (bs uz), .int .i64 ta], .int .i64 nn]) (by simp [results, Tryd.results15, q0, q1, q2, q3, q4, q5, q6, go_sem]) rfl ⟨by rw [HS.out]; rfl, ?_⟩
        repeat (with_reducible (first | exact HBB.out | refine Below.setCell ?_ (by first | exact Nat.le_refl _ | omega | (simp; omega)) _ | refine Below.alloc ?_ (by first | omega | (simp; omega)) _))
      · have hS := HW4.out HW.out HW'.out hd0
        have g2 : ¬ (0 : Int) < (d : Int) := by omega
        clear hd0 HW3
        go_wp2_with fail
        refine (signAhead_calls s _).mono ?_
        rintro e w4 ⟨rfl, hb6⟩
        rw [HG.out]
        have hB6 := blk_on hB4 hb6 hz4
        have hzz := blk_lt hB6
        have HBB := Lib.hid (hb5'.trans (hb6.mono hb5'.size))
        clear hB4 hb6 hb5'
        obtain ⟨q0, q1, q2, q3, q4, q5, q6⟩ := blk_cells7 hB6
        have fr := fun i => blk_free hB6 i
        clear hB6
        by_cases hg0 : g = []
        · rw [if_pos hg0] at hS
          have HS := Lib.hid hS
          subst hg0
          clear hS
          rw [bs_nil]
          go_wp2
          refine bodyPost_ret (v := .tuple #[.agg #[.int .i64 0, .string ⟨#[]⟩, .int .i64 0, .string ⟨#[]⟩, .string ⟨#[]⟩, .string ⟨#[]⟩, .int .i64 0], .int .i64 0]) (by simp [results, Tryd.results15, q0, q1, q2, q3, q4, q5, q6, go_sem]) rfl ⟨by rw [HS.out]; rfl, ?_⟩
          repeat (with_reducible (first | exact HBB.out | refine Below.setCell ?_ (by first | exact Nat.le_refl _ | omega | (simp; omega)) _ | refine Below.alloc ?_ (by first | omega | (simp; omega)) _))
        · rw [if_neg hg0] at hS
          have HS := Lib.hid hS
          have gg : (bs g).toList.isEmpty = false := by rw [bs_toList]; simpa using hg0
          have HGL := Lib.hid (show (bs g).size = g.length from rfl)
          clear hS hg0
          go_wp2
          refine bodyPost_ret (v := .tuple #[.agg #[.int .i64 5, .string (bs g), .int .i64 0, .string ⟨#[]⟩, .string ⟨#[]⟩, .string ⟨#[]⟩, .int .i64 0], .int .i64 (bs g).size]) (by simp [results, Tryd.results15, q0, q1, q2, q3, q4, q5, q6, go_sem]) rfl ⟨by rw [HS.out]; rfl, ?_⟩
          repeat (with_reducible (first | exact HBB.out | refine Below.setCell ?_ (by first | exact Nat.le_refl _ | omega | (simp; omega)) _ | refine Below.alloc ?_ (by first | omega | (simp; omega)) _))

end Go.Proofs.YtkejninogmphhaaDoor
