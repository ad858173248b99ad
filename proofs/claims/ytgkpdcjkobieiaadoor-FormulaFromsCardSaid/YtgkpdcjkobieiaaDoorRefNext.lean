/- The first word of a text from a place on, by the document's own answer: the same as package lex's, for every text and every place. -/
import Derived.Test.YtgkpdcjkobieiaaDoorRefWord
namespace Go.Proofs.YtgkpdcjkobieiaaDoor
open Go.RowKit

set_option maxRecDepth 100000 in
set_option maxHeartbeats 2000000 in
theorem rNext_out (s : ByteArray) (a : Int) (w : World) (h : a < 0 ∨ (s.size : Int) < a) : Calls Tryd.prog 24 #[.string s, .int .i64 a] w (NoneT w) := by
  by_cases h0 : a < 0
  · clear h
    go_enter Tryd.func24, Tryd.ntmps24
    go_wp2
    refine bodyPost_ret (v := .tuple #[.agg #[.int .i64 0, .string ⟨#[]⟩, .int .i64 0, .string ⟨#[]⟩, .string ⟨#[]⟩, .string ⟨#[]⟩, .int .i64 0], .int .i64 0, .int .i64 2]) (by simp [results, Tryd.results24, go_sem]) rfl ⟨rfl, ?_⟩
    exact box_below _ _
  · have h1 : (s.size : Int) < a := h.resolve_left h0
    clear h
    go_enter Tryd.func24, Tryd.ntmps24
    go_wp2
    refine bodyPost_ret (v := .tuple #[.agg #[.int .i64 0, .string ⟨#[]⟩, .int .i64 0, .string ⟨#[]⟩, .string ⟨#[]⟩, .string ⟨#[]⟩, .int .i64 0], .int .i64 0, .int .i64 2]) (by simp [results, Tryd.results24, go_sem]) rfl ⟨rfl, ?_⟩
    exact box_below _ _

theorem ret_next {t u : TokL} {a b c d : Int} (h1 : t = u) (h2 : a = b) (h3 : c = d) : Ending.returned (.tuple #[t.v, .int .i64 a, .int .i64 c]) = .returned (.tuple #[u.v, .int .i64 b, .int .i64 d]) := by rw [h1, h2, h3]
theorem rword_none {l : List UInt8} (h : (wordS l).2 = 0) : rwordS l = (⟨5, [], noTerm, 0⟩, 0) := if_pos h
theorem rword_some {l : List UInt8} (h : ¬ (wordS l).2 = 0) : rwordS l = wordS l := if_neg h

set_option maxRecDepth 100000 in
set_option maxHeartbeats 4000000 in
theorem rNext_calls (s : ByteArray) (a : Nat) (w : World) (hs : s.size ≤ 281474976710656) (ha : a ≤ s.size) : Calls Tryd.prog 24 #[.string s, .int .i64 a] w (NextT w s.data.toList a) := by
  have hbl := begS_le (l := s.data.toList) (a := a) (by rw [← Lib.size_eq]; exact ha)
  rw [← Lib.size_eq] at hbl
  have hne := @next_end s.data.toList a
  have hnb := @next_bad s.data.toList a
  have hnw := @next_word s.data.toList a
  rw [← Lib.size_eq] at hne hnb hnw
  have hgl : (wordS (s.data.toList.drop (begS s.data.toList a))).2 ≤ s.size - begS s.data.toList a := by
    have := word_le (s.data.toList.drop (begS s.data.toList a))
    rw [List.length_drop, ← Lib.size_eq] at this; exact this
  have hb : begS s.data.toList a = a + spaceLead (s.data.toList.drop a) := rfl
  have hR1 : Hid (∀ W, Calls Tryd.prog 23 #[.string s, .int .i64 a, .int .i64 1] W fun e w' => e = .returned (.int .i64 (spaceLead (s.data.toList.drop a))) ∧ w' = W) := Lib.hid fun W => rRun1_calls s a W hs (by omega)
  obtain ⟨p, hp⟩ : ∃ p, spaceLead (s.data.toList.drop a) = p := ⟨_, rfl⟩
  rw [hp] at hb hR1
  rw [hb] at hbl hne hnb hnw hgl
  have hdb := drop_bs s (a + p)
  have hRl : (s.data.toList.drop (a + p)).length = s.size - (a + p) := by rw [List.length_drop, ← Lib.size_eq]
  obtain ⟨R, hR⟩ : ∃ R, s.data.toList.drop (a + p) = R := ⟨_, rfl⟩
  rw [hR] at hnb hnw hgl hdb hRl
  have hrn := @rword_none R
  have hrs := @rword_some R
  obtain ⟨W, hW⟩ : ∃ W, wordS R = W := ⟨_, rfl⟩
  rw [hW] at hnb hnw hgl hrn hrs
  obtain ⟨⟨tk, tx, ⟨uk, ux, uy, uz⟩, ta⟩, n⟩ := W
  dsimp only at hnb hnw hgl hrn hrs
  have HE := Lib.hid hne
  have HNB := Lib.hid hnb
  have HNW := Lib.hid hnw
  have HDB := Lib.hid hdb
  have HRN := Lib.hid hrn
  have HRS := Lib.hid hrs
  have HRL := Lib.hid hRl
  clear hb hne hnb hnw hdb hW hR hp hrn hrs hRl
  go_enter Tryd.func24, Tryd.ntmps24
  go_wp2_with fail
  refine (hR1.out _).mono ?_
  rintro e w1 ⟨rfl, hw1⟩
  obtain ⟨w1, hw1', hB1, hb1'⟩ : ∃ W, W = w1 ∧ Blk W w.heap.size 35 zero7 ∧ Below w.heap.size w W := ⟨w1, rfl, by rw [hw1]; exact blk_new w 35 zero7, by rw [hw1]; exact box_below _ _⟩
  subst hw1'
  clear hw1
  have hz1 : w.heap.size < w1.heap.size := blk_lt hB1
  by_cases h0 : a + p = s.size
  · have HS := Lib.hid (HE.out h0)
    have HBB := Lib.hid hb1'
    have g0 : ((a : Int) + (p : Int) == (s.size : Int)) = true := beq_iff_eq.2 (by omega)
    have H0 := Lib.hid h0
    obtain ⟨q0, q1, q2, q3, q4, q5, q6⟩ := blk_cells7 hB1
    have fr := fun i => blk_free hB1 i
    clear h0 hB1 hb1'
    go_wp2
    refine bodyPost_ret (v := .tuple #[.agg #[.int .i64 0, .string ⟨#[]⟩, .int .i64 0, .string ⟨#[]⟩, .string ⟨#[]⟩, .string ⟨#[]⟩, .int .i64 0], .int .i64 ((a : Int) + (p : Int)), .int .i64 0]) (by simp [results, Tryd.results24, q0, q1, q2, q3, q4, q5, q6, go_sem]) rfl ⟨by rw [HS.out]; exact ret_next (t := noTok) (u := noTok) (a := (a : Int) + (p : Int)) (b := (s.size : Int)) (c := 0) (d := 0) rfl (by have := H0.out; omega) rfl, ?_⟩
    repeat (with_reducible (first | exact HBB.out | refine Below.setCell ?_ (by first | exact Nat.le_refl _ | omega | (simp; omega)) _ | refine Below.alloc ?_ (by first | omega | (simp; omega)) _))
  · have g0 : ((a : Int) + (p : Int) == (s.size : Int)) = false := beq_eq_false_iff_ne.2 (by omega)
    have gs : (a : Int) + (p : Int) ≤ (s.size : Int) := by omega
    by_cases hn : n = 0
    · have HS := Lib.hid (HNB.out h0 hn)
      have HRW := Lib.hid (HRN.out hn)
      clear hn
      go_wp2_with fail
      rw [HDB.out]
      refine (rword_calls (bs R) _ (by rw [bs_size, HRL.out]; omega) (by rw [bs_size, HRL.out]; omega)).mono ?_
      rintro e w2 ⟨rfl, hb2⟩
      rw [bs_data, HRW.out]
      simp only [TokL.v, noTerm, bs_nil]
      have hB2 := blk_on hB1 hb2 hz1
      have hzz := blk_lt hB2
      have HBB := Lib.hid (hb1'.trans (hb2.mono hb1'.size))
      clear hB1 hb2 hb1' h0
      obtain ⟨q0, q1, q2, q3, q4, q5, q6⟩ := blk_cells7 hB2
      have fr := fun i => blk_free hB2 i
      clear hB2
      go_wp2
      refine bodyPost_ret (v := .tuple #[.agg #[.int .i64 0, .string ⟨#[]⟩, .int .i64 0, .string ⟨#[]⟩, .string ⟨#[]⟩, .string ⟨#[]⟩, .int .i64 0], .int .i64 0, .int .i64 2]) (by simp [results, Tryd.results24, q0, q1, q2, q3, q4, q5, q6, hzz, World.cell?_alloc_lt, go_sem]) rfl ⟨by rw [HS.out]; rfl, ?_⟩
      repeat (with_reducible (first | exact HBB.out | refine Below.setCell ?_ (by first | exact Nat.le_refl _ | omega | (simp; omega)) _ | refine Below.alloc ?_ (by first | omega | (simp; omega)) _))
    · have HS := Lib.hid (HNW.out h0 hn)
      have HRW := Lib.hid (HRS.out hn)
      have g1 : ((n : Int) == 0) = false := beq_eq_false_iff_ne.2 (by omega)
      clear hn
      go_wp2_with fail
      rw [HDB.out]
      refine (rword_calls (bs R) _ (by rw [bs_size, HRL.out]; omega) (by rw [bs_size, HRL.out]; omega)).mono ?_
      rintro e w2 ⟨rfl, hb2⟩
      rw [bs_data, HRW.out]
      simp only [TokL.v]
      have hB2 := blk_on hB1 hb2 hz1
      have hzz := blk_lt hB2
      have HBB := Lib.hid (hb1'.trans (hb2.mono hb1'.size))
      clear hB1 hb2 hb1' h0
      obtain ⟨q0, q1, q2, q3, q4, q5, q6⟩ := blk_cells7 hB2
      have fr := fun i => blk_free hB2 i
      clear hB2
      go_wp2
      refine bodyPost_ret (v := .tuple #[.agg #[.int .i64 tk, .string (bs tx), .int .i64 uk, .string (bs ux), .string (bs uy), .string (bs uz), .int .i64 ((a : Int) + (p : Int))], .int .i64 ((a : Int) + (p : Int) + (n : Int)), .int .i64 0]) (by simp [results, Tryd.results24, q0, q1, q2, q3, q4, q5, q6, hzz, World.cell?_alloc_lt, go_sem]) rfl ⟨by rw [HS.out]; exact ret_next (t := ⟨tk, tx, ⟨uk, ux, uy, uz⟩, (a : Int) + (p : Int)⟩) (u := ⟨tk, tx, ⟨uk, ux, uy, uz⟩, ((a + p : Nat) : Int)⟩) (a := (a : Int) + (p : Int) + (n : Int)) (b := ((a + p + n : Nat) : Int)) (c := 0) (d := 0) (by rw [show ((a + p : Nat) : Int) = (a : Int) + (p : Int) by omega]) (by omega) rfl, ?_⟩
      repeat (with_reducible (first | exact HBB.out | refine Below.setCell ?_ (by first | exact Nat.le_refl _ | omega | (simp; omega)) _ | refine Below.alloc ?_ (by first | omega | (simp; omega)) _))

end Go.Proofs.YtgkpdcjkobieiaaDoor
