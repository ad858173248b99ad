/- The first word of a text from a place on: package lex's Next, for every text and every place. -/
import Derived.Test.YtkejninogmphhaaDoorLexWord
namespace Go.Proofs.YtkejninogmphhaaDoor
open Go.RowKit

def NextT (w : World) (l : List UInt8) (a : Nat) (e : Ending) (w' : World) : Prop := e = .returned (.tuple #[(nextS l a).1.v, .int .i64 (nextS l a).2.1, .int .i64 (nextS l a).2.2]) ∧ Below w.heap.size w w'
def NoneT (w : World) (e : Ending) (w' : World) : Prop := e = .returned (.tuple #[noTok.v, .int .i64 0, .int .i64 2]) ∧ Below w.heap.size w w'

set_option maxRecDepth 100000 in
set_option maxHeartbeats 2000000 in
theorem Next_out (s : ByteArray) (a : Int) (w : World) (h : a < 0 ∨ (s.size : Int) < a) : Calls Tryd.prog 10 #[.string s, .int .i64 a] w (NoneT w) := by
  by_cases h0 : a < 0
  · clear h
    go_enter Tryd.func10, Tryd.ntmps10
    go_wp2
    refine bodyPost_ret (v := .tuple #[.agg #[.int .i64 0, .string ⟨#[]⟩, .int .i64 0, .string ⟨#[]⟩, .string ⟨#[]⟩, .string ⟨#[]⟩, .int .i64 0], .int .i64 0, .int .i64 2]) (by simp [results, Tryd.results10, go_sem]) rfl ⟨rfl, ?_⟩
    exact box_below _ _
  · have h1 : (s.size : Int) < a := h.resolve_left h0
    clear h
    go_enter Tryd.func10, Tryd.ntmps10
    go_wp2
    refine bodyPost_ret (v := .tuple #[.agg #[.int .i64 0, .string ⟨#[]⟩, .int .i64 0, .string ⟨#[]⟩, .string ⟨#[]⟩, .string ⟨#[]⟩, .int .i64 0], .int .i64 0, .int .i64 2]) (by simp [results, Tryd.results10, go_sem]) rfl ⟨rfl, ?_⟩
    exact box_below _ _

set_option maxRecDepth 100000 in
set_option maxHeartbeats 4000000 in
theorem Next_calls (s : ByteArray) (a : Nat) (w : World) (hs : s.size ≤ 281474976710656) (ha : a ≤ s.size) : Calls Tryd.prog 10 #[.string s, .int .i64 a] w (NextT w s.data.toList a) := by
  have hbl := begS_le (l := s.data.toList) (a := a) (by rw [← Lib.size_eq]; exact ha)
  rw [← Lib.size_eq] at hbl
  have hne := @next_end s.data.toList a
  have hnb := @next_bad s.data.toList a
  have hnw := @next_word s.data.toList a
  rw [← Lib.size_eq] at hne hnb hnw
  have hgl : (wordS (s.data.toList.drop (begS s.data.toList a))).2 ≤ s.size - begS s.data.toList a := by
    have := word_le (s.data.toList.drop (begS s.data.toList a))
    rw [List.length_drop, ← Lib.size_eq] at this; exact this
  obtain ⟨b, hb⟩ : ∃ b, begS s.data.toList a = b := ⟨_, rfl⟩
  rw [hb] at hbl hne hnb hnw hgl
  have hdb := drop_bs s b
  have hRl : (s.data.toList.drop b).length ≤ s.size := by rw [List.length_drop, ← Lib.size_eq]; omega
  obtain ⟨R, hR⟩ : ∃ R, s.data.toList.drop b = R := ⟨_, rfl⟩
  rw [hR] at hnb hnw hgl hdb hRl
  obtain ⟨W, hW⟩ : ∃ W, wordS R = W := ⟨_, rfl⟩
  rw [hW] at hnb hnw hgl
  obtain ⟨⟨tk, tx, ⟨uk, ux, uy, uz⟩, ta⟩, n⟩ := W
  dsimp only at hnb hnw hgl
  have HB := Lib.hid hb
  have HE := Lib.hid hne
  have HNB := Lib.hid hnb
  have HNW := Lib.hid hnw
  have HDB := Lib.hid hdb
  have HWD := Lib.hid hW
  clear hb hne hnb hnw hdb hW hR
  go_enter Tryd.func10, Tryd.ntmps10
  go_wp2_with fail
  refine (begin_calls s a _ (by unfold maxLen; omega) ha).mono ?_
  rintro e w1 ⟨rfl, hb1⟩
  rw [HB.out]
  have hB1 := blk_on (blk_new w 32 zero7) hb1 (by rw [World.size_alloc]; exact Nat.lt_succ_self _)
  have hb1' := one_box hb1
  have hz1 : w.heap.size < w1.heap.size := blk_lt hB1
  clear hb1
  by_cases h0 : b = s.size
  · have HS := Lib.hid (HE.out h0)
    have HBB := Lib.hid hb1'
    have g0 : ((b : Int) == (s.size : Int)) = true := beq_iff_eq.2 (by omega)
    have H0 := Lib.hid h0
    obtain ⟨q0, q1, q2, q3, q4, q5, q6⟩ := blk_cells7 hB1
    have fr := fun i => blk_free hB1 i
    clear h0 hB1 hb1'
    go_wp2
    refine bodyPost_ret (v := .tuple #[.agg #[.int .i64 0, .string ⟨#[]⟩, .int .i64 0, .string ⟨#[]⟩, .string ⟨#[]⟩, .string ⟨#[]⟩, .int .i64 0], .int .i64 b, .int .i64 0]) (by simp [results, Tryd.results10, q0, q1, q2, q3, q4, q5, q6, go_sem]) rfl ⟨by rw [HS.out, H0.out]; rfl, ?_⟩
    repeat (with_reducible (first | exact HBB.out | refine Below.setCell ?_ (by first | exact Nat.le_refl _ | omega | (simp; omega)) _ | refine Below.alloc ?_ (by first | omega | (simp; omega)) _))
  · have g0 : ((b : Int) == (s.size : Int)) = false := beq_eq_false_iff_ne.2 (by omega)
    go_wp2_with fail
    rw [HDB.out]
    refine (word_calls (bs R) _ (by rw [bs_size]; omega)).mono ?_
    rintro e w2 ⟨rfl, hb2⟩
    rw [bs_data, HWD.out]
    simp only [TokL.v]
    have hB2 := blk_on hB1 hb2 hz1
    have hzz := blk_lt hB2
    have HBB := Lib.hid (hb1'.trans (hb2.mono hb1'.size))
    clear hB1 hb2 hb1'
    obtain ⟨q0, q1, q2, q3, q4, q5, q6⟩ := blk_cells7 hB2
    have fr := fun i => blk_free hB2 i
    clear hB2
    by_cases hn : n = 0
    · have HS := Lib.hid (HNB.out h0 hn)
      have g1 : ((n : Int) == 0) = true := beq_iff_eq.2 (by omega)
      clear hn h0
      go_wp2
      refine bodyPost_ret (v := .tuple #[.agg #[.int .i64 0, .string ⟨#[]⟩, .int .i64 0, .string ⟨#[]⟩, .string ⟨#[]⟩, .string ⟨#[]⟩, .int .i64 0], .int .i64 0, .int .i64 2]) (by simp [results, Tryd.results10, q0, q1, q2, q3, q4, q5, q6, hzz, World.cell?_alloc_lt, go_sem]) rfl ⟨by rw [HS.out]; rfl, ?_⟩
      repeat (with_reducible (first | exact HBB.out | refine Below.setCell ?_ (by first | exact Nat.le_refl _ | omega | (simp; omega)) _ | refine Below.alloc ?_ (by first | omega | (simp; omega)) _))
    · have HS := Lib.hid (HNW.out h0 hn)
      have g1 : ((n : Int) == 0) = false := beq_eq_false_iff_ne.2 (by omega)
      clear hn h0
      go_wp2
      refine bodyPost_ret (v := .tuple #[.agg #[.int .i64 tk, .string (bs tx), .int .i64 uk, .string (bs ux), .string (bs uy), .string (bs uz), .int .i64 b], .int .i64 (b + n), .int .i64 0]) (by simp [results, Tryd.results10, q0, q1, q2, q3, q4, q5, q6, hzz, World.cell?_alloc_lt, go_sem]) rfl ⟨by rw [HS.out]; rfl, ?_⟩
      repeat (with_reducible (first | exact HBB.out | refine Below.setCell ?_ (by first | exact Nat.le_refl _ | omega | (simp; omega)) _ | refine Below.alloc ?_ (by first | omega | (simp; omega)) _))

end Go.Proofs.YtkejninogmphhaaDoor
