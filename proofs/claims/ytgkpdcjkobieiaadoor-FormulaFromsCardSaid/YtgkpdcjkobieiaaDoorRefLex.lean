/- All words of a text, by the document's own answer: the same as package lex's, for every text. -/
import Derived.Test.YtgkpdcjkobieiaaDoorRefNext
import Derived.Test.YtgkpdcjkobieiaaDoorLexWords
namespace Go.Proofs.YtgkpdcjkobieiaaDoor
open Go.RowKit

/- what a round keeps: the words so far; where the next one begins -/
def RLexR (w : World) (l : List UInt8) (f : Nat) (v a : Value) (wr : World) : Prop :=
  ∃ (T : List TokL) (p : Nat), a = .int .i64 (begS l p) ∧ wr.ownsRow w.heap.size 35 7 v T.length (tokCells T) ∧ Below w.heap.size w wr ∧ Hid (Run5 l T f p) ∧ p ≤ l.length ∧ T.length ≤ p ∧ l.length - p < f

theorem sp_yes {b : UInt8} {r : List UInt8} (h : spaceZ (b.toNat : Int) = true) : spaceLead (b :: r) = spaceLead r + 1 := by
  have e : spaceLead (b :: r) = if spaceZ (b.toNat : Int) then lead (fun _ c => spaceZ c) (0 + 1) r + 1 else 0 := rfl
  rw [e, if_pos h, lead_free _ (0 + 1) 0]; rfl
theorem sp_no {b : UInt8} {r : List UInt8} (h : ¬ spaceZ (b.toNat : Int) = true) : spaceLead (b :: r) = 0 := by
  have e : spaceLead (b :: r) = if spaceZ (b.toNat : Int) then lead (fun _ c => spaceZ c) (0 + 1) r + 1 else 0 := rfl
  rw [e, if_neg h]
/- where a word begins, the first one from there on is that word -/
theorem beg_beg (l : List UInt8) (a : Nat) : begS l (begS l a) = begS l a := by
  have key : ∀ (l : List UInt8), spaceLead (l.drop (spaceLead l)) = 0 := by
    intro l
    induction l with
    | nil => rfl
    | cons b r ih =>
      by_cases h : spaceZ (b.toNat : Int) = true
      · rw [sp_yes h, List.drop_succ_cons]; exact ih
      · rw [sp_no h, List.drop_zero, sp_no h]
  unfold begS
  rw [← List.drop_drop, key]; rfl
theorem next_beg (l : List UInt8) (a : Nat) : nextS l (begS l a) = nextS l a := by
  unfold nextS; rw [beg_beg]

set_option maxRecDepth 100000 in
set_option maxHeartbeats 8000000 in
theorem rLex_calls (s : ByteArray) (w : World) : Calls Tryd.prog 16 #[.string s] w (LexT w (lexS s.data.toList)) := by
  have HSL := Lib.hid (show s.data.toList.length = s.size from (Lib.size_eq s).symm)
  by_cases h4 : 4096 < s.size
  · have HE := Lib.hid (show lexS s.data.toList = ([], 0, 3) by unfold lexS; rw [if_pos (by rw [HSL.out]; exact h4)])
    have g : (4096 : Int) < (s.size : Int) := by omega
    go_enter Tryd.func16, Tryd.ntmps16
    go_wp2
    refine bodyPost_ret (v := .tuple #[.slice none 0 0, .int .i64 0, .int .i64 3]) (by simp [results, Tryd.results16, go_sem]) rfl (lex_none HE.out (Below.refl _ _))
  · have hs : s.size ≤ 4096 := by omega
    have HE := Lib.hid (show lexS s.data.toList = toksS s.data.toList (s.size + 1) 0 by unfold lexS; rw [if_neg (by rw [HSL.out]; exact h4), HSL.out])
    have g : ¬ (4096 : Int) < (s.size : Int) := by omega
    obtain ⟨i0, hi, hz0, hz1, hz2⟩ := info_parts info_token
    have hmade := World.ownsRow_made (base := w.heap.size) (e := 35) (size := 7) w #[] 0 (Nat.le_refl _) (by unfold maxLen; omega) rfl
    have HMADE := Lib.hid hmade
    have hstart := run_start s.data.toList
    rw [HSL.out] at hstart
    have HST := Lib.hid hstart
    have HB0 := Lib.hid (show begS s.data.toList 0 = spaceLead s.data.toList by unfold begS; simp)
    have hR1 : Hid (∀ W, Calls Tryd.prog 23 #[.string s, .int .i64 0, .int .i64 1] W fun e w' => e = .returned (.int .i64 (begS s.data.toList 0)) ∧ w' = W) := Lib.hid fun W => by
      rw [HB0.out]; exact rRun1_calls s 0 W (by omega) (by omega)
    clear hmade hstart
    go_enter Tryd.func16, Tryd.ntmps16
    go_wp2_with fail
    refine (hR1.out _).mono ?_
    rintro e w0 ⟨rfl, hw0⟩
    obtain rfl := hw0.symm
    clear hw0
    go_wp2
    go_loopg [5, 6] (s.size + 1) (fun g v a wr => RLexR w s.data.toList g v a wr)
    case atStart => exact ⟨[], 0, rfl, HMADE.out, box_below _ _, HST.out, Nat.zero_le _, Nat.le_refl _, by rw [HSL.out]; omega⟩
    case round =>
      obtain ⟨W1, rfl⟩ : ∃ W1, W1 = wr := ⟨_, rfl⟩
      obtain ⟨T, p, rfl, hown, hbw, hrun, hpl, hTp, hfl⟩ := hrel
      rw [HSL.out] at hpl hfl
      obtain ⟨f, rfl⟩ : ∃ f, gk = f + 1 := ⟨gk - 1, by omega⟩
      have hT4 : T.length ≤ 4096 := by omega
      have hbl := begS_le (l := s.data.toList) (a := p) (by rw [HSL.out]; exact hpl)
      rw [HSL.out] at hbl
      have hnT := rNext_calls s (begS s.data.toList p) W1 (by omega) hbl
      unfold NextT at hnT
      rw [next_beg] at hnT
      have hrb := @run_bad s.data.toList T (f + 1) p hrun.out
      have hrw := @run_word s.data.toList T f p hrun.out
      have hre := @run_end s.data.toList T (f + 1) p hrun.out
      rw [HSL.out] at hrb hrw hre
      obtain ⟨v5, c5, rfl⟩ := row_slice hown
      by_cases hb : begS s.data.toList p = s.size
      · have HE' := Lib.hid (hre hb)
        have gb : ¬ ((begS s.data.toList p : Nat) : Int) < (s.size : Int) := by omega
        clear hnT hrb hrw hre hb hrun
        go_wp2
        refine bodyPost_ret (v := .tuple #[.slice v5 T.length c5, .int .i64 0, .int .i64 0]) (by simp [results, Tryd.results16, go_sem]) rfl ?_
        rw [HE.out]
        exact lex_all HE'.out hown hbw
      · obtain ⟨⟨wt, n⟩, hW⟩ : ∃ W, wordS (s.data.toList.drop (begS s.data.toList p)) = W := ⟨_, rfl⟩
        have gb : ((begS s.data.toList p : Nat) : Int) < (s.size : Int) := by omega
        by_cases hn : n = 0
        · have hq : nextS s.data.toList p = (noTok, 0, 2) := next_bad (by rw [HSL.out]; exact hb) (by rw [hW]; exact hn)
          rw [hq] at hnT
          have hE := hrb hb (by rw [hW]; exact hn)
          have HE' := Lib.hid hE
          have HN := Lib.hid hnT
          clear hnT hrb hrw hre hq hE hb hrun hW
          obtain ⟨b, hbe⟩ : ∃ b, begS s.data.toList p = b := ⟨_, rfl⟩
          rw [hbe] at HN HE' gb hbl ⊢
          clear hbe
          go_wp2_with fail
          refine HN.out.mono ?_
          rintro e w1 ⟨rfl, hb1⟩
          simp only [TokL.v, noTok, noTerm, bs_nil]
          have hbw1 := hbw.trans (hb1.mono hbw.size)
          have hz1' : w.heap.size ≤ w1.heap.size := hbw1.size
          clear hb1 hown hbw
          go_wp2
          refine bodyPost_ret (v := .tuple #[.slice none 0 0, .int .i64 b, .int .i64 2]) (by simp [results, Tryd.results16, go_sem]) rfl ?_
          rw [HE.out]
          exact lex_none HE'.out (hbw1.alloc hz1' _)
        · have hwn : ¬ (wordS (s.data.toList.drop (begS s.data.toList p))).2 = 0 := by rw [hW]; exact hn
          have hq := next_word (l := s.data.toList) (a := p) (by rw [HSL.out]; exact hb) hwn
          have hr := hrw hb hwn
          have hle := word_le (s.data.toList.drop (begS s.data.toList p))
          have hge := begS_ge s.data.toList p
          rw [List.length_drop, HSL.out] at hle
          rw [hq] at hnT hr
          rw [hW] at hnT hr hle
          dsimp only at hnT hr hle
          obtain ⟨b, hbe⟩ : ∃ b, begS s.data.toList p = b := ⟨_, rfl⟩
          rw [hbe] at hnT hr hle hbl hb hge gb ⊢
          obtain ⟨wk, wx, ⟨uk, ux, uy, uz⟩, wa⟩ := wt
          simp only [TokL.at] at hnT hr
          have hR := hr.1
          have HR := Lib.hid hR
          have HN := Lib.hid hnT
          have gT : (T.length : Int) < 4096 := by omega
          have hbn : b + n ≤ s.size := by omega
          have HBN := Lib.hid (show begS s.data.toList (b + n) = (b + n) + spaceLead (s.data.toList.drop (b + n)) from rfl)
          have hR2 : Hid (∀ W, Calls Tryd.prog 23 #[.string s, .int .i64 ((b : Int) + (n : Int)), .int .i64 1] W fun e w' => e = .returned (.int .i64 (spaceLead (s.data.toList.drop (b + n)))) ∧ w' = W) := Lib.hid fun W => by
            rw [show ((b : Int) + (n : Int)) = ((b + n : Nat) : Int) by omega]; exact rRun1_calls s (b + n) W (by omega) (by omega)
          have hsl := begS_le (l := s.data.toList) (a := b + n) (by rw [HSL.out]; exact hbn)
          rw [HBN.out, HSL.out] at hsl
          obtain ⟨q, hqq⟩ : ∃ q, spaceLead (s.data.toList.drop (b + n)) = q := ⟨_, rfl⟩
          rw [hqq] at HBN hR2 hsl
          clear hnT hrb hrw hre hq hr hR hbe hrun hW hwn hqq
          go_wp2_with fail
          refine HN.out.mono ?_
          rintro e w1 ⟨rfl, hb1⟩
          simp only [TokL.v]
          have hown1 := rowOn hown hb1
          have hbw1 := hbw.trans (hb1.mono hbw.size)
          have hz1' : w.heap.size ≤ w1.heap.size := hbw1.size
          clear hb1 hown hbw
          go_wp2_with (first | (go_at_call 23; refine (hR2.out _).mono ?_; rintro e wn ⟨rfl, hwn⟩; obtain rfl := hwn.symm; clear hwn) | (at_builtin; (refine wpList_append_own _ rfl (.tmp 35) (.tmp 37) 37 rfl w.heap.size 35 i0 noTok.v 7 88 Tryd.underlying37 hi hz0 hz1 hz2 rfl (by decide) _ _ _ rfl ((hown1.alloc _).alloc _) ⟨w1.heap.size + 1, 0, none⟩ 1 1 [.int .i64 wk, .string (bs wx), .int .i64 uk, .string (bs ux), .string (bs uy), .string (bs uz), .int .i64 b] rfl rfl (news7 _ _ _ _ _ _ _ _ _ (by simp)) (by intro u hu; simp at hu; rcases hu with rfl | rfl | rfl | rfl | rfl | rfl | rfl <;> rfl) (by unfold maxLen; omega) (by omega) (by simp; omega) ?_; intro v3 w3 hown4 hgrow4 hnil4; have HN4 := Lib.hid hnil4; clear hnil4; have HO4 := Lib.hid hown4; clear hown4; have HG4 := Lib.hid hgrow4; clear hgrow4)))
          go_roundg f
          case measure => omega
          case rel => exact ⟨T ++ [⟨wk, wx, ⟨uk, ux, uy, uz⟩, b⟩], b + n, by rw [HBN.out]; go_num, by rw [tokCells_append, List.length_append, tokCells_one]; exact HO4.out, ((hbw1.alloc hz1' _).alloc (by simp; omega) _).grown HG4.out (by simp; omega) (fun q hq => (hown1.lt q hq).1), HR, by rw [HSL.out]; omega, by rw [List.length_append, List.length_singleton]; omega, by rw [HSL.out]; omega⟩

end Go.Proofs.YtgkpdcjkobieiaaDoor
