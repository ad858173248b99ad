/- All words of a text: package lex's words and Lex, for every text. -/
import Derived.Test.YtkejninogmphhaaDoorLexRows
namespace Go.Proofs.YtkejninogmphhaaDoor
open Go.RowKit

/- what a round keeps: the words so far, the place -/
def WordsR (w : World) (l : List UInt8) (f : Nat) (v a c b : Value) (wr : World) : Prop :=
  ∃ (T : List TokL) (p : Nat), a = .int .i64 p ∧ c = .int .i64 T.length ∧ b = .int .i64 0 ∧ wr.ownsRow w.heap.size 32 7 v T.length (tokCells T) ∧ Below w.heap.size w wr ∧ Hid (Run5 l T f p) ∧ p ≤ l.length ∧ T.length ≤ p ∧ l.length - p < f

set_option maxRecDepth 100000 in
set_option maxHeartbeats 8000000 in
theorem words_calls (s : ByteArray) (w : World) (hs : s.size ≤ 4096) : Calls Tryd.prog 13 #[.string s, .int .i64 4096] w (LexT w (toksS s.data.toList (s.size + 1) 0)) := by
  obtain ⟨i0, hi, hz0, hz1, hz2⟩ := info_parts info_token
  have HSL := Lib.hid (show s.data.toList.length = s.size from (Lib.size_eq s).symm)
  have hstart := run_start s.data.toList
  rw [HSL.out] at hstart
  have HST := Lib.hid hstart
  clear hstart
  go_enter Tryd.func13, Tryd.ntmps13
  go_wp2
  go_step3
  go_wp2
  go_step3
  go_wp2
  go_loopg [7, 8, 9, 10] (s.size + 1) (fun g l a c b wr => WordsR w s.data.toList g l a c b wr)
  case atStart => exact ⟨[], 0, rfl, rfl, rfl, World.ownsRow_nil _ _ _ _, Below.refl _ _, HST.out, Nat.zero_le _, Nat.le_refl _, by rw [HSL.out]; omega⟩
  case round =>
    obtain ⟨W1, rfl⟩ : ∃ W1, W1 = wr := ⟨_, rfl⟩
    obtain ⟨T, p, rfl, rfl, rfl, hown, hbw, hrun, hpl, hTp, hfl⟩ := hrel
    rw [HSL.out] at hpl hfl
    obtain ⟨f, rfl⟩ : ∃ f, gk = f + 1 := ⟨gk - 1, by omega⟩
    have hT4 : T.length ≤ 4096 := by omega
    have hbl := begS_le (l := s.data.toList) (a := p) (by rw [HSL.out]; exact hpl)
    rw [HSL.out] at hbl
    have hnT := Next_calls s p W1 (by omega) hpl
    unfold NextT at hnT
    have hrb := @run_bad s.data.toList T (f + 1) p hrun.out
    have hrw := @run_word s.data.toList T f p hrun.out
    have hre := @run_end s.data.toList T (f + 1) p hrun.out
    rw [HSL.out] at hrb hrw hre
    by_cases hb : begS s.data.toList p = s.size
    · have hq : nextS s.data.toList p = (noTok, s.size, 0) := by rw [next_end (by rw [HSL.out]; exact hb), HSL.out]
      rw [hq] at hnT
      have HE := Lib.hid (hre hb)
      have HN := Lib.hid hnT
      clear hnT hrb hrw hre hq hb hrun
      go_wp2_with fail
      refine HN.out.mono ?_
      rintro e w1 ⟨rfl, hb1⟩
      simp only [TokL.v, noTok, noTerm, bs_nil]
      have hown1 := rowOn hown hb1
      have hbw1 := hbw.trans (hb1.mono hbw.size)
      have hz1' : w.heap.size ≤ w1.heap.size := hbw1.size
      clear hb1 hown hbw
      go_wp2
      rw [Exit.noGoto_ret]
      refine bodyPost_ret (by simp [results, Tryd.results13, go_sem]) rfl (lex_all HE.out (hown1.alloc _) (hbw1.alloc hz1' _))
    · obtain ⟨⟨wt, n⟩, hW⟩ : ∃ W, wordS (s.data.toList.drop (begS s.data.toList p)) = W := ⟨_, rfl⟩
      by_cases hn : n = 0
      · have hq : nextS s.data.toList p = (noTok, 0, 2) := next_bad (by rw [HSL.out]; exact hb) (by rw [hW]; exact hn)
        rw [hq] at hnT
        have hE := hrb hb (by rw [hW]; exact hn)
        have HBG : Hid (∀ W, Calls Tryd.prog 14 #[.string s, .int .i64 p] W fun e w' => e = .returned (.int .i64 (begS s.data.toList p)) ∧ Below W.heap.size W w') := Lib.hid fun W => begin_calls s p W (by unfold maxLen; omega) hpl
        have HE := Lib.hid hE
        have HN := Lib.hid hnT
        clear hnT hrb hrw hre hq hE hb hrun hW
        go_wp2_with fail
        refine HN.out.mono ?_
        rintro e w1 ⟨rfl, hb1⟩
        simp only [TokL.v, noTok, noTerm, bs_nil]
        have hbw1 := hbw.trans (hb1.mono hbw.size)
        have hz1' : w.heap.size ≤ w1.heap.size := hbw1.size
        have hbw2 := hbw1.alloc hz1' (.cells #[.int .i64 0, .string ⟨#[]⟩, .int .i64 0, .string ⟨#[]⟩, .string ⟨#[]⟩, .string ⟨#[]⟩, .int .i64 0] 32)
        clear hb1 hown hbw hbw1
        go_wp2_with fail
        refine (HBG.out _).mono ?_
        rintro e w2 ⟨rfl, hb2⟩
        go_wp2
        rw [Exit.noGoto_ret]
        refine bodyPost_ret (v := .tuple #[.slice none 0 0, .int .i64 (begS s.data.toList p), .int .i64 2]) (by simp [results, Tryd.results13, go_sem]) rfl (lex_none HE.out (hbw2.trans (hb2.mono hbw2.size)))
      · have hwn : ¬ (wordS (s.data.toList.drop (begS s.data.toList p))).2 = 0 := by rw [hW]; exact hn
        have hq := next_word (l := s.data.toList) (a := p) (by rw [HSL.out]; exact hb) hwn
        have hk := word_kind _ hwn
        have hr := hrw hb hwn
        have hle := word_le (s.data.toList.drop (begS s.data.toList p))
        have hge := begS_ge s.data.toList p
        rw [List.length_drop, HSL.out] at hle
        rw [hq] at hnT hr
        rw [hW] at hnT hr hk hle
        dsimp only at hnT hr hk hle
        obtain ⟨b, hbe⟩ : ∃ b, begS s.data.toList p = b := ⟨_, rfl⟩
        rw [hbe] at hnT hr hle hbl hb hge
        obtain ⟨wk, wx, ⟨uk, ux, uy, uz⟩, wa⟩ := wt
        simp only [TokL.at] at hnT hr
        dsimp only at hk
        have hR := hr.1
        have HR := Lib.hid hR
        have HN := Lib.hid hnT
        have gk : (wk == 0) = false := beq_eq_false_iff_ne.2 (by omega)
        clear hnT hrb hrw hre hq hr hR hbe hrun hW hwn hk
        have gT : (T.length : Int) < 4096 := by omega
        go_wp2_with fail
        refine HN.out.mono ?_
        rintro e w1 ⟨rfl, hb1⟩
        simp only [TokL.v]
        have hown1 := rowOn hown hb1
        have hbw1 := hbw.trans (hb1.mono hbw.size)
        have hz1' : w.heap.size ≤ w1.heap.size := hbw1.size
        have hTl : T.length ≤ 4096 := hT4
        clear hb1 hown hbw
        go_wp2_with (at_builtin; go_must (refine wpList_append_own _ rfl (.tmp 38) (.tmp 40) 22 rfl w.heap.size 32 i0 noTok.v 7 88 Tryd.underlying22 hi hz0 hz1 hz2 rfl (by decide) _ _ _ rfl ((hown1.alloc _).alloc _) ⟨w1.heap.size + 1, 0, none⟩ 1 1 [.int .i64 wk, .string (bs wx), .int .i64 uk, .string (bs ux), .string (bs uy), .string (bs uz), .int .i64 b] rfl rfl (news7 _ _ _ _ _ _ _ _ _ (by simp)) (by intro u hu; simp at hu; rcases hu with rfl | rfl | rfl | rfl | rfl | rfl | rfl <;> rfl) (by unfold maxLen; omega) (by omega) (by simp; omega) ?_; intro v3 w3 hown4 hgrow4 hnil4; have HN4 := Lib.hid hnil4; clear hnil4; have HO4 := Lib.hid hown4; clear hown4; have HG4 := Lib.hid hgrow4; clear hgrow4))
        go_roundg f
        case measure => omega
        case rel => exact ⟨T ++ [⟨wk, wx, ⟨uk, ux, uy, uz⟩, b⟩], b + n, by go_num, by rw [List.length_append, List.length_singleton]; go_num, rfl, by rw [tokCells_append, List.length_append, tokCells_one]; exact HO4.out, ((hbw1.alloc hz1' _).alloc (by simp; omega) _).grown HG4.out (by simp; omega) (fun q hq => (hown1.lt q hq).1), HR, by rw [HSL.out]; omega, by rw [List.length_append, List.length_singleton]; omega, by rw [HSL.out]; omega⟩

set_option maxRecDepth 100000 in
set_option maxHeartbeats 4000000 in
theorem Lex_calls (s : ByteArray) (w : World) : Calls Tryd.prog 6 #[.string s] w (LexT w (lexS s.data.toList)) := by
  have HSL := Lib.hid (show s.data.toList.length = s.size from (Lib.size_eq s).symm)
  by_cases h : 4096 < s.size
  · have HE := Lib.hid (show lexS s.data.toList = ([], 0, 3) by unfold lexS; rw [if_pos (by rw [HSL.out]; exact h)])
    have g : (4096 : Int) < (s.size : Int) := by omega
    go_enter Tryd.func6, Tryd.ntmps6
    go_wp2
    refine bodyPost_ret (v := .tuple #[.slice none 0 0, .int .i64 0, .int .i64 3]) (by simp [results, Tryd.results6, go_sem]) rfl (lex_none HE.out (Below.refl _ _))
  · have HE := Lib.hid (show lexS s.data.toList = toksS s.data.toList (s.size + 1) 0 by unfold lexS; rw [if_neg (by rw [HSL.out]; exact h), HSL.out])
    have g : ¬ (4096 : Int) < (s.size : Int) := by omega
    go_enter Tryd.func6, Tryd.ntmps6
    go_wp2_with fail
    refine (words_calls s _ (by omega)).mono ?_
    rintro e w1 ⟨v, rfl, hown, hb⟩
    go_wp2
    refine bodyPost_ret (v := .tuple #[v, .int .i64 (toksS s.data.toList (s.size + 1) 0).2.1, .int .i64 (toksS s.data.toList (s.size + 1) 0).2.2]) (by simp [results, Tryd.results6, go_sem]) rfl ?_
    rw [HE.out]
    exact ⟨v, rfl, hown, hb⟩

end Go.Proofs.YtkejninogmphhaaDoor
