/- Places rise, and between words there is nothing but blanks: the walk of the statement's function, for every text. -/
import Derived.Test.YtkejninogmphhaaDoorRefRun
import Derived.Test.YtkejninogmphhaaDoorLexAwake
import Derived.Deep.QuietTactic
import Derived.BigQuiet
import Derived.IntWalk
namespace Go.Proofs.YtkejninogmphhaaDoor
open Go.RowKit

theorem toks_cons {l : List UInt8} {f p : Nat} {t : TokL} {U : List TokL} (h : toksS l f p = (t :: U, 0, 0)) :
    ∃ g, f = g + 1 ∧ ¬ begS l p = l.length ∧ ¬ (wordS (l.drop (begS l p))).2 = 0 ∧ t = (wordS (l.drop (begS l p))).1.at (begS l p) ∧ toksS l g (begS l p + (wordS (l.drop (begS l p))).2) = (U, 0, 0) := by
  cases f with
  | zero => unfold toksS at h; cases h
  | succ g =>
    refine ⟨g, rfl, ?_⟩
    unfold toksS at h
    split at h
    · cases h
    · rename_i h0
      split at h
      · cases h
      · rename_i h1
        have hw : ¬ (wordS (l.drop (begS l p))).2 = 0 := fun c => h0 (by rw [next_bad h1 c]; decide)
        rw [next_word h1 hw] at h
        dsimp only at h
        split at h
        · rename_i h2
          simp only [Prod.mk.injEq, List.cons.injEq, and_true] at h
          refine ⟨h1, hw, h.1.symm, ?_⟩
          have h3 : (toksS l g (begS l p + (wordS (l.drop (begS l p))).2)).1 = U := h.2
          rcases hq : toksS l g (begS l p + (wordS (l.drop (begS l p))).2) with ⟨a, b, c⟩
          rw [hq] at h2 h3
          dsimp only at h2 h3
          subst h2 h3
          have hz : b = 0 := by
            cases g with
            | zero => unfold toksS at hq; cases hq; rfl
            | succ g =>
              unfold toksS at hq
              split at hq
              · simp at hq
              · split at hq
                · cases hq; rfl
                · split at hq
                  · cases hq; rfl
                  · simp at hq
          rw [hz]
        · cases h
theorem toks_nil {l : List UInt8} {f p : Nat} (h : toksS l f p = ([], 0, 0)) (hf : l.length - p < f) : begS l p = l.length := by
  obtain ⟨g, rfl⟩ : ∃ g, f = g + 1 := ⟨f - 1, by omega⟩
  unfold toksS at h
  split at h
  · simp at h
  · split at h
    · assumption
    · split at h
      · simp at h
      · simp at h

theorem lexS_length (l : List UInt8) : (lexS l).1.length ≤ 4096 := by
  have key : ∀ f a, a ≤ l.length → (toksS l f a).1.length ≤ l.length - a := by
    intro f
    induction f with
    | zero => intro a _; exact Nat.zero_le _
    | succ f ih =>
      intro a ha
      unfold toksS
      split
      · exact Nat.zero_le _
      · split
        · exact Nat.zero_le _
        · rename_i h0 h1
          split
          · have hb := begS_le ha
            have hg := begS_ge l a
            have hl := word_le (l.drop (begS l a))
            rw [List.length_drop] at hl
            have hw : ¬ (wordS (l.drop (begS l a))).2 = 0 := fun c => h0 (by rw [next_bad h1 c]; decide)
            have e : (nextS l a).2.1 = begS l a + (wordS (l.drop (begS l a))).2 := by rw [next_word h1 hw]
            have := ih (nextS l a).2.1 (by rw [e]; omega)
            dsimp only
            rw [List.length_cons]; omega
          · exact Nat.zero_le _
  unfold lexS
  split
  · exact Nat.zero_le _
  · have := key (l.length + 1) 0 (Nat.zero_le _); omega

/- what a round keeps: how many words are seen, the place -/
def PlacesR (w : World) (l : List UInt8) (L : List TokL) (v : Value) (f : Nat) (a i : Value) (wr : World) : Prop :=
  ∃ p k : Nat, a = .int .i64 p ∧ i = .int .i64 k ∧ k ≤ L.length ∧ p ≤ l.length ∧ Hid (toksS l f p = (L.drop k, 0, 0)) ∧ l.length - p < f ∧ Reads wr v L.length (tokCells L) ∧ Below w.heap.size w wr

set_option maxRecDepth 100000 in
set_option maxHeartbeats 8000000 in
theorem lexPlaces_calls (s : ByteArray) (w : World) :
    Calls Tryd.prog 5 #[.string s] w fun e w' => e = .returned (.bool true) ∧ Below w.heap.size w w' := by
  have HSL := Lib.hid (show s.data.toList.length = s.size from (Lib.size_eq s).symm)
  have hcase : (∃ (n : Nat) (r : Int), lexS s.data.toList = ([], n, r) ∧ ¬ r = 0) ∨ (s.size ≤ 4096 ∧ ∃ L, lexS s.data.toList = (L, 0, 0) ∧ toksS s.data.toList (s.size + 1) 0 = (L, 0, 0)) := by
    have hst := (run_start s.data.toList).2.2.2
    rw [HSL.out] at hst
    unfold lexS
    rw [HSL.out]
    by_cases h4 : 4096 < s.size
    · rw [if_pos h4]; exact .inl ⟨0, 3, rfl, by decide⟩
    · rw [if_neg h4]
      rcases toksS_err s.data.toList (s.size + 1) 0 with h | h
      · rw [if_pos h, List.nil_append] at hst
        exact .inr ⟨by omega, _, hst, hst⟩
      · rw [if_neg (by rw [h]; decide)] at hst
        exact .inl ⟨_, 2, hst, by decide⟩
  rcases hcase with ⟨n, r, hq, hr⟩ | ⟨h4, L, hq, ht⟩
  · have HQ := Lib.hid hq
    have gr : (r == 0) = false := beq_eq_false_iff_ne.2 hr
    have gr' : (r != 0) = true := by simp [bne, gr]
    clear hq hr
    go_enter Tryd.func5, Tryd.ntmps5
    go_wp2_with fail
    refine (Lex_calls s _).mono ?_
    rintro e w1 ⟨v, rfl, hown, hb⟩
    rw [HQ.out] at hown ⊢
    dsimp only at hown ⊢
    obtain ⟨x, c, rfl⟩ := row_slice hown
    clear hown
    go_wp2_with fail
    refine (awake_calls _).mono ?_
    rintro e w2 ⟨rfl, hb2⟩
    go_wp2
    go_ret
    exact ⟨rfl, step_below hb hb2⟩
  · have HQ := Lib.hid hq
    have HT := Lib.hid ht
    clear hq ht
    go_enter Tryd.func5, Tryd.ntmps5
    go_wp2_with fail
    refine (Lex_calls s _).mono ?_
    rintro e w1 ⟨v, rfl, hown, hb⟩
    rw [HQ.out] at hown ⊢
    dsimp only at hown ⊢
    obtain ⟨x, c, rfl⟩ := row_slice hown
    have hrd := reads_of hown
    clear hown
    have hN4 : L.length ≤ 4096 := by
      have := lexS_length s.data.toList
      rw [HQ.out] at this; exact this
    obtain ⟨N, hN⟩ : ∃ N, L.length = N := ⟨_, rfl⟩
    have HN := Lib.hid hN
    rw [hN] at hN4
    have HRD := Lib.hid hrd
    rw [show (Value.slice x (↑L.length) c) = Value.slice x (↑N) c by rw [hN]]
    clear hN hrd
    go_wp2
    go_loopg [6, 7] (s.size + 1) (fun g a i wr => PlacesR w s.data.toList L (.slice x (↑L.length) c) g a i wr)
    case atStart => exact ⟨0, 0, rfl, rfl, Nat.zero_le _, Nat.zero_le _, HT.out, by rw [HSL.out]; omega, HRD.out, hb⟩
    case round =>
      obtain ⟨W1, rfl⟩ : ∃ W1, W1 = wr := ⟨_, rfl⟩
      obtain ⟨p, k, rfl, rfl, hk, hp, hto, hpf, hrd, hbw⟩ := hrel
      rw [HN.out] at hk
      rw [HSL.out] at hp hpf
      by_cases hlt : k < N
      · have hkL : k < L.length := by rw [HN.out]; exact hlt
        have hto' := hto.out
        rw [List.drop_eq_getElem_cons hkL] at hto'
        obtain ⟨f, rfl, hb0, hw0, htk, hnx⟩ := toks_cons hto'
        have hnT := Next_calls s p W1 (by omega) hp
        unfold NextT at hnT
        rw [next_word hb0 hw0] at hnT
        have hle := word_le (s.data.toList.drop (begS s.data.toList p))
        have hbl := begS_le (l := s.data.toList) (a := p) (by rw [HSL.out]; exact hp)
        rw [List.length_drop, HSL.out] at hle
        rw [HSL.out] at hbl
        have hbe : begS s.data.toList p = p + spaceLead (s.data.toList.drop p) := rfl
        have hR1 : Hid (∀ W, Calls Tryd.prog 12 #[.string s, .int .i64 p, .int .i64 1] W fun e w' => e = .returned (.int .i64 (spaceLead (s.data.toList.drop p))) ∧ w' = W) := Lib.hid fun W => rRun1_calls s p W (by omega) (by omega)
        obtain ⟨q, hq⟩ : ∃ q, spaceLead (s.data.toList.drop p) = q := ⟨_, rfl⟩
        rw [hq] at hbe hR1
        rw [hbe] at hnT hle hbl htk hnx hw0
        obtain ⟨⟨⟨tk, tx, ⟨uk, ux, uy, uz⟩, ta⟩, n⟩, hW⟩ : ∃ W, wordS (s.data.toList.drop (p + q)) = W := ⟨_, rfl⟩
        rw [hW] at hnT hle htk hnx hw0
        simp only [TokL.at] at hnT htk hle hnx hw0
        rcases hrd with ⟨_, h0⟩ | ⟨g, cap, hv, hg, hn, hm, hc⟩
        · rw [HN.out] at h0; omega
        · have hrd' : Reads W1 (.slice x (↑L.length) c) L.length (tokCells L) := .inr ⟨g, cap, hv, hg, hn, hm, hc⟩
          have HRD' := Lib.hid hrd'
          simp only [Value.slice.injEq] at hv
          obtain ⟨rfl, _, rfl⟩ := hv
          obtain ⟨B, hB⟩ : ∃ B : Int, ((p + q : Nat) : Int) = B := ⟨_, rfl⟩
          obtain ⟨M, hM⟩ : ∃ M : Int, ((p + q + n : Nat) : Int) = M := ⟨_, rfl⟩
          have hce := toks_cell hc k hkL
          rw [htk, hB] at hce
          obtain ⟨d0, d1, d2, d3, d4, d5, d6⟩ := hce
          rw [hB, hM] at hnT
          have HNT := Lib.hid hnT
          have HM := Lib.hid hM
          have HNX := Lib.hid hnx
          rw [HN.out] at hn
          have hb1 : (p : Int) + (q : Int) = B := by omega
          have w1 : IntKind.i64.wrap ((p : Int) + (q : Int)) = B := by rw [IntWalk.i64_in _ (by omega)]; exact hb1
          have g1 : decide (B < (p : Int)) = false := decide_eq_false (by omega)
          have g2 : decide (M ≤ B) = false := decide_eq_false (by omega)
          have g3 : decide ((s.size : Int) < M) = false := decide_eq_false (by omega)
          have gk0 : (0 : Int) ≤ (k : Int) := by omega
          have gk1 : (k : Int) < (N : Int) := by omega
          have hMs : (p + q + n : Nat) ≤ s.size := by omega
          have hMf : s.size - (p + q + n) < f := by omega
          have HW1 := Lib.hid w1
          have HG := Lib.hid (And.intro g1 (And.intro g2 g3))
          clear hnT hnx htk hB hM hb1 w1 g1 g2 g3 hb0 hw0 hto hto' hW hrd' hc hq hle hbe hbl
          go_wp2_with fail
          refine HNT.out.mono ?_
          rintro e w2 ⟨rfl, hb2⟩
          simp only [TokL.v]
          have hz2 : g < w2.heap.size := Nat.lt_of_lt_of_le hg hb2.size
          have hz3 : ¬ g = w2.heap.size := by omega
          have kc : ∀ i u, W1.cell? ⟨g, i, none⟩ = some u → w2.cell? ⟨g, i, none⟩ = some u := fun i u h => by rw [hb2.cell (p := ⟨g, i, none⟩) hg]; exact h
          have e0 := kc _ _ d0
          have e1 := kc _ _ d1
          have e2 := kc _ _ d2
          have e3 := kc _ _ d3
          have e4 := kc _ _ d4
          have e5 := kc _ _ d5
          have e6 := kc _ _ d6
          have hrd2 := HRD'.out.on hb2
          have HRD2 := Lib.hid hrd2
          have hbw2 := hbw.trans (hb2.mono hbw.size)
          have hz4 : w.heap.size ≤ w2.heap.size := hbw2.size
          clear d0 d1 d2 d3 d4 d5 d6 kc hrd2 hb2 hbw
          go_wp2
          have w1 := HW1.out
          obtain ⟨g1, g2, g3⟩ := HG.out
          go_quiet ((go_at_call 12; exact Calls.quiet_of_same (hR1.out _)))
          clear w1 g1 g2 g3
          go_wp2
          go_roundg f
          case measure => omega
          case rel => exact ⟨p + q + n, k + 1, by rw [HM.out], by go_num, by rw [HN.out]; omega, by rw [HSL.out]; exact hMs, HNX, by rw [HSL.out]; exact hMf, Reads.on (HRD2.out.on (box_below _ _)) (draws_below (Below.refl _ _) _), draws_below (hbw2.alloc hz4 _) _⟩
      · have hk2 : k = N := by omega
        have hto' := hto.out
        rw [List.drop_eq_nil_of_le (by rw [HN.out]; omega)] at hto'
        have hbe := toks_nil hto' (by rw [HSL.out]; exact hpf)
        have hbe2 : begS s.data.toList p = p + spaceLead (s.data.toList.drop p) := rfl
        have hR1 : Hid (∀ W, Calls Tryd.prog 12 #[.string s, .int .i64 p, .int .i64 1] W fun e w' => e = .returned (.int .i64 (spaceLead (s.data.toList.drop p))) ∧ w' = W) := Lib.hid fun W => rRun1_calls s p W (by omega) (by omega)
        obtain ⟨q, hq⟩ : ∃ q, spaceLead (s.data.toList.drop p) = q := ⟨_, rfl⟩
        rw [hq] at hbe2 hR1
        rw [hbe2, HSL.out] at hbe
        have gq : ((q : Int) == (s.size : Int) - (p : Int)) = true := beq_iff_eq.2 (by omega)
        subst hk2
        clear hto hto' hbe hbe2 hq hrd hlt
        go_wp2_with fail
        refine (hR1.out _).mono ?_
        rintro e wn ⟨rfl, hwn⟩
        obtain rfl := hwn.symm
        clear hwn
        go_wp2_with fail
        refine (awake_calls _).mono ?_
        rintro e w3 ⟨rfl, hb3⟩
        go_wp2
        go_ret
        exact ⟨rfl, step_below hbw hb3⟩

end Go.Proofs.YtkejninogmphhaaDoor
