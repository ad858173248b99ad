/- The words of any text, or where there is none: the walk of the statement's function. -/
import Derived.Test.YtkejninogmphhaaDoorRefLex
import Derived.Test.YtkejninogmphhaaDoorLexAwake
import Derived.Test.YtkejninogmphhaaDoorRefLexSame
namespace Go.Proofs.YtkejninogmphhaaDoor
open Go.RowKit

theorem lexS_length (l : List UInt8) : (lexS l).1.length ≤ 4096 := by
  have key : ∀ f a, a ≤ l.length → (toksS l f a).1.length ≤ l.length - a := by
    intro f
    induction f with
    | zero => intro a _; exact Nat.zero_le _
    | succ f ih =>
      intro a ha
      unfold toksS
      split
      · exact Nat.zero_le _
      · split
        · exact Nat.zero_le _
        · rename_i h0 h1
          split
          · have hb := begS_le ha
            have hg := begS_ge l a
            have hl := word_le (l.drop (begS l a))
            rw [List.length_drop] at hl
            have hw : ¬ (wordS (l.drop (begS l a))).2 = 0 := fun c => h0 (by rw [next_bad h1 c]; decide)
            have e : (nextS l a).2.1 = begS l a + (wordS (l.drop (begS l a))).2 := by rw [next_word h1 hw]
            have := ih (nextS l a).2.1 (by rw [e]; omega)
            dsimp only
            rw [List.length_cons]; omega
          · exact Nat.zero_le _
  unfold lexS
  split
  · exact Nat.zero_le _
  · have := key (l.length + 1) 0 (Nat.zero_le _); omega

set_option maxRecDepth 100000 in
set_option maxHeartbeats 4000000 in
theorem lexLexes_calls (s : ByteArray) (w : World) :
    Calls Tryd.prog 3 #[.string s] w fun e w' => e = .returned (.bool true) ∧ Below w.heap.size w w' := by
  have hlen := lexS_length s.data.toList
  obtain ⟨⟨L, n, r⟩, ha⟩ : ∃ q, lexS s.data.toList = q := ⟨_, rfl⟩
  rw [ha] at hlen
  dsimp only at hlen
  have HA := Lib.hid ha
  clear ha
  go_enter Tryd.func3, Tryd.ntmps3
  go_wp2_with fail
  refine (Lex_calls s _).mono ?_
  rintro e w1 ⟨v1, rfl, hown1, hb1⟩
  rw [HA.out] at hown1 ⊢
  dsimp only at hown1 ⊢
  go_wp2_with fail
  refine (rLex_calls s _).mono ?_
  rintro e w2 ⟨v2, rfl, hown2, hb2⟩
  rw [HA.out] at hown2 ⊢
  dsimp only at hown2 ⊢
  have hbb := step_below hb1 hb2
  replace hown1 := rowOn hown1 hb2
  clear hb1 hb2
  go_wp2_with fail
  refine (lSame_calls L v1 v2 _ (by omega) (reads_of hown1) (reads_of hown2)).mono ?_
  rintro e w3 ⟨rfl, nn, hw3⟩
  have hb3 : Below w.heap.size w w3 := by rw [hw3]; exact draws_below hbb nn
  clear hw3 hown1 hown2 hbb
  go_wp2_with fail
  refine (awake_calls _).mono ?_
  rintro e w4 ⟨rfl, hb4⟩
  go_wp2
  go_ret
  exact ⟨by simp, step_below hb3 hb4⟩

end Go.Proofs.YtkejninogmphhaaDoor
