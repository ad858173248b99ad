/- Two lists of words that are the same: the document's own answer tells so. -/
import Derived.Test.YtkejninogmphhaaDoorLexRows
import Derived.Deep.QuietTactic
import Derived.BigQuiet
namespace Go.Proofs.YtkejninogmphhaaDoor
open Go.RowKit

set_option maxRecDepth 100000 in
set_option maxHeartbeats 2000000 in
theorem lSame_calls (L : List TokL) (a b : Value) (w : World) (hl : L.length ≤ 1000000000000) (ha : Reads w a L.length (tokCells L)) (hb : Reads w b L.length (tokCells L)) :
    Calls Tryd.prog 8 #[a, b, .bool true] w fun e w' => e = .returned (.bool true) ∧ ∃ n, w' = w.drewN n := by
  obtain ⟨N, hN⟩ : ∃ N, L.length = N := ⟨_, rfl⟩
  have hcases : (N = 0 ∧ ∃ x y, a = .slice x 0 y ∧ ∃ x y, b = .slice x 0 y) ∨ ∃ g cap g' cap', a = .slice (some ⟨g, 0, none⟩) N cap ∧ b = .slice (some ⟨g', 0, none⟩) N cap' ∧ N ≤ cap ∧ N ≤ cap' ∧
      (∀ j (h : j < L.length), Cells7 w g j L[j]) ∧ (∀ j (h : j < L.length), Cells7 w g' j L[j]) := by
    rw [hN] at ha hb
    rcases ha with ⟨rfl, h0⟩ | ⟨g, cap, rfl, _, hn, hm, hc⟩
    · left; refine ⟨h0, none, 0, rfl, ?_⟩
      rcases hb with ⟨rfl, _⟩ | ⟨g, cap, rfl, _, hn, hm, hc⟩
      · exact ⟨none, 0, rfl⟩
      · exact ⟨_, cap, by rw [h0]⟩
    · rcases hb with ⟨rfl, h0⟩ | ⟨g', cap', rfl, _, hn', hm', hc'⟩
      · left; exact ⟨h0, _, cap, by rw [h0], none, 0, rfl⟩
      · right; exact ⟨g, cap, g', cap', rfl, rfl, hn, hn', fun j h => toks_cell hc j h, fun j h => toks_cell hc' j h⟩
  clear ha hb
  rcases hcases with ⟨h0, x, y, rfl, x', y', rfl⟩ | ⟨g, cap, g', cap', rfl, rfl, hn, hn', hc, hc'⟩
  · go_enter Tryd.func8, Tryd.ntmps8
    go_wp2
    go_loop [7] (fun i => i = .int .i64 0) (fun _ => 0)
    case atStart => rfl
    case round =>
      subst hrel
      go_wp2
      go_ret
      exact ⟨rfl, 0, rfl⟩
  · rw [hN] at hl
    have HN := Lib.hid hN
    have HC := Lib.hid hc
    have HC' := Lib.hid hc'
    clear hN hc hc'
    go_enter Tryd.func8, Tryd.ntmps8
    go_wp2
    go_loopw [7] (fun i wr => ∃ k n : Nat, k ≤ N ∧ i = .int .i64 k ∧ wr = w.drewN n) (fun i _ => N - (intOf i).toNat)
    case atStart => exact ⟨0, 0, Nat.zero_le _, rfl, rfl⟩
    case round =>
      obtain ⟨k, n, hk, rfl, rfl⟩ := hrel
      by_cases hlt : k < N
      · have hlt' : k < L.length := by rw [HN.out]; exact hlt
        obtain ⟨c0, c1, c2, c3, c4, c5, c6⟩ := HC.out k hlt'
        obtain ⟨d0, d1, d2, d3, d4, d5, d6⟩ := HC'.out k hlt'
        generalize L[k] = t at c0 c1 c2 c3 c4 c5 c6 d0 d1 d2 d3 d4 d5 d6
        obtain ⟨tk, tx, ⟨uk, ux, uy, uz⟩, ta⟩ := t
        dsimp only at c0 c1 c2 c3 c4 c5 c6 d0 d1 d2 d3 d4 d5 d6
        have g1 : (0 : Int) ≤ (k : Int) := by omega
        have g2 : (k : Int) < (N : Int) := by omega
        go_wp2
        go_quiet (fail)
        go_wp2
        exact ⟨⟨k + 1, _, by omega, by go_num, rfl⟩, by simp [intOf]; omega⟩
      · go_wp2
        go_ret
        exact ⟨rfl, n, rfl⟩

end Go.Proofs.YtkejninogmphhaaDoor
