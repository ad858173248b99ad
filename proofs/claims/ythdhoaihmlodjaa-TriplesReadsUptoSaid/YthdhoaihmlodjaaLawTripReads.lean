/- The triples of any text of at most 2^20 bytes, or which line is none's: the walk of the statement's function. -/
import Derived.Test.YthdhoaihmlodjaaRefTRead
import Derived.Test.YthdhoaihmlodjaaTripAwake
import Derived.Test.YthdhoaihmlodjaaTripJoinPlain
import Derived.Test.YthdhoaihmlodjaaRefSame
namespace Go.Proofs.Ythdhoaihmlodjaa
open Go.RowKit

theorem step_below {w w1 w2 : World} (h : Below w.heap.size w w1) (h2 : Below w1.heap.size w1 w2) : Below w.heap.size w w2 := h.trans (h2.mono h.size)
theorem draws_below {B : Nat} {a w : World} (h : Below B a w) (n : Nat) : Below B a (w.drewN n) := ⟨h.os, h.tape, h.output, h.size, h.block⟩

set_option maxRecDepth 100000 in
set_option maxHeartbeats 4000000 in
theorem triplesReads_calls (s : ByteArray) (w : World) (hs : s.size ≤ 1048576) :
    Calls Try.prog 4 #[.string s] w fun e w' => e = .returned (.bool true) ∧ Below w.heap.size w w' := by
  have hlen := ans_length s.data.toList
  obtain ⟨⟨L, n, r⟩, ha⟩ : ∃ q, ansS s.data.toList = q := ⟨_, rfl⟩
  rw [ha] at hlen
  dsimp only at hlen
  have HA := Lib.hid ha
  clear ha
  go_enter Try.func4, Try.ntmps4
  go_wp2_with fail
  refine (tRead_calls s _ (by omega)).mono ?_
  rintro e w1 ⟨v1, rfl, hown1, hb1⟩
  rw [HA.out] at hown1 ⊢
  dsimp only at hown1 ⊢
  go_wp2_with fail
  refine (rtRead_calls s _ hs).mono ?_
  rintro e w2 ⟨v2, rfl, hown2, hb2⟩
  rw [HA.out] at hown2 ⊢
  dsimp only at hown2 ⊢
  have hbb := step_below hb1 hb2
  replace hown1 := rowOn hown1 hb2
  clear hb1 hb2
  go_wp2_with fail
  refine (Same_calls L v1 v2 _ (by omega) (reads_of hown1) (reads_of hown2)).mono ?_
  rintro e w3 ⟨rfl, nn, hw3⟩
  have hb3 : Below w.heap.size w w3 := by rw [hw3]; exact draws_below hbb nn
  clear hw3 hown1 hown2 hbb
  go_wp2_with fail
  refine (awake_calls _).mono ?_
  rintro e w4 ⟨rfl, hb4⟩
  go_wp2
  go_ret
  exact ⟨by simp, step_below hb3 hb4⟩

end Go.Proofs.Ythdhoaihmlodjaa
