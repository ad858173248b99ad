/- The next word of any text from any place on: the walk of the statement's function. -/
import Derived.Test.YtkejninogmphhaaDoorRefNext
import Derived.Test.YtkejninogmphhaaDoorLexAwake
namespace Go.Proofs.YtkejninogmphhaaDoor
open Go.RowKit

/- what a call of Next, by the program and by the document, leaves: the same word, place and error -/
def SameN (w : World) (t : TokL) (n r : Int) (e : Ending) (w' : World) : Prop := e = .returned (.tuple #[t.v, .int .i64 n, .int .i64 r]) ∧ Below w.heap.size w w'
theorem both_next (s : ByteArray) (a : Int) (hs : s.size ≤ 281474976710656) : ∃ (t : TokL) (n r : Int), (∀ W, Calls Tryd.prog 10 #[.string s, .int .i64 a] W (SameN W t n r)) ∧ (∀ W, Calls Tryd.prog 11 #[.string s, .int .i64 a] W (SameN W t n r)) := by
  by_cases h : a < 0 ∨ (s.size : Int) < a
  · exact ⟨noTok, 0, 2, fun W => Next_out s a W h, fun W => rNext_out s a W h⟩
  · obtain ⟨k, rfl⟩ := Int.eq_ofNat_of_zero_le (show 0 ≤ a by omega)
    have hk : k ≤ s.size := by omega
    exact ⟨(nextS s.data.toList k).1, (nextS s.data.toList k).2.1, (nextS s.data.toList k).2.2, fun W => Next_calls s k W hs hk, fun W => rNext_calls s k W hs hk⟩

set_option maxRecDepth 100000 in
set_option maxHeartbeats 4000000 in
theorem lexNexts_calls (s : ByteArray) (a : Int) (w : World) (hs : s.size ≤ 281474976710656) :
    Calls Tryd.prog 4 #[.string s, .int .i64 a] w fun e w' => e = .returned (.bool true) ∧ Below w.heap.size w w' := by
  obtain ⟨⟨tk, tx, ⟨uk, ux, uy, uz⟩, ta⟩, n, r, h1, h2⟩ := both_next s a hs
  have H1 := Lib.hid h1
  have H2 := Lib.hid h2
  clear h1 h2
  go_enter Tryd.func4, Tryd.ntmps4
  go_wp2_with fail
  refine (H1.out _).mono ?_
  rintro e w1 ⟨rfl, hb1⟩
  simp only [TokL.v]
  have hB1 := blk_new w1 32 #[.int .i64 tk, .string (bs tx), .int .i64 uk, .string (bs ux), .string (bs uy), .string (bs uz), .int .i64 ta]
  have hb1' := hb1.alloc hb1.size (.cells #[.int .i64 tk, .string (bs tx), .int .i64 uk, .string (bs ux), .string (bs uy), .string (bs uz), .int .i64 ta] 32)
  have hz := blk_lt hB1
  clear hb1
  go_wp2_with fail
  refine (H2.out _).mono ?_
  rintro e w2 ⟨rfl, hb2⟩
  simp only [TokL.v]
  have hB2 := blk_on hB1 hb2 hz
  have hz2 := blk_lt hB2
  have hb2' := hb1'.trans (hb2.mono hb1'.size)
  clear hB1 hb2 hb1' hz
  obtain ⟨q0, q1, q2, q3, q4, q5, q6⟩ := blk_cells7 hB2
  clear hB2
  go_wp2_with fail
  refine (awake_calls _).mono ?_
  rintro e w3 ⟨rfl, hb3⟩
  go_wp2
  go_ret
  exact ⟨by simp, step_below (hb2'.alloc hb2'.size _) hb3⟩

end Go.Proofs.YtkejninogmphhaaDoor
