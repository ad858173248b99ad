
/- The word that a text begins with: package lex's word, for every text. -/
import Derived.Test.YtgkpdcjkobieiaaDoorLexBlk
namespace Go.Proofs.YtgkpdcjkobieiaaDoor
open Go.RowKit

def WordT (w : World) (l : List UInt8) (e : Ending) (w' : World) : Prop := e = .returned (.tuple #[(wordS l).1.v, .int .i64 (wordS l).2]) ∧ Below w.heap.size w w'
theorem word_term {l : List UInt8} (h : 0 < (prefixS l).2) : wordS l = (termTok (prefixS l).1, (prefixS l).2) := by unfold wordS; rw [if_pos h]
theorem word_letters {l : List UInt8} (h : ¬ 0 < (prefixS l).2) (h2 : 0 < letterLead l) : wordS l = (⟨1, l.take (letterLead l), noTerm, 0⟩, letterLead l) := by unfold wordS; rw [if_neg h, if_pos h2]
theorem word_digits {l : List UInt8} (h : ¬ 0 < (prefixS l).2) (h2 : ¬ 0 < letterLead l) (h3 : 0 < digitLead l) : wordS l = digitsS l (digitLead l) := by unfold wordS; rw [if_neg h, if_neg h2, if_pos h3]
theorem word_sign {l : List UInt8} (h : ¬ 0 < (prefixS l).2) (h2 : ¬ 0 < letterLead l) (h3 : ¬ 0 < digitLead l) : wordS l = if signT l = [] then (noTok, 0) else (⟨5, signT l, noTerm, 0⟩, (signT l).length) := by
  unfold wordS
  rw [if_neg h, if_neg h2, if_neg h3]
  obtain ⟨h4, h5⟩ := signT_take l
  unfold signS
  by_cases h0 : signN l = 0
  · rw [if_pos h0, if_pos (by rw [h4, h0]; simp)]
  · rw [if_neg h0, if_neg (by intro c; rw [c] at h5; exact h0 h5.symm), h5, h4]

end Go.Proofs.YtgkpdcjkobieiaaDoor
