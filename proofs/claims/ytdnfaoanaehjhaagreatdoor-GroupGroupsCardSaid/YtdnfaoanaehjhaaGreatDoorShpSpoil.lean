
/- A table's terms are written over: the statement's spoil; which blocks are as they were. -/
import Derived.Test.YtdnfaoanaehjhaaGreatDoorH10
namespace Go.Proofs.YtdnfaoanaehjhaaGreatDoor
open Go.RowKit Go.Maps

/- all but what K tells of is as it was; blocks of terms stay such, of the same length -/
structure Spoilt (K : Nat → Prop) (w w' : World) : Prop where
  os : w'.os = w.os
  tape : w'.tape = w.tape
  output : w'.output = w.output
  size : w.heap.size ≤ w'.heap.size
  block : ∀ b, b < w.heap.size → ¬ K b → w'.heap[b]? = w.heap[b]?
  terms : ∀ b cur, K b → Blk w b 37 cur → ∃ cur', Blk w' b 37 cur' ∧ cur'.size = cur.size
theorem Spoilt.stay {K H : Nat → Prop} {w w' : World} (h : Spoilt K w w') (hk : ∀ b, b < w.heap.size → H b → ¬ K b) : Stay H w w' := ⟨h.size, fun b hb hH => h.block b hb (hk b hb hH)⟩
theorem Spoilt.below {K : Nat → Prop} {w w' : World} {B : Nat} (h : Spoilt K w w') (hB : B ≤ w.heap.size) (hk : ∀ b, K b → B ≤ b) : Below B w w' := ⟨h.os, h.tape, h.output, h.size, fun b hb => h.block b (by omega) (fun c => by have := hk b c; omega)⟩
theorem term_fits {w : World} {g o n : Nat} {cur : Array Value} {t : TermL} (h : Blk w g 37 cur) (ht : TermAt w g (o + n * 4) t) : o + n * 4 + 4 ≤ cur.size := by
  obtain ⟨_, _, _, h3⟩ := ht
  rw [blk_cell h] at h3
  have := (Array.getElem?_eq_some_iff.1 h3).1
  omega
/- what the rounds keep -/
structure SpoR (K : Nat → Prop) (w : World) (A : Nat) (vs rs : Value) (wr : World) : Prop where
  arg : Blk wr A 25 #[vs, rs]
  spo : Spoilt K w wr
theorem SpoR.next {K : Nat → Prop} {w W w' : World} {A g : Nat} {vs rs : Value} {cur ys : Array Value} (h : SpoR K w A vs rs W) (hA : w.heap.size ≤ A) (hk : K g) (hg : g < w.heap.size) (hW : Blk W g 37 cur) (h' : Blk w' g 37 ys) (hs : ys.size = cur.size) (hG : W.grownBy w' (some g)) : SpoR K w A vs rs w' := by
  refine ⟨blk_grown h.arg (by omega) hG, ⟨hG.os.trans h.spo.os, hG.tape.trans h.spo.tape, hG.output.trans h.spo.output, Nat.le_trans h.spo.size hG.size, fun b hb hn => ?_, fun b c hb hc => ?_⟩⟩
  · exact (hG.block b (Nat.lt_of_lt_of_le hb h.spo.size) (fun e => by injection e with e; subst e; exact hn hk)).trans (h.spo.block b hb hn)
  · obtain ⟨c2, h1, h2⟩ := h.spo.terms b c hb hc
    by_cases e : b = g
    · subst e
      have e2 : c2 = cur := by
        unfold Blk at h1 hW
        rw [h1] at hW
        injection hW with hW
        injection hW with hW _ _
      exact ⟨ys, h', by rw [hs, ← e2, h2]⟩
    · exact ⟨c2, blk_grown h1 e hG, h2⟩

end Go.Proofs.YtdnfaoanaehjhaaGreatDoor
