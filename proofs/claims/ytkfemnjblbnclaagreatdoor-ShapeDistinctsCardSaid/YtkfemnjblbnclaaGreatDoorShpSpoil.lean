/- A table's terms are written over: the statement's spoil; which blocks are as they were. -/
import Derived.Test.YtkfemnjblbnclaaGreatDoorGRows
namespace Go.Proofs.YtkfemnjblbnclaaGreatDoor
open Go.RowKit Go.Maps

/- all but what K tells of is as it was; blocks of terms stay such, of the same length -/
structure Spoilt (K : Nat → Prop) (w w' : World) : Prop where
  os : w'.os = w.os
  tape : w'.tape = w.tape
  output : w'.output = w.output
  size : w.heap.size ≤ w'.heap.size
  block : ∀ b, b < w.heap.size → ¬ K b → w'.heap[b]? = w.heap[b]?
  terms : ∀ b cur, K b → Blk w b 23 cur → ∃ cur', Blk w' b 23 cur' ∧ cur'.size = cur.size
theorem Spoilt.stay {K H : Nat → Prop} {w w' : World} (h : Spoilt K w w') (hk : ∀ b, b < w.heap.size → H b → ¬ K b) : Stay H w w' := ⟨h.size, fun b hb hH => h.block b hb (hk b hb hH)⟩
theorem Spoilt.below {K : Nat → Prop} {w w' : World} {B : Nat} (h : Spoilt K w w') (hB : B ≤ w.heap.size) (hk : ∀ b, K b → B ≤ b) : Below B w w' := ⟨h.os, h.tape, h.output, h.size, fun b hb => h.block b (by omega) (fun c => by have := hk b c; omega)⟩
theorem term_fits {w : World} {g o n : Nat} {cur : Array Value} {t : TermL} (h : Blk w g 23 cur) (ht : TermAt w g (o + n * 4) t) : o + n * 4 + 4 ≤ cur.size := by
  obtain ⟨_, _, _, h3⟩ := ht
  rw [blk_cell h] at h3
  have := (Array.getElem?_eq_some_iff.1 h3).1
  omega
/- what the rounds keep -/
structure SpoR (K : Nat → Prop) (w : World) (A : Nat) (vs rs : Value) (wr : World) : Prop where
  arg : Blk wr A 31 #[vs, rs]
  spo : Spoilt K w wr
theorem SpoR.next {K : Nat → Prop} {w W w' : World} {A g : Nat} {vs rs : Value} {cur ys : Array Value} (h : SpoR K w A vs rs W) (hA : w.heap.size ≤ A) (hk : K g) (hg : g < w.heap.size) (hW : Blk W g 23 cur) (h' : Blk w' g 23 ys) (hs : ys.size = cur.size) (hG : W.grownBy w' (some g)) : SpoR K w A vs rs w' := by
  refine ⟨blk_grown h.arg (by omega) hG, ⟨hG.os.trans h.spo.os, hG.tape.trans h.spo.tape, hG.output.trans h.spo.output, Nat.le_trans h.spo.size hG.size, fun b hb hn => ?_, fun b c hb hc => ?_⟩⟩
  · exact (hG.block b (Nat.lt_of_lt_of_le hb h.spo.size) (fun e => by injection e with e; subst e; exact hn hk)).trans (h.spo.block b hb hn)
  · obtain ⟨c2, h1, h2⟩ := h.spo.terms b c hb hc
    by_cases e : b = g
    · subst e
      have e2 : c2 = cur := by
        unfold Blk at h1 hW
        rw [h1] at hW
        injection hW with hW
        injection hW with hW _ _
      exact ⟨ys, h', by rw [hs, ← e2, h2]⟩
    · exact ⟨c2, blk_grown h1 e hG, h2⟩

set_option maxRecDepth 100000 in
set_option maxHeartbeats 4000000 in
theorem spoil_calls (H K : Nat → Prop) (hHK : ∀ b, H b → ¬ K b) (vs : Value) (ra : Option Addr) (m rc : Nat) (R : List RowL) (w : World) (hR : RowJ H K w ra m rc R) (hT : ∀ b, K b → isT w b) :
    Calls Tryz.prog 18 #[.agg #[vs, .slice ra m rc]] w fun e w' => e = .returned (.tuple #[]) ∧ Spoilt K w w' := by
  have HRL := Lib.hid hR.len
  have HR := Lib.hid hR
  have HHK := Lib.hid hHK
  have HT := Lib.hid hT
  have c1 := hR.cap
  have c2 := hR.most
  unfold maxLen at c2
  obtain ⟨A, hA⟩ : ∃ A, w.heap.size = A := ⟨_, rfl⟩
  have HAE := Lib.hid hA
  obtain ⟨W0, hW0⟩ : ∃ W0, w.alloc (.cells #[vs, .slice ra m rc] 31) = W0 := ⟨_, rfl⟩
  have HW0 := Lib.hid hW0
  have HS0 := Lib.hid (show SpoR K w A vs (.slice ra m rc) W0 from by
    have hb : Below w.heap.size w W0 := by rw [← hW0]; exact box_below _ _
    refine ⟨by rw [← hW0, ← hA]; exact blk_new _ _ _, ⟨hb.os, hb.tape, hb.output, hb.size, fun b h _ => hb.block b h, fun b c _ hc => ⟨c, blk_on hc hb (blk_lt hc), rfl⟩⟩⟩)
  clear hR hHK hT hA hW0
  go_enter Tryz.func18, Tryz.ntmps18
  go_wp2
  rw [HW0.out, HAE.out]
  go_loopg [2, 3] m (fun g i _ wr => ∃ k : Nat, i = .int .i64 k ∧ k + g = m ∧ Hid (SpoR K w A vs (.slice ra m rc) wr))
  case atStart => exact ⟨0, rfl, by omega, HS0⟩
  case round =>
    obtain ⟨W1, rfl⟩ : ∃ W1, W1 = wr := ⟨_, rfl⟩
    obtain ⟨k, rfl, hkg, HS⟩ := hrel
    have q1 : W1.cell? ⟨A, 1, none⟩ = some (.slice ra m rc) := (blk_cell HS.out.arg 1).trans rfl
    by_cases hk : k < m
    · obtain ⟨gg, rfl⟩ : ∃ gg, gk = gg + 1 := ⟨gk - 1, by omega⟩
      have hkR : k < R.length := by rw [HRL.out]; exact hk
      obtain ⟨g, o, ha, hgw, hgH, hcells⟩ := HR.out.cells (by omega)
      subst ha
      obtain ⟨a', c', hcell, htrm⟩ := hcells k hkR
      have HTM := Lib.hid htrm
      have HCL := Lib.hid hcell
      have HNK := Lib.hid (HHK.out g hgH)
      have HGW := Lib.hid hgw
      have t1 := htrm.cap
      have t2 := htrm.most
      unfold maxLen at t2
      clear hcells hcell htrm hgH hgw
      generalize R[k] = y at HTM HCL t1 t2
      obtain ⟨q, hq⟩ : ∃ q, y.length = q := ⟨_, rfl⟩
      rw [hq] at HTM HCL t1
      have HYQ := Lib.hid hq
      clear hq
      have k0 : (0 : Int) ≤ (k : Int) := by omega
      have k1 : (k : Int) < (m : Int) := by omega
      go_wp2
      clear q1
      go_loopg [3] q (fun g2 i wr => ∃ j : Nat, i = .int .i64 j ∧ j + g2 = q ∧ Hid (SpoR K w A vs (.slice (some ⟨g, o, none⟩) m rc) wr))
      case atStart => exact ⟨0, rfl, by omega, HS⟩
      case round =>
        obtain ⟨W2, rfl⟩ : ∃ W2, W2 = wr := ⟨_, rfl⟩
        obtain ⟨j, rfl, hjg, HS2⟩ := hrel
        have q1 : W2.cell? ⟨A, 1, none⟩ = some (.slice (some ⟨g, o, none⟩) m rc) := (blk_cell HS2.out.arg 1).trans rfl
        have q2 : W2.cell? ⟨g, o + k, none⟩ = some (.slice a' q c') := (cell_same (HS2.out.spo.block g HGW.out HNK.out) _).trans HCL.out
        have j0 : (0 : Int) ≤ (j : Int) := by omega
        by_cases hj : j < q
        · obtain ⟨hh, rfl⟩ : ∃ hh, gk = hh + 1 := ⟨gk - 1, by omega⟩
          obtain ⟨g', o', ha', hgw', hgK, hcs⟩ := HTM.out.cells (by omega)
          subst ha'
          obtain ⟨cur, hcur⟩ := HT.out g' hgK
          have hfit := term_fits hcur (hcs j (by have := HYQ.out; omega))
          obtain ⟨cur', hcur', hsz⟩ := HS2.out.spo.terms g' cur hgK hcur
          have HFT := Lib.hid (show o' + j * 4 + 4 ≤ cur'.toList.length by rw [Array.length_toList, hsz]; exact hfit)
          have HCU := Lib.hid (show Blk W2 g' 23 cur'.toList.toArray by simpa using hcur')
          have HGK := Lib.hid hgK
          have HG2 := Lib.hid hgw'
          have j1 : (j : Int) < (q : Int) := by omega
          clear hcs hcur hcur' hfit hgK hgw' hsz
          go_wp2_with (refine mid_abs 23 (.tmp 28) (.tmp 27) ⟨rfl, rfl⟩ g' (o' + j * 4) #[.int .i64 0, .string ⟨#[]⟩, .string ⟨#[]⟩, .string ⟨#[]⟩] rfl rfl 23 cur'.toList _ HCU.out (by kernel_rfl) (by kernel_rfl) rfl (by simpa using HFT.out) ?_; intro w4 hG4 hg4)
          have HS4 := Lib.hid (HS2.out.next (by rw [HAE.out]; exact Nat.le_refl _) HGK.out HG2.out HCU.out hG4.out (by have := HFT.out; simp at this ⊢; omega) hg4.out)
          clear hG4 hg4
          go_roundg hh
          case measure => omega
          case rel => exact ⟨j + 1, by go_num, by omega, HS4⟩
        · have j1 : ¬ (j : Int) < (q : Int) := by omega
          go_wp2
          go_roundg gg
          case measure => omega
          case rel => exact ⟨k + 1, by go_num, by omega, HS2⟩
    · have k1 : ¬ (k : Int) < (m : Int) := by omega
      go_wp2
      go_end0
      exact ⟨rfl, HS.out.spo⟩

end Go.Proofs.YtkfemnjblbnclaaGreatDoor
