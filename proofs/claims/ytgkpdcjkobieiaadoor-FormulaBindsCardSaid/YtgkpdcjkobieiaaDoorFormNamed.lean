/- The next word; a variable that is read: the reader's next, named, simple and signed, where a variable stands. -/
import Derived.Test.YtgkpdcjkobieiaaDoorFormAdd
import Derived.Test.YtgkpdcjkobieiaaDoorTermRight
namespace Go.Proofs.YtgkpdcjkobieiaaDoor
open Go.RowKit

theorem below_both {B : Nat} {w w1 : World} (h : Below B w w1) (a : Addr) (v : Value) : Below B (w.setCell a v) (w1.setCell a v) := by
  refine ⟨h.os, h.tape, h.output, ?_, fun k hk => ?_⟩
  · have := h.size
    simpa using this
  · unfold World.setCell
    simp only [Array.getElem?_modify]
    rw [h.block k hk]
theorem rdt_set {A X : Nat} {v pv : Value} {L : List TokL} {a : Nat} {P : List PartL} {w w' : World} (h : Rd A X v L a P pv w) (ha : a < L.length) (hb : Below w.heap.size (w.setCell ⟨X, 1, none⟩ (.int .i64 ((a : Int) + 1))) w') : RdT A X v L pv (a + 1, P) w w' :=
  ⟨pv, (h.went ha).on (by simpa using hb), ((Below.refl A w).setCell h.low _).trans (hb.mono h.size), step_set hb⟩

set_option maxRecDepth 100000 in
set_option maxHeartbeats 1000000 in
theorem next_calls (A X : Nat) (v pv : Value) (L : List TokL) (a : Nat) (P : List PartL) (w : World) (h : Rd A X v L a P pv w) (hL : L.length ≤ 1000) (ha : a < L.length) :
    Calls Tryd.prog 52 #[.pointer (some ⟨X, 0, none⟩)] w fun e w' => e = .returned (L[a]).v ∧ RdT A X v L pv (a + 1, P) w w' := by
  have H := Lib.hid h
  obtain ⟨c0, c1, c2⟩ := h.cells
  obtain ⟨g, cap, rfl, hg, hcap, hcell⟩ := h.toks.row
  have hX := blk_lt h.blk
  have fr := fun i => blk_free h.blk i
  have hsz := h.size
  have hgw : g < w.heap.size := Nat.lt_of_lt_of_le hg hsz
  have HAL := Lib.hid ha
  obtain ⟨N, hN⟩ : ∃ N, L.length = N := ⟨_, rfl⟩
  have HN := Lib.hid hN
  rw [hN] at c0 hcap hL
  have ha' : (a : Int) < (N : Int) := by omega
  have ha0 : (0 : Int) ≤ (a : Int) := by omega
  have g1 : ((a : Int) == (N : Int)) = false := beq_eq_false_iff_ne.2 (by omega)
  obtain ⟨d0, d1, d2, d3, d4, d5, d6⟩ := hcell a ha
  clear hcell h
  have ha2 : a < N := by omega
  generalize L[a] = y at d0 d1 d2 d3 d4 d5 d6
  obtain ⟨yk, yx, ⟨uk, ux, uy, uz⟩, ya⟩ := y
  simp only [TokL.v]
  dsimp only at d0 d1 d2 d3 d4 d5 d6
  have hgX : ¬ g = X := fun e => by have := H.out.low; omega
  have hXg : ¬ X = g := fun e => hgX e.symm
  clear ha c2 hN hg
  go_enter Tryd.func52, Tryd.ntmps52
  go_wp2
  go_quiet (fail)
  go_wp2
  go_region
  go_wp2
  refine bodyPost_ret (v := .agg #[.int .i64 yk, .string (bs yx), .int .i64 uk, .string (bs ux), .string (bs uy), .string (bs uz), .int .i64 ya]) (by simp [results, Tryd.results52, go_sem]) rfl ⟨rfl, rdt_set H.out HAL.out ?_⟩
  repeat (with_reducible (first | exact below_both (below_drawn (box_below _ _) _) _ _ | refine Below.drew ?_ | refine Below.setCell ?_ (by first | exact Nat.le_refl _ | omega | (simp; omega)) _))

end Go.Proofs.YtgkpdcjkobieiaaDoor
