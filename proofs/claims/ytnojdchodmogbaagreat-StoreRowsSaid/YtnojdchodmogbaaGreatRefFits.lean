/- May a pattern's term be a triple's; have two places one variable, and unlike terms there; does a triple match; the term at a name? The document's own answers. -/
import Derived.Test.YtnojdchodmogbaaGreatRefComps
import Derived.Test.YtnojdchodmogbaaGreatStoCmp
import Derived.Test.YtnojdchodmogbaaGreatStoPlains

import Derived.Test.YtnojdchodmogbaaGreatStoBox
namespace Go.Proofs.YtnojdchodmogbaaGreat
open Go.RowKit

theorem eql_term_at (a b : TermL) (w : World) : (binOp .eql 27 (.agg #[.int .i64 a.k, .string (bs a.x), .string (bs a.y), .string (bs a.z)]) (.agg #[.int .i64 b.k, .string (bs b.x), .string (bs b.y), .string (bs b.z)])).run Tryz.prog w = .ok (.bool (decide (a = b))) w := by
  have := eql_term a b w
  have e : teq a b = decide (a = b) := by
    by_cases h : a = b
    · rw [h, teq_self]; simp
    · rw [teq_ne h]; simp [h]
  rw [e] at this
  exact this
theorem neql_term_at (a b : TermL) (w : World) : (binOp .neq 27 (.agg #[.int .i64 a.k, .string (bs a.x), .string (bs a.y), .string (bs a.z)]) (.agg #[.int .i64 b.k, .string (bs b.x), .string (bs b.y), .string (bs b.z)])).run Tryz.prog w = .ok (.bool (decide (a ≠ b))) w := by
  have := neq_term a b w
  have e : (!teq a b) = decide (a ≠ b) := by
    by_cases h : a = b
    · rw [h, teq_self]; simp
    · rw [teq_ne h]; simp [h]
  rw [e] at this
  exact this
theorem two_box (w : World) (o o2 : Obj) : Below w.heap.size w ((w.alloc o).alloc o2) := ((Below.refl w.heap.size w).alloc (Nat.le_refl _) o).alloc (by simp) o2
theorem four_box (w : World) (o o2 o3 o4 : Obj) : Below w.heap.size w ((((w.alloc o).alloc o2).alloc o3).alloc o4) := ((two_box w o o2).alloc (by simp; omega) o3).alloc (by simp; omega) o4

set_option maxHeartbeats 1000000 in
theorem fits_calls (p t : TermL) (w : World) : Calls Tryz.prog 54 #[p.v, t.v] w fun e w' => e = .returned (.bool (fitsB p t)) ∧ Below w.heap.size w w' := by
  have heq := fun W => eql_term_at p t W
  have hb := fun o o2 => two_box w o o2
  unfold TermL.v
  by_cases h4 : p.k = 4
  · have g4 : (p.k == 4) = true := by simp [h4]
    have hF : fitsB p t = true := by unfold fitsB; rw [g4]; rfl
    rw [hF]
    go_enter Tryz.func54, Tryz.ntmps54
    go_wp2
    go_ret
    exact ⟨rfl, by first | exact hb _ _ | exact (hb _ _).drew⟩
  · have g4 : (p.k == 4) = false := by simp [h4]
    have hF : fitsB p t = decide (p = t) := by unfold fitsB; rw [g4]; rfl
    rw [hF]
    generalize decide (p = t) = D at heq
    go_enter Tryz.func54, Tryz.ntmps54
    go_wp2
    go_ret
    exact ⟨rfl, by first | exact hb _ _ | exact (hb _ _).drew⟩

set_option maxRecDepth 100000 in
set_option maxHeartbeats 2000000 in
theorem twice_calls (a b x y : TermL) (w : World) : Calls Tryz.prog 55 #[a.v, b.v, x.v, y.v] w fun e w' => e = .returned (.bool (twiceB a b x y)) ∧ Below w.heap.size w w' := by
  have heq := fun W => neql_term_at x y W
  have hb := fun o o2 o3 o4 => four_box w o o2 o3 o4
  unfold TermL.v
  by_cases h4 : a.k = 4
  · have g4 : (a.k == 4) = true := by simp [h4]
    by_cases h5 : b.k = 4
    · have g5 : (b.k == 4) = true := by simp [h5]
      by_cases h6 : a.x = b.x
      · have g6 : (bs a.x).toList = (bs b.x).toList := by rw [h6]
        have hF : twiceB a b x y = decide (x ≠ y) := by unfold twiceB; rw [g4, g5, decide_eq_true h6]; rfl
        rw [hF]
        generalize decide (x ≠ y) = D at heq
        clear h6 hF
        go_enter Tryz.func55, Tryz.ntmps55
        go_wp2
        go_ret
        exact ⟨rfl, by first | exact hb _ _ _ _ | exact (hb _ _ _ _).drew⟩
      · have g6 : ((bs a.x).toList == (bs b.x).toList) = false := by rw [bs_toList, bs_toList]; exact beq_eq_false_iff_ne.2 h6
        have hF : twiceB a b x y = false := by unfold twiceB; rw [g4, g5, decide_eq_false h6]; rfl
        rw [hF]
        clear h6 hF heq
        go_enter Tryz.func55, Tryz.ntmps55
        go_wp2
        go_ret
        exact ⟨rfl, by first | exact hb _ _ _ _ | exact (hb _ _ _ _).drew⟩
    · have g5 : (b.k == 4) = false := by simp [h5]
      have hF : twiceB a b x y = false := by unfold twiceB; rw [g4, g5]; rfl
      rw [hF]
      clear hF heq
      go_enter Tryz.func55, Tryz.ntmps55
      go_wp2
      go_ret
      exact ⟨rfl, by first | exact hb _ _ _ _ | exact (hb _ _ _ _).drew⟩
  · have g4 : (a.k == 4) = false := by simp [h4]
    have hF : twiceB a b x y = false := by unfold twiceB; rw [g4]; rfl
    rw [hF]
    clear hF heq
    go_enter Tryz.func55, Tryz.ntmps55
    go_wp2
    go_ret
    exact ⟨rfl, by first | exact hb _ _ _ _ | exact (hb _ _ _ _).drew⟩

end Go.Proofs.YtnojdchodmogbaaGreat
