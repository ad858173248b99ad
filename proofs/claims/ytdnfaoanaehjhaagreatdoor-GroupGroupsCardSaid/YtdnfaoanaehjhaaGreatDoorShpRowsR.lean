/- Rows gathered in a box's field: what the rounds keep, and one row more. -/
import Derived.Test.YtdnfaoanaehjhaaGreatDoorH10
namespace Go.Proofs.YtdnfaoanaehjhaaGreatDoor
open Go.RowKit Go.Maps

structure RowsR (X : Nat) (w0 : World) (vs v : Value) (F : List RowL) (wr : World) : Prop where
  all : Blk wr X 25 #[vs, v]
  own : ∃ cs, wr.ownsRow (X + 1) 35 1 v F.length cs ∧ RowCK (fun b => b < X) wr cs F
  below : Below X w0 wr
  size : X + 1 ≤ wr.heap.size
theorem RowsR.start {X : Nat} {w0 : World} {vs : Value} {F : List RowL} (h : Blk w0 X 25 #[vs, .slice none 0 0]) : RowsR X w0 vs (.slice none 0 0) (F.take 0) w0 :=
  ⟨h, ⟨[], by rw [List.take_zero]; exact World.ownsRow_nil _ _ _ _, by rw [List.take_zero]; exact rowCK_nil _ _⟩, Below.refl _ _, by have := blk_lt h; omega⟩
theorem rows_next {X i yn : Nat} {w0 W1 w5 w6 : World} {vs v v5 : Value} {F G : List RowL} {y : RowL} {cs : List Value} {a' : Option Addr} {c' : Nat} (hR : RowsR X w0 vs v F W1) (hC : RowCK (fun b => b < X) W1 cs F) (hl : F.length = i)
    (ht : TrmK (fun b => b < X) W1 a' yn c' y) (hy : y.length = yn) (hTK : F ++ [y] = G) (h5 : w5.ownsRow (X + 1) 35 1 v5 (i + 1) (cs ++ [.slice a' yn c'])) (hX6 : Blk w6 X 25 ([vs, v].set 1 v5).toArray) (g6 : w5.grownBy w6 (some X)) (hb6 : Below X W1 w6) : RowsR X w0 vs v5 G w6 := by
  have h1 : RowCK (fun b => b < X) W1 [.slice a' yn c'] [y] := ⟨rfl, fun j hj => by
    have e : j = 0 := by simp at hj; exact hj
    subst e
    subst hy
    exact ⟨a', c', rfl, ht⟩⟩
  have h12 := (hC.app h1).on (stay_under hb6)
  rw [hTK] at h12
  have hl2 : G.length = i + 1 := by rw [← hTK, List.length_append, hl]; rfl
  refine ⟨hX6, ⟨cs ++ [.slice a' yn c'], ?_, h12⟩, hR.below.trans hb6, by have h1 := hR.size; have h2 := hb6.size; omega⟩
  rw [hl2]
  exact h5.kept g6 (.inr (fun e => by have := (h5.lt X e).1; omega))
theorem RowsR.rows {X : Nat} {w0 wr : World} {vs v : Value} {F : List RowL} (h : RowsR X w0 vs v F wr) : ∃ a c, v = .slice a F.length c ∧ RowA wr a F.length c F := by
  obtain ⟨cs, h1, h2⟩ := h.own
  exact own_rows h1 h2 rfl

end Go.Proofs.YtdnfaoanaehjhaaGreatDoor
