/- NumSpread, NumBox, put together. -/
import Derived.Test.YtkfemnjblbnclaaGreatDoorGNumA
import Derived.Deep.RegionHeld3

/- What a right number comes to with the scale 4, by package number and by the document. -/
namespace Go.Proofs.YtkfemnjblbnclaaGreatDoor.Nm
open Go.RowKit

def amt (v : Int) (s : Nat) : Int := v * ten (4 - s)
theorem ten_le (k : Nat) (h : k ≤ 4) : ten k ≤ 10000 := by
  match k, h with
  | 0, _ => decide
  | 1, _ => decide
  | 2, _ => decide
  | 3, _ => decide
  | 4, _ => decide
theorem mul_bound (v T B C : Int) (h1 : -B ≤ v) (h2 : v ≤ B) (h3 : 0 ≤ T) (h4 : T ≤ C) (hB : 0 ≤ B) : -(B * C) ≤ v * T ∧ v * T ≤ B * C := by
  have a : v * T ≤ B * T := Int.mul_le_mul_of_nonneg_right h2 h3
  have b : B * T ≤ B * C := Int.mul_le_mul_of_nonneg_left h4 hB
  have c : -B * T ≤ v * T := Int.mul_le_mul_of_nonneg_right h1 h3
  rw [Int.neg_mul] at c
  omega
theorem amt_bound (v : Int) (s : Nat) (h1 : -999999999 ≤ v) (h2 : v ≤ 999999999) (hs : s ≤ 4) : -9999999990000 ≤ amt v s ∧ amt v s ≤ 9999999990000 := by
  have := mul_bound v (ten (4 - s)) 999999999 10000 h1 h2 (by have := ten_pos (4 - s); omega) (ten_le _ (by omega)) (by omega)
  unfold amt; omega

set_option maxHeartbeats 400000 in
theorem spread_calls (v : Int) (s : Nat) (d : Bool) (w : World) (hg : Good w) (hs : s ≤ 4) (h1 : -999999999 ≤ v) (h2 : v ≤ 999999999) :
    Calls Tryz.prog 81 #[.agg #[.int .i64 v, .int .i64 s, .bool d]] w fun e w' => e = .returned (.int .i64 (amt v s)) ∧ Below w.heap.size w w' := by
  have hc := hg.cell (4 - s) (by omega)
  have hbig := hg.big
  rw [pow_ten _ (by omega)] at hc
  have hm := amt_bound v s h1 h2 hs
  have HA := Lib.hid (show amt v s = v * ten (4 - s) from rfl)
  unfold amt at hm
  generalize ten (4 - s) = T at hc hm HA
  have e1 : IntKind.i64.wrap (4 - (s : Int)) = 4 - (s : Int) := IntWalk.i64_in _ (by omega)
  have e2 : (4 - (s : Int)).toNat = 4 - s := by omega
  have e3 : IntKind.i64.wrap (v * T) = v * T := IntWalk.i64_in _ (by omega)
  have e4 : 0 ≤ 4 - (s : Int) := by omega
  go_enter Tryz.func81, Tryz.ntmps81
  go_wp2
  go_quiet (fail)
  go_wp2
  go_ret
  exact ⟨ret_int (by rw [HA.out]), below_drewN (box_below _ _) _⟩

set_option maxHeartbeats 400000 in
theorem rAmount_calls (v : Int) (s : Nat) (d : Bool) (w : World) (hs : s ≤ 4) (h1 : -999999999 ≤ v) (h2 : v ≤ 999999999) :
    Calls Tryz.prog 67 #[.agg #[.int .i64 v, .int .i64 s, .bool d]] w fun e w' => e = .returned (.int .i64 (amt v s)) ∧ Below w.heap.size w w' := by
  have hm := amt_bound v s h1 h2 hs
  have HA := Lib.hid (show amt v s = v * ten (4 - s) from rfl)
  unfold amt at hm
  have hten : ∀ W, Calls Tryz.prog 86 #[.int .i64 (4 - (s : Int))] W fun e w' => e = .returned (.int .i64 (ten (4 - s))) ∧ w' = W := fun W => by
    have := rTen_calls (4 - s) W (by omega)
    rw [show ((4 - s : Nat) : Int) = 4 - (s : Int) by omega] at this
    exact this
  have HT := Lib.hid hten
  clear hten
  generalize ten (4 - s) = T at hm HA HT
  have e1 : IntKind.i64.wrap (4 - (s : Int)) = 4 - (s : Int) := IntWalk.i64_in _ (by omega)
  have e3 : IntKind.i64.wrap (v * T) = v * T := IntWalk.i64_in _ (by omega)
  go_enter Tryz.func67, Tryz.ntmps67
  go_wp2
  go_quiet ((go_at_call 86; exact Calls.quiet_of_same (HT.out _)))
  go_wp2
  go_ret
  exact ⟨ret_int (by rw [HA.out]), below_drewN (box_below _ _) _⟩

end Go.Proofs.YtkfemnjblbnclaaGreatDoor.Nm

/- What a reckoning's boxes hold while it goes on. -/
namespace Go.Proofs.YtkfemnjblbnclaaGreatDoor.Nm
open Go.RowKit

/- what the two boxes of a reckoning hold, and its result's, as long as all that was there stays -/
def boxed (w : World) (t : TypeId) (a b c a' b' c' x y z : Value) : World := ((w.alloc (.cells #[a, b, c] t)).alloc (.cells #[a', b', c'] t)).alloc (.cells #[x, y, z] t)
theorem boxes {w W : World} {a b c a' b' c' x y z : Value} {t : TypeId} (hB : Below (boxed w t a b c a' b' c' x y z).heap.size (boxed w t a b c a' b' c' x y z) W) :
    W.cell? ⟨w.heap.size, 0, none⟩ = some a ∧ W.cell? ⟨w.heap.size, 1, none⟩ = some b ∧ W.cell? ⟨w.heap.size, 2, none⟩ = some c ∧ W.cell? ⟨w.heap.size + 1, 0, none⟩ = some a' ∧ W.cell? ⟨w.heap.size + 1, 1, none⟩ = some b' ∧ W.cell? ⟨w.heap.size + 1, 2, none⟩ = some c' ∧
    (W.cell? ⟨w.heap.size + 1 + 1, 0, none⟩ = some x ∧ W.cell? ⟨w.heap.size + 1 + 1, 1, none⟩ = some y ∧ W.cell? ⟨w.heap.size + 1 + 1, 2, none⟩ = some z) ∧ (∀ i, W.frozen? ⟨w.heap.size + 1 + 1, i, none⟩ = false) := by
  unfold boxed at hB
  have h0 : ∀ i, W.cell? ⟨w.heap.size, i, none⟩ = (#[a, b, c] : Array Value)[i]? := fun i => by
    rw [hB.cell (p := ⟨w.heap.size, i, none⟩) (by simp; omega), World.cell?_alloc_past _ _ _ (by simp; omega), World.cell?_alloc_past _ _ _ (by simp), World.cell?_alloc_at _ _ _ _ rfl]
  have h1 : ∀ i, W.cell? ⟨w.heap.size + 1, i, none⟩ = (#[a', b', c'] : Array Value)[i]? := fun i => by
    rw [hB.cell (p := ⟨w.heap.size + 1, i, none⟩) (by simp), World.cell?_alloc_past _ _ _ (by simp), World.cell?_alloc_at _ _ _ _ (by simp)]
  have h2 : ∀ i, W.cell? ⟨w.heap.size + 1 + 1, i, none⟩ = (#[x, y, z] : Array Value)[i]? := fun i => by
    rw [hB.cell (p := ⟨w.heap.size + 1 + 1, i, none⟩) (by simp), World.cell?_alloc_at _ _ _ _ (by simp)]
  have h3 : ∀ i, W.frozen? ⟨w.heap.size + 1 + 1, i, none⟩ = false := fun i => by
    rw [hB.frozen (p := ⟨w.heap.size + 1 + 1, i, none⟩) (by simp), World.frozen?_alloc_at _ _ _ _ (by simp)]
  exact ⟨h0 0, h0 1, h0 2, h1 0, h1 1, h1 2, ⟨h2 0, h2 1, h2 2⟩, h3⟩
theorem boxed_size {w : World} {a b c a' b' c' x y z : Value} {t : TypeId} : (boxed w t a b c a' b' c' x y z).heap.size = w.heap.size + 3 := by simp [boxed]
theorem boxed_below {w W : World} {a b c a' b' c' x y z : Value} {t : TypeId} (hB : Below (boxed w t a b c a' b' c' x y z).heap.size (boxed w t a b c a' b' c' x y z) W) : Below w.heap.size w W := by
  have h : Below w.heap.size w (boxed w t a b c a' b' c' x y z) := (((Below.refl _ _).alloc (Nat.le_refl _) _).alloc (by simp) _).alloc (by simp; omega) _
  exact h.trans (hB.mono (by rw [boxed_size]; omega))

def decOf (d d' : Bool) : Bool := d || d'

end Go.Proofs.YtkfemnjblbnclaaGreatDoor.Nm
