/- How many results an operation needs, by the document's own answer, for every operation. -/
import Derived.Test.YtiliobfgmelncaaGreatScopeSlice
namespace Go.Proofs.YtiliobfgmelncaaGreat
open Go.RowKit

/- where an operation's four slices lie -/
structure OpS where
  ta : Option Addr
  tn : Nat
  tc : Nat
  va : Option Addr
  vn : Nat
  vc : Nat
  ra : Option Addr
  rn : Nat
  rc : Nat
  fa : Option Addr
  fn : Nat
  fc : Nat
def OpL.v (o : OpL) (A : OpS) : Value := .agg #[.int .i64 o.k, .slice A.ta A.tn A.tc, .slice A.va A.vn A.vc, .slice A.ra A.rn A.rc, .slice A.fa A.fn A.fc, .string (bs o.m), .bool o.s]
def OpS.cells (o : OpL) (A : OpS) : List Value := [.int .i64 o.k, .slice A.ta A.tn A.tc, .slice A.va A.vn A.vc, .slice A.ra A.rn A.rc, .slice A.fa A.fn A.fc, .string (bs o.m), .bool o.s]
theorem op_kinds (k : Int) : (k < 1 ∨ 9 < k) ∨ k = 1 ∨ k = 2 ∨ k = 3 ∨ k = 4 ∨ k = 5 ∨ k = 6 ∨ k = 7 ∨ k = 8 ∨ k = 9 := by omega
theorem needO_other {k : Int} (h : k < 1 ∨ 9 < k) : needO k = -1 := by
  unfold needO
  rw [if_neg (by omega), if_neg (by omega), if_neg (by omega)]
theorem not_op {k : Int} (h : k < 1 ∨ 9 < k) (j : Int) (h1 : 1 ≤ j) (h2 : j ≤ 9) : (k == j) = false := beq_eq_false_iff_ne.2 (by omega)
set_option maxRecDepth 100000 in
set_option maxHeartbeats 2000000 in
theorem rONeeds_calls (o : OpL) (A : OpS) (w : World) : Calls Tryz.prog 10 #[o.v A] w fun e w' => e = .returned (.int .i64 (needO o.k)) ∧ Below w.heap.size w w' := by
  obtain ⟨k, T, V, R, F, m, s⟩ := o
  obtain ⟨ta, tn, tc, va, vn, vc, ra, rn, rc, fa, fn, fc⟩ := A
  simp only [OpL.v]
  rcases op_kinds k with h | h | h | h | h | h | h | h | h | h
  · have HO := Lib.hid (needO_other h)
    have H := Lib.hid (fun j h1 h2 => not_op h j h1 h2)
    have n1 := H.out 1 (by decide) (by decide)
    have n2 := H.out 2 (by decide) (by decide)
    have n3 := H.out 3 (by decide) (by decide)
    have n4 := H.out 4 (by decide) (by decide)
    have n5 := H.out 5 (by decide) (by decide)
    have n6 := H.out 6 (by decide) (by decide)
    have n7 := H.out 7 (by decide) (by decide)
    have n8 := H.out 8 (by decide) (by decide)
    have n9 := H.out 9 (by decide) (by decide)
    clear h
    go_enter Tryz.func10, Tryz.ntmps10
    go_wp2
    go_ret
    exact ⟨by rw [HO.out]; rfl, box_below _ _⟩
  all_goals
    subst h
    go_enter Tryz.func10, Tryz.ntmps10
    go_wp2
    go_ret
    exact ⟨by rfl, box_below _ _⟩

end Go.Proofs.YtiliobfgmelncaaGreat
