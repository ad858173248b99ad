
/- How many results an operation needs, by the document's own answer, for every operation. -/
import Derived.Test.YtiliobfgmelncaaScopeSlice
namespace Go.Proofs.Ytiliobfgmelncaa
open Go.RowKit

/- where an operation's four slices lie -/
structure OpS where
  ta : Option Addr
  tn : Nat
  tc : Nat
  va : Option Addr
  vn : Nat
  vc : Nat
  ra : Option Addr
  rn : Nat
  rc : Nat
  fa : Option Addr
  fn : Nat
  fc : Nat
def OpL.v (o : OpL) (A : OpS) : Value := .agg #[.int .i64 o.k, .slice A.ta A.tn A.tc, .slice A.va A.vn A.vc, .slice A.ra A.rn A.rc, .slice A.fa A.fn A.fc, .string (bs o.m), .bool o.s]
def OpS.cells (o : OpL) (A : OpS) : List Value := [.int .i64 o.k, .slice A.ta A.tn A.tc, .slice A.va A.vn A.vc, .slice A.ra A.rn A.rc, .slice A.fa A.fn A.fc, .string (bs o.m), .bool o.s]
theorem op_kinds (k : Int) : (k < 1 ∨ 9 < k) ∨ k = 1 ∨ k = 2 ∨ k = 3 ∨ k = 4 ∨ k = 5 ∨ k = 6 ∨ k = 7 ∨ k = 8 ∨ k = 9 := by omega
theorem needO_other {k : Int} (h : k < 1 ∨ 9 < k) : needO k = -1 := by
  unfold needO
  rw [if_neg (by omega), if_neg (by omega), if_neg (by omega)]
theorem not_op {k : Int} (h : k < 1 ∨ 9 < k) (j : Int) (h1 : 1 ≤ j) (h2 : j ≤ 9) : (k == j) = false := beq_eq_false_iff_ne.2 (by omega)
end Go.Proofs.Ytiliobfgmelncaa
