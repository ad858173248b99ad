/- Which of two terms is ahead: what Compare and Less of package term come to, for every two terms. -/
import Derived.Test.YtkfemnjblbnclaaGreatDoorGTerm
import Derived.Test.YtkfemnjblbnclaaGreatDoorGOrder
namespace Go.Proofs.YtkfemnjblbnclaaGreatDoor
open Go.RowKit

theorem two_alloc (w : World) (o o2 : Obj) : Below w.heap.size w ((w.alloc o).alloc o2) := (box_below w o).alloc (by simp) _

theorem cb_self (a : List UInt8) : Lib.compareBytes a a = 0 := (cb_zero a a).2 rfl

theorem same_of {a b : ByteArray} (h : (!a.toList == b.toList) = false) : Lib.compareBytes a.data.toList b.data.toList = 0 := by
  have e : a.toList = b.toList := by simpa using h
  rw [Lib.toList_data, Lib.toList_data] at e
  rw [e]; exact cb_self _
theorem other_of {a b : ByteArray} (h : (!a.toList == b.toList) = true) : Lib.compareBytes a.data.toList b.data.toList ≠ 0 := by
  have e : ¬ a.toList = b.toList := by simpa using h
  rw [Lib.toList_data, Lib.toList_data] at e
  exact fun c => e ((cb_zero _ _).1 c)

set_option maxHeartbeats 400000 in
theorem Compare_calls (k : Int) (x y z : ByteArray) (k' : Int) (x' y' z' : ByteArray) (w : World) :
    Calls Tryz.prog 62 #[.agg #[.int .i64 k, .string x, .string y, .string z], .agg #[.int .i64 k', .string x', .string y', .string z']] w fun e w' => e = .returned (.int .i64 (termCmp k x.data.toList y.data.toList z.data.toList k' x'.data.toList y'.data.toList z'.data.toList)) ∧ Below w.heap.size w w' := by
  go_enter Tryz.func62, Tryz.ntmps62
  go_wp2_with (go_at_call 82; refine (Tryz.strings_Compare _ _ _).mono ?_; rintro e w' ⟨rfl, rfl⟩)
  all_goals go_ret
  · exact ⟨ret_int (by unfold termCmp; rw [if_pos (by assumption)]), two_alloc _ _ _⟩
  · exact ⟨ret_int (by unfold termCmp; rw [if_neg (by omega), if_pos (by assumption)]), two_alloc _ _ _⟩
  · have e := other_of (a := x) (b := x') (by assumption)
    exact ⟨ret_int (by unfold termCmp; rw [if_neg (by omega), if_neg (by omega), if_pos e]), two_alloc _ _ _⟩
  · have e := same_of (a := x) (b := x') (by assumption)
    have e2 := other_of (a := y) (b := y') (by assumption)
    exact ⟨ret_int (by unfold termCmp; rw [if_neg (by omega), if_neg (by omega), if_neg (by omega), if_pos e2]), two_alloc _ _ _⟩
  · have e := same_of (a := x) (b := x') (by assumption)
    have e2 := same_of (a := y) (b := y') (by assumption)
    exact ⟨ret_int (by unfold termCmp; rw [if_neg (by omega), if_neg (by omega), if_neg (by omega), if_neg (by omega)]), two_alloc _ _ _⟩


end Go.Proofs.YtkfemnjblbnclaaGreatDoor
