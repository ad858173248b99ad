
/- Which of two terms is ahead: what Compare and Less of package term come to, for every two terms. -/
import Derived.Test.YtiliobfgmelncaaTermCheck
import Derived.Test.YtiliobfgmelncaaTermOrderPlain
namespace Go.Proofs.Ytiliobfgmelncaa
open Go.RowKit

theorem two_alloc (w : World) (o o2 : Obj) : Below w.heap.size w ((w.alloc o).alloc o2) := (box_below w o).alloc (by simp) _

theorem cb_self (a : List UInt8) : Lib.compareBytes a a = 0 := (cb_zero a a).2 rfl

theorem same_of {a b : ByteArray} (h : (!a.toList == b.toList) = false) : Lib.compareBytes a.data.toList b.data.toList = 0 := by
  have e : a.toList = b.toList := by simpa using h
  rw [Lib.toList_data, Lib.toList_data] at e
  rw [e]; exact cb_self _
theorem other_of {a b : ByteArray} (h : (!a.toList == b.toList) = true) : Lib.compareBytes a.data.toList b.data.toList ≠ 0 := by
  have e : ¬ a.toList = b.toList := by simpa using h
  rw [Lib.toList_data, Lib.toList_data] at e
  exact fun c => e ((cb_zero _ _).1 c)


end Go.Proofs.Ytiliobfgmelncaa
