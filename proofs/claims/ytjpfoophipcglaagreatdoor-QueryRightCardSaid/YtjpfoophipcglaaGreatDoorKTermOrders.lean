/- Which of two terms is ahead: what Compare and Less of package term come to, for every two terms. -/
import Derived.Test.YtjpfoophipcglaaGreatDoorKTermChecks
import Derived.Lib.Bytealg
namespace Go.Proofs.YtjpfoophipcglaaGreatDoor
set_option maxRecDepth 100000
set_option maxHeartbeats 8000000
section
open Go.RowKit
theorem two_alloc (w:World) (o o2:Obj):Below w.heap.size w ((w.alloc o).alloc o2):=(box_below w o).alloc (by simp) _
end
section
open Go.RowKit
theorem terms_calls (k:Int) (x y z:ByteArray) (k':Int) (x' y' z':ByteArray) (k'':Int) (x'' y'' z'':ByteArray) (w:World):Calls Tryz.prog 255 #[.agg #[.int .i64 k,.string x,.string y,.string z,.int .i64 k',.string x',.string y',.string z',.int .i64 k'',.string x'',.string y'',.string z'']] w fun e w'=>e=.returned (.agg #[.int .i64 k,.string x,.string y,.string z,.int .i64 k',.string x',.string y',.string z',.int .i64 k'',.string x'',.string y'',.string z''])∧Below w.heap.size w w':=by
 (go_enter Tryz.func255,Tryz.ntmps255);go_wp2;(refine bodyPost_ret (v:=.agg #[.int .i64 k,.string x,.string y,.string z,.int .i64 k',.string x',.string y',.string z',.int .i64 k'',.string x'',.string y'',.string z'']) (by simp [results,Tryz.results255,go_sem]) rfl ⟨rfl,?_⟩);exact two_alloc _ _ _
end
end Go.Proofs.YtjpfoophipcglaaGreatDoor
