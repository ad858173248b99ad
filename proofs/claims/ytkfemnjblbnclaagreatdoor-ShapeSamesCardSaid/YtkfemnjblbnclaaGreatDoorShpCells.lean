/- How many cells the types of arguments take. -/
import Derived.Test.YtkfemnjblbnclaaGreatDoorProg
import Derived.KernelRfl
import Derived.WalkKit
namespace Go.Proofs.YtkfemnjblbnclaaGreatDoor

set_option maxRecDepth 100000 in
theorem Tryz.cellsString : Tryz.prog.cellsOf 9 = 1 := by kernel_rfl
set_option maxRecDepth 100000 in
theorem Tryz.cellsInt : Tryz.prog.cellsOf 3 = 1 := by kernel_rfl
set_option maxRecDepth 100000 in
theorem Tryz.cellsTerm : Tryz.prog.cellsOf 23 = 4 := by kernel_rfl

end Go.Proofs.YtkfemnjblbnclaaGreatDoor
