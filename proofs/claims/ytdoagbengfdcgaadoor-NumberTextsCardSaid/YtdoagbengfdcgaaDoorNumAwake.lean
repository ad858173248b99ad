/- The program does answer: the two calls that every statement asks besides. -/
import Derived.Test.YtdoagbengfdcgaaDoorNumText
namespace Go.Proofs.YtdoagbengfdcgaaDoor
open Go.RowKit

theorem read_150 : readL [49, 46, 53, 48] true = (⟨15, 1, true⟩, true) := by rfl
theorem text_25 : textL (-25) 1 true = [45, 50, 46, 53] := by
  show [45] ++ (Lib.decDigits 2 ++ 46 :: [53]) = _
  rw [Lib.decDigits_one (by omega)]
  rfl

set_option maxHeartbeats 1000000 in
theorem awake_calls (w : World) (hg : Good w) :
    Calls Tryd.prog 13 #[] w fun e w' => e = .returned (.bool true) ∧ Below w.heap.size w w' := by
  have HRd : Hid (∀ W, Good W → Calls Tryd.prog 16 #[.string ⟨#[49, 46, 53, 48]⟩, .bool true] W fun e w' => e = .returned (.tuple #[.agg #[.int .i64 15, .int .i64 1, .bool true], .int .i64 0]) ∧ Below W.heap.size W w') := Lib.hid fun W hW => by
    have := Read_calls ⟨#[49, 46, 53, 48]⟩ true W hW (by unfold maxLen; show 4 ≤ _; omega)
    rw [show (ByteArray.mk #[49, 46, 53, 48]).data.toList = [49, 46, 53, 48] from rfl, read_150] at this
    exact this
  have HTx : Hid (∀ W, Good W → Calls Tryd.prog 9 #[.agg #[.int .i64 (-25), .int .i64 1, .bool true]] W fun e w' => e = .returned (.tuple #[.string ⟨#[45, 50, 46, 53]⟩, .int .i64 0]) ∧ Below W.heap.size W w') := Lib.hid fun W hW => by
    have := Text_right (-25) 1 true W hW (by rfl) (by omega) (by omega) (by omega)
    rw [textRet, text_25] at this
    exact this
  have HG := Lib.hid hg
  clear hg
  go_enter Tryd.func13, Tryd.ntmps13
  go_wp2_with fail
  refine (HRd.out _ HG.out).mono ?_
  rintro e w1 ⟨rfl, hb1⟩
  have hG1 := HG.out.on hb1
  have hs1 := hb1.size
  go_wp2_with fail
  refine (HTx.out _ (hG1.alloc _)).mono ?_
  rintro e w2 ⟨rfl, hb2⟩
  obtain ⟨hc, hf⟩ := bcell hb2
  go_wp2
  go_ret
  exact ⟨rfl, hb1.trans ((one_box hb2).mono hs1)⟩

end Go.Proofs.YtdoagbengfdcgaaDoor
