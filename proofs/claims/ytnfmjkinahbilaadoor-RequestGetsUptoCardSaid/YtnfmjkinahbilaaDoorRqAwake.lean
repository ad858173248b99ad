/- The program answers: the statements' awake. -/
import Derived.Test.YtnfmjkinahbilaaDoorRqPut
import Derived.Test.YtnfmjkinahbilaaDoorRqGet
namespace Go.Proofs.YtnfmjkinahbilaaDoor
open Go.RowKit

def awX : List UInt8 := [65, 83, 75, 32, 123, 32, 125]
def awB : List UInt8 := [105, 100, 61, 55, 38, 113, 117, 101, 114, 121, 61, 65, 83, 75, 37, 50, 48, 37, 55, 66, 37, 50, 48, 37, 55, 68]
theorem aw_bytes : wrS (twoL ⟨7, awX⟩) = awB := by
  have h := put_bytes_dec 7 awX
  rw [dec_small 7 (by omega)] at h
  rw [show ((7 : Nat) : Int) = 7 from rfl] at h
  rw [h]
  decide
theorem aw_chk : chkR ⟨7, awX⟩ = 0 := by decide
theorem aw_put : putR ⟨7, awX⟩ = (awB, 0) := by rw [put_right aw_chk, aw_bytes]
theorem aw_get : getR awB = some ⟨7, awX⟩ := by rw [← aw_bytes, get_put _ aw_chk]

set_option maxRecDepth 100000 in
set_option maxHeartbeats 2000000 in
theorem awake_calls (w : World) (hg : Good w) : Calls Tryd.prog 9 #[] w fun e w' => e = .returned (.bool true) ∧ Below w.heap.size w w' := by
  have HP := Lib.hid (show Calls Tryd.prog 6 #[.agg #[.int .i64 7, .string ⟨#[65, 83, 75, 32, 123, 32, 125]⟩]] w (fun e w' => e = .returned (.tuple #[.string ⟨#[105, 100, 61, 55, 38, 113, 117, 101, 114, 121, 61, 65, 83, 75, 37, 50, 48, 37, 55, 66, 37, 50, 48, 37, 55, 68]⟩, .int .i64 0]) ∧ Below w.heap.size w w') from by
    have := put_calls 7 ⟨#[65, 83, 75, 32, 123, 32, 125]⟩ w hg
    rw [show (ByteArray.mk #[65, 83, 75, 32, 123, 32, 125]).data.toList = awX from rfl, aw_put] at this
    exact this)
  have HGT := Lib.hid (fun W hW => show Calls Tryd.prog 11 #[.string ⟨#[105, 100, 61, 55, 38, 113, 117, 101, 114, 121, 61, 65, 83, 75, 37, 50, 48, 37, 55, 66, 37, 50, 48, 37, 55, 68]⟩] W (fun e w' => e = .returned (.tuple #[.agg #[.int .i64 7, .string ⟨#[65, 83, 75, 32, 123, 32, 125]⟩], .int .i64 0]) ∧ Below W.heap.size W w') from by
    have := get_calls ⟨#[105, 100, 61, 55, 38, 113, 117, 101, 114, 121, 61, 65, 83, 75, 37, 50, 48, 37, 55, 66, 37, 50, 48, 37, 55, 68]⟩ W (by show 26 ≤ _; omega) hW
    rw [show (ByteArray.mk #[105, 100, 61, 55, 38, 113, 117, 101, 114, 121, 61, 65, 83, 75, 37, 50, 48, 37, 55, 66, 37, 50, 48, 37, 55, 68]).data.toList = awB from rfl, aw_get] at this
    exact this)
  have hq := fun W => eq_req 9998 7 ⟨#[65, 83, 75, 32, 123, 32, 125]⟩ W
  have HG := Lib.hid hg
  clear hg
  go_enter Tryd.func9, Tryd.ntmps9
  go_wp2_with fail
  refine HP.out.mono ?_
  rintro e W1 ⟨rfl, hb⟩
  have HB1 := Lib.hid hb
  have HG1 := Lib.hid (HG.out.on hb)
  clear hb HP
  go_wp2_with fail
  refine (HGT.out _ HG1.out).mono ?_
  rintro e W2 ⟨rfl, hb⟩
  have HB2 := Lib.hid (fb2 HB1.out hb (Nat.le_refl _))
  clear hb HGT
  go_wp2
  go_ret
  exact ⟨rfl, HB2.out.alloc HB2.out.size _⟩

end Go.Proofs.YtnfmjkinahbilaaDoor
