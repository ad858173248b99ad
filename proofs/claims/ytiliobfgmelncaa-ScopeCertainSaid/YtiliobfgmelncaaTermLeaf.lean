/- What the small functions on bytes of package term come to: each answers just its test, and leaves the world as it was. -/
import Derived.Test.YtiliobfgmelncaaTermPlains
import Derived.Test.YtiliobfgmelncaaShelf
import Derived.Test.YtiliobfgmelncaaProg
import Derived.WalkKit
import Derived.Lib.Hide
import Derived.WalkSpells
import Derived.WalkLawsBesides
namespace Go.Proofs.Ytiliobfgmelncaa
open Go.RowKit

set_option maxHeartbeats 400000 in
theorem isSmall_calls (r : Int) (w : World) :
    Calls Try.prog 82 #[.int .i32 r] w fun e w' => e = .returned (.bool (smallZ r)) ∧ w' = w := by
  by_cases h1 : 97 ≤ r <;> by_cases h2 : r ≤ 122 <;> go_enter Try.func82, Try.ntmps82 <;> go_wp2 <;> go_ret <;> exact ⟨by simp [smallZ, *], rfl⟩

set_option maxHeartbeats 400000 in
theorem isNameByte_calls (r k : Int) (w : World) :
    Calls Try.prog 68 #[.int .i32 r, .int .i64 k] w fun e w' => e = .returned (.bool (nameZ r k)) ∧ w' = w := by
  go_enter Try.func68, Try.ntmps68
  go_wp2
  all_goals go_ret
  all_goals exact ⟨ret_bool (by rw [Bool.eq_iff_iff]; simp [nameZ, letterZ, smallZ, bigZ, digitZ] <;> omega), rfl⟩

set_option maxHeartbeats 400000 in
theorem isLiteralByte_calls (r : Int) (w : World) :
    Calls Try.prog 84 #[.int .i32 r] w fun e w' => e = .returned (.bool (litZ r)) ∧ w' = w := by
  go_enter Try.func84, Try.ntmps84
  go_wp2
  all_goals go_ret
  all_goals exact ⟨ret_bool (by rw [Bool.eq_iff_iff]; simp [litZ] <;> omega), rfl⟩

theorem mark_ascii : ∀ n : Fin 128, decide (0 ≤ Lib.indexByte [60, 62, 34, 123, 125, 124, 94, 96, 92] n.val.toUInt8) = markZ (n.val : Int) := by decide +kernel
theorem mark_of (r : Int) (h0 : 0 ≤ r) (h1 : r < 128) : decide (0 ≤ Lib.indexByte [60, 62, 34, 123, 125, 124, 94, 96, 92] r.toNat.toUInt8) = markZ r := by
  obtain ⟨n, rfl⟩ := Int.eq_ofNat_of_zero_le h0
  exact mark_ascii ⟨n, by omega⟩

set_option maxHeartbeats 400000 in
theorem isIriByte_calls (r : Int) (w : World) :
    Calls Try.prog 87 #[.int .i32 r] w fun e w' => e = .returned (.bool (iriZ r)) ∧ w' = w := by
  by_cases h1 : 33 ≤ r <;> by_cases h2 : r ≤ 126
  · have hm := mark_of r (by omega) (by omega)
    have HM := Lib.hid hm
    clear hm
    go_enter Try.func87, Try.ntmps87
    go_wp2_with (go_at_call 89; refine (Try.strings_ContainsRune_ascii _ r _ (by omega) (by omega)).mono ?_; rintro e w' ⟨rfl, rfl⟩)
    go_ret
    exact ⟨ret_bool (by rw [show iriZ r = !markZ r from by simp [iriZ, h1, h2], ← HM.out]), rfl⟩
  all_goals
    go_enter Try.func87, Try.ntmps87
    go_wp2_with fail
    go_ret
    exact ⟨ret_bool (by rw [Bool.eq_iff_iff]; simp [iriZ] <;> omega), rfl⟩

end Go.Proofs.Ytiliobfgmelncaa
