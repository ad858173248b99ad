/- Package request's Check, and the document's. -/
import Derived.Test.YtnfmjkinahbilaaDoorRqPlain
import Derived.Test.YtnfmjkinahbilaaDoorPctKit
namespace Go.Proofs.YtnfmjkinahbilaaDoor
open Go.RowKit

theorem chk_id {i : Int} {l : List UInt8} (h : i < 0 ∨ 4096 ≤ i) : chkR ⟨i, l⟩ = 1 := by unfold chkR; rw [if_pos h]
theorem chk_long {i : Int} {l : List UInt8} (h : ¬ (i < 0 ∨ 4096 ≤ i)) (h2 : 4096 < l.length) : chkR ⟨i, l⟩ = 3 := by unfold chkR; rw [if_neg h, if_pos h2]
theorem chk_right {i : Int} {l : List UInt8} (h : ¬ (i < 0 ∨ 4096 ≤ i)) (h2 : ¬ 4096 < l.length) : chkR ⟨i, l⟩ = 0 := by unfold chkR; rw [if_neg h, if_neg h2]

theorem check_calls (i : Int) (s : ByteArray) (w : World) : Calls Tryd.prog 8 #[.agg #[.int .i64 i, .string s]] w fun e w' => e = .returned (.int .i64 (chkR ⟨i, s.data.toList⟩)) ∧ Below w.heap.size w w' := by
  have hl : s.data.toList.length = s.size := (Lib.size_eq s).symm
  by_cases h : i < 0
  · have HE := Lib.hid (chk_id (l := s.data.toList) (i := i) (.inl h))
    clear hl
    go_enter Tryd.func8, Tryd.ntmps8
    go_wp2
    go_ret
    exact ⟨ret_int HE.out.symm, box_below _ _⟩
  by_cases h1 : 4096 ≤ i
  · have HE := Lib.hid (chk_id (l := s.data.toList) (i := i) (.inr h1))
    clear hl
    go_enter Tryd.func8, Tryd.ntmps8
    go_wp2
    go_ret
    exact ⟨ret_int HE.out.symm, box_below _ _⟩
  by_cases h2 : 4096 < s.size
  · have HE := Lib.hid (chk_long (l := s.data.toList) (i := i) (by omega) (by omega))
    have k2 : (4096 : Int) < (s.size : Int) := by omega
    clear hl
    go_enter Tryd.func8, Tryd.ntmps8
    go_wp2
    go_ret
    exact ⟨ret_int HE.out.symm, box_below _ _⟩
  · have HE := Lib.hid (chk_right (l := s.data.toList) (i := i) (by omega) (by omega))
    have k2 : ¬ (4096 : Int) < (s.size : Int) := by omega
    clear hl
    go_enter Tryd.func8, Tryd.ntmps8
    go_wp2
    go_ret
    exact ⟨ret_int HE.out.symm, box_below _ _⟩
theorem rCheck_calls (i : Int) (s : ByteArray) (w : World) : Calls Tryd.prog 7 #[.agg #[.int .i64 i, .string s]] w fun e w' => e = .returned (.int .i64 (chkR ⟨i, s.data.toList⟩)) ∧ Below w.heap.size w w' := by
  have hl : s.data.toList.length = s.size := (Lib.size_eq s).symm
  by_cases h : i < 0
  · have HE := Lib.hid (chk_id (l := s.data.toList) (i := i) (.inl h))
    clear hl
    go_enter Tryd.func7, Tryd.ntmps7
    go_wp2
    go_ret
    exact ⟨ret_int HE.out.symm, box_below _ _⟩
  by_cases h1 : 4096 ≤ i
  · have HE := Lib.hid (chk_id (l := s.data.toList) (i := i) (.inr h1))
    clear hl
    go_enter Tryd.func7, Tryd.ntmps7
    go_wp2
    go_ret
    exact ⟨ret_int HE.out.symm, box_below _ _⟩
  by_cases h2 : 4096 < s.size
  · have HE := Lib.hid (chk_long (l := s.data.toList) (i := i) (by omega) (by omega))
    have k2 : (4096 : Int) < (s.size : Int) := by omega
    clear hl
    go_enter Tryd.func7, Tryd.ntmps7
    go_wp2
    go_ret
    exact ⟨ret_int HE.out.symm, box_below _ _⟩
  · have HE := Lib.hid (chk_right (l := s.data.toList) (i := i) (by omega) (by omega))
    have k2 : ¬ (4096 : Int) < (s.size : Int) := by omega
    clear hl
    go_enter Tryd.func7, Tryd.ntmps7
    go_wp2
    go_ret
    exact ⟨ret_int HE.out.symm, box_below _ _⟩

end Go.Proofs.YtnfmjkinahbilaaDoor
