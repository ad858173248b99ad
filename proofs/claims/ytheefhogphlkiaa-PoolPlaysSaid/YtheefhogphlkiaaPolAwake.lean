/- The program answers: the statements' awake. -/
import Derived.Test.YtheefhogphlkiaaPolDrop
namespace Go.Proofs.Ytheefhogphlkiaa
open Go.RowKit

def mA : MsgL := ⟨-1, 0, ⟨#[97]⟩⟩
def mB : MsgL := ⟨-1, 0, ⟨#[98]⟩⟩
theorem aw_s1 : sendE [] mA = 0 ∧ sendL [] mA = [mA] := ⟨by kernel_rfl, by kernel_rfl⟩
theorem aw_s2 : sendE [mA] mB = 0 ∧ sendL [mA] mB = [mA, mB] := ⟨by kernel_rfl, by kernel_rfl⟩
theorem aw_d : dblE [mA, mB] 0 = 0 ∧ dblL [mA, mB] 0 = [mA, mB, mA] := ⟨by kernel_rfl, by kernel_rfl⟩
theorem aw_t : takeE [mA, mB, mA] 1 = 0 ∧ takeM [mA, mB, mA] 1 = mB ∧ takeL [mA, mB, mA] 1 = [mA, mA] := ⟨by kernel_rfl, by kernel_rfl, by kernel_rfl⟩

set_option maxRecDepth 100000 in
set_option maxHeartbeats 2000000 in
theorem awake_calls (w : World) : Calls Try.prog 15 #[] w fun e w' => e = .returned (.bool true) ∧ Below w.heap.size w w' := by
  obtain ⟨P, hP⟩ : ∃ P, w.heap.size = P := ⟨_, rfl⟩
  obtain ⟨W1, hW1⟩ : ∃ W1, w.alloc (.cells #[.slice none 0 0] 55) = W1 := ⟨_, rfl⟩
  have HP1 := Lib.hid (show PoolT W1 w.heap.size P (.slice none 0 0) [] by rw [← hW1, ← hP]; exact new_pool w _ (Nat.le_refl _))
  have HB1 := Lib.hid (show Below w.heap.size w W1 by rw [← hW1]; exact box_below _ _)
  have HW1 := Lib.hid hW1
  have HPE := Lib.hid hP
  clear hP hW1
  have S1 := Lib.hid (fun v W (h : PoolT W w.heap.size P v []) => (show Calls Try.prog 17 #[.pointer (some ⟨P, 0, none⟩), .agg #[.int .i64 (-1), .int .i64 0, .string ⟨#[97]⟩]] W (PutT w.heap.size P v 0 [mA] W) from by
    have := send_calls w.heap.size P v [] mA W h
    rw [aw_s1.1, aw_s1.2] at this
    exact this))
  have S2 := Lib.hid (fun v W (h : PoolT W w.heap.size P v [mA]) => (show Calls Try.prog 17 #[.pointer (some ⟨P, 0, none⟩), .agg #[.int .i64 (-1), .int .i64 0, .string ⟨#[98]⟩]] W (PutT w.heap.size P v 0 [mA, mB] W) from by
    have := send_calls w.heap.size P v [mA] mB W h
    rw [aw_s2.1, aw_s2.2] at this
    exact this))
  have S3 := Lib.hid (fun v W (h : PoolT W w.heap.size P v [mA, mB]) => (show Calls Try.prog 18 #[.pointer (some ⟨P, 0, none⟩), .int .i64 0] W (PutT w.heap.size P v 0 [mA, mB, mA] W) from by
    have := double_calls w.heap.size P v [mA, mB] 0 W h
    rw [aw_d.1, aw_d.2] at this
    exact this))
  have S4 := Lib.hid (fun v W (h : PoolT W w.heap.size P v [mA, mB, mA]) => (show Calls Try.prog 20 #[.pointer (some ⟨P, 0, none⟩), .int .i64 1] W (TakeT w.heap.size P v mB 0 [mA, mA] W) from by
    have := take_calls w.heap.size P v [mA, mB, mA] 1 W h
    rw [aw_t.1, aw_t.2.1, aw_t.2.2] at this
    exact this))
  have S5 := Lib.hid (fun v W (h : PoolT W w.heap.size P v [mA, mA]) => len_calls w.heap.size P v [mA, mA] W h)
  go_enter Try.func15, Try.ntmps15
  go_wp2_with fail
  refine (new_calls _).mono ?_
  rintro e w1 ⟨rfl, rfl⟩
  rw [HW1.out, HPE.out]
  go_wp2_with fail
  refine (message_calls _ _).mono ?_
  rintro e W2 ⟨rfl, hb⟩
  have HP2 := Lib.hid (pool_on HP1.out hb)
  have HB2 := Lib.hid (fb2 HB1.out hb (Nat.le_refl _))
  clear hb
  go_wp2_with fail
  refine (S1.out _ _ HP2.out).mono ?_
  rintro e W3 ⟨rfl, v3, hp, hm⟩
  have HP3 := Lib.hid hp
  have HB3 := Lib.hid (HB2.out.trans (moved_below HP2.out hm))
  clear hp hm
  go_wp2_with fail
  refine (message_calls _ _).mono ?_
  rintro e W4 ⟨rfl, hb⟩
  have HP4 := Lib.hid (pool_on HP3.out hb)
  have HB4 := Lib.hid (fb2 HB3.out hb (Nat.le_refl _))
  clear hb
  go_wp2_with fail
  refine (S2.out _ _ HP4.out).mono ?_
  rintro e W5 ⟨rfl, v5, hp, hm⟩
  have HP5 := Lib.hid hp
  have HB5 := Lib.hid (HB4.out.trans (moved_below HP4.out hm))
  clear hp hm
  go_wp2_with fail
  refine (S3.out _ _ HP5.out).mono ?_
  rintro e W6 ⟨rfl, v6, hp, hm⟩
  have HP6 := Lib.hid hp
  have HB6 := Lib.hid (HB5.out.trans (moved_below HP5.out hm))
  clear hp hm
  go_wp2_with fail
  refine (S4.out _ _ HP6.out).mono ?_
  rintro e W7 ⟨rfl, v7, hp, hm⟩
  have HB7 := Lib.hid (HB6.out.trans (moved_below HP6.out hm))
  have HP8 := Lib.hid (pool_on hp (box_below W7 (.cells #[.int .i64 mB.f, .int .i64 mB.t, .string mB.b] 29)))
  have HB8 := Lib.hid (HB7.out.alloc HB7.out.size (.cells #[.int .i64 mB.f, .int .i64 mB.t, .string mB.b] 29))
  clear hp hm
  simp only [mB] at HP8 HB8 ⊢
  go_wp2_with (go_at_call 12; refine (S5.out _ _ HP8.out).mono ?_; rintro e w' ⟨rfl, hw⟩; obtain rfl := hw.symm; clear hw)
  go_ret
  exact ⟨rfl, HB8.out⟩

end Go.Proofs.Ytheefhogphlkiaa
