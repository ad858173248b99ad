/- Package pool's small functions: which messages are right, which places there are; the document's Right (written by gen/mkpolleaf.py). -/
import Derived.Test.YtheefhogphlkiaaPolKit
namespace Go.Proofs.Ytheefhogphlkiaa
open Go.RowKit

theorem size_dec (n : Nat) : decide ((n : Int) ≤ 65536) = decide (n ≤ 65536) := by
  rw [Bool.eq_iff_iff]; simp; omega
set_option maxHeartbeats 400000 in
theorem isEnd_calls (n : Int) (w : World) : Calls Try.prog 31 #[.int .i64 n] w fun e w' => e = .returned (.bool (endB n)) ∧ w' = w := by
  by_cases h1 : -1 ≤ n
  · by_cases h2 : n < 8
    · go_enter Try.func31, Try.ntmps31
      go_wp2
      go_ret
      exact ⟨by simp [endB, h1, h2], rfl⟩
    · go_enter Try.func31, Try.ntmps31
      go_wp2
      go_ret
      exact ⟨by simp [endB, h2], rfl⟩
  · go_enter Try.func31, Try.ntmps31
    go_wp2
    go_ret
    exact ⟨by simp [endB]; omega, rfl⟩

set_option maxHeartbeats 400000 in
theorem has_calls (a : Option Addr) (n c : Nat) (i : Int) (w : World) : Calls Try.prog 32 #[.slice a n c, .int .i64 i] w fun e w' => e = .returned (.bool (inB n i)) ∧ w' = w := by
  by_cases h1 : 0 ≤ i
  · by_cases h2 : i < (n : Int)
    · go_enter Try.func32, Try.ntmps32
      go_wp2
      go_ret
      exact ⟨by simp [inB, h1, h2], rfl⟩
    · go_enter Try.func32, Try.ntmps32
      go_wp2
      go_ret
      exact ⟨by simp [inB, h2], rfl⟩
  · go_enter Try.func32, Try.ntmps32
    go_wp2
    go_ret
    exact ⟨by simp [inB]; omega, rfl⟩

set_option maxHeartbeats 400000 in
theorem new_calls (w : World) : Calls Try.prog 8 #[] w fun e w' => e = .returned (.pointer (some ⟨w.heap.size, 0, none⟩)) ∧ w' = w.alloc (.cells #[.slice none 0 0] 55) := by
  go_enter Try.func8, Try.ntmps8
  go_wp2
  go_ret
  exact ⟨rfl, rfl⟩

set_option maxHeartbeats 1000000 in
theorem right_walk (f t : Int) (b : ByteArray) (A1 A2 B : Bool) (w : World) (e1 : ∀ W, Calls Try.prog 31 #[.int .i64 f] W fun e w' => e = .returned (.bool A1) ∧ w' = W) (e2 : ∀ W, Calls Try.prog 31 #[.int .i64 t] W fun e w' => e = .returned (.bool A2) ∧ w' = W)
    (hB : Hid (B = (A1 && A2 && !(f == t) && ((f == -1) || (t == -1)) && decide (b.size ≤ 65536)))) :
    Calls Try.prog 27 #[.agg #[.int .i64 f, .int .i64 t, .string b]] w fun e w' => e = .returned (.bool B) ∧ Below w.heap.size w w' := by
  have E1 := Lib.hid e1
  have E2 := Lib.hid e2
  clear e1 e2
  obtain ⟨X, hX⟩ : ∃ X, w.heap.size = X := ⟨_, rfl⟩
  obtain ⟨W1, hW1⟩ : ∃ W1, w.alloc (.cells #[.int .i64 f, .int .i64 t, .string b] 29) = W1 := ⟨_, rfl⟩
  have HB := Lib.hid (show Below w.heap.size w W1 by rw [← hW1]; exact box_below _ _)
  have HK := Lib.hid (show Blk W1 X 29 #[.int .i64 f, .int .i64 t, .string b] by rw [← hW1, ← hX]; exact blk_new _ _ _)
  have c0 : W1.cell? ⟨X, 0, none⟩ = some (.int .i64 f) := (blk_cell HK.out 0).trans rfl
  have c1 : W1.cell? ⟨X, 1, none⟩ = some (.int .i64 t) := (blk_cell HK.out 1).trans rfl
  have c2 : W1.cell? ⟨X, 2, none⟩ = some (.string b) := (blk_cell HK.out 2).trans rfl
  have HW1 := Lib.hid hW1
  have HX := Lib.hid hX
  clear hW1 hX
  cases A1 with
  | false =>
    go_enter Try.func27, Try.ntmps27
    go_wp2_with fail
    rw [HW1.out, HX.out]
    refine (E1.out _).mono ?_
    rintro e w' ⟨rfl, hw⟩
    obtain rfl := hw.symm
    clear hw
    go_wp2
    go_ret
    exact ⟨by rw [hB.out]; simp [], HB.out⟩
  | true =>
    cases A2 with
    | false =>
      go_enter Try.func27, Try.ntmps27
      go_wp2_with fail
      rw [HW1.out, HX.out]
      refine (E1.out _).mono ?_
      rintro e w' ⟨rfl, hw⟩
      obtain rfl := hw.symm
      clear hw
      go_wp2_with fail
      refine (E2.out _).mono ?_
      rintro e w' ⟨rfl, hw⟩
      obtain rfl := hw.symm
      clear hw
      go_wp2
      go_ret
      exact ⟨by rw [hB.out]; simp [], HB.out⟩
    | true =>
      rcases Bool.eq_false_or_eq_true (f != t) with h1 | h1
      rotate_left
      · go_enter Try.func27, Try.ntmps27
        go_wp2_with fail
        rw [HW1.out, HX.out]
        refine (E1.out _).mono ?_
        rintro e w' ⟨rfl, hw⟩
        obtain rfl := hw.symm
        clear hw
        go_wp2_with fail
        refine (E2.out _).mono ?_
        rintro e w' ⟨rfl, hw⟩
        obtain rfl := hw.symm
        clear hw
        go_wp2
        go_ret
        exact ⟨by rw [hB.out]; simp [bne_eq_false_iff_eq.1 h1], HB.out⟩
      · rcases Bool.eq_false_or_eq_true (f == -1) with h2 | h2
        · go_enter Try.func27, Try.ntmps27
          go_wp2_with fail
          rw [HW1.out, HX.out]
          refine (E1.out _).mono ?_
          rintro e w' ⟨rfl, hw⟩
          obtain rfl := hw.symm
          clear hw
          go_wp2_with fail
          refine (E2.out _).mono ?_
          rintro e w' ⟨rfl, hw⟩
          obtain rfl := hw.symm
          clear hw
          go_wp2
          go_ret
          exact ⟨by rw [hB.out]; have g1 := beq_eq_false_iff_ne.2 (bne_iff_ne.1 h1); rw [h2]; simp [g1, size_dec], HB.out⟩
        · rcases Bool.eq_false_or_eq_true (t == -1) with h3 | h3
          · go_enter Try.func27, Try.ntmps27
            go_wp2_with fail
            rw [HW1.out, HX.out]
            refine (E1.out _).mono ?_
            rintro e w' ⟨rfl, hw⟩
            obtain rfl := hw.symm
            clear hw
            go_wp2_with fail
            refine (E2.out _).mono ?_
            rintro e w' ⟨rfl, hw⟩
            obtain rfl := hw.symm
            clear hw
            go_wp2
            go_ret
            exact ⟨by rw [hB.out]; have g1 := beq_eq_false_iff_ne.2 (bne_iff_ne.1 h1); rw [h3]; simp [g1, size_dec], HB.out⟩
          · go_enter Try.func27, Try.ntmps27
            go_wp2_with fail
            rw [HW1.out, HX.out]
            refine (E1.out _).mono ?_
            rintro e w' ⟨rfl, hw⟩
            obtain rfl := hw.symm
            clear hw
            go_wp2_with fail
            refine (E2.out _).mono ?_
            rintro e w' ⟨rfl, hw⟩
            obtain rfl := hw.symm
            clear hw
            go_wp2
            go_ret
            exact ⟨by rw [hB.out]; simp [h2, h3], HB.out⟩

theorem right_is (f t : Int) (b : ByteArray) : rightM ⟨f, t, b⟩ = (endB f && endB t && !(f == t) && ((f == -1) || (t == -1)) && decide (b.size ≤ 65536)) := by
  rw [Bool.eq_iff_iff]
  simp [rightM, endB]
  omega
theorem right_calls (f t : Int) (b : ByteArray) (w : World) : Calls Try.prog 27 #[.agg #[.int .i64 f, .int .i64 t, .string b]] w fun e w' => e = .returned (.bool (rightM ⟨f, t, b⟩)) ∧ Below w.heap.size w w' :=
  right_walk f t b _ _ _ w (fun W => isEnd_calls f W) (fun W => isEnd_calls t W) (Lib.hid (right_is f t b))

set_option maxHeartbeats 1000000 in
theorem rRight_calls (f t : Int) (b : ByteArray) (w : World) : Calls Try.prog 16 #[.agg #[.int .i64 f, .int .i64 t, .string b]] w fun e w' => e = .returned (.bool (rightM ⟨f, t, b⟩)) ∧ Below w.heap.size w w' := by
  by_cases h0 : f = -1
  · by_cases h1 : 0 ≤ t
    · by_cases h2 : t < 8
      · by_cases h4 : (b.size : Int) ≤ 65536
        · go_enter Try.func16, Try.ntmps16
          go_wp2
          go_ret
          exact ⟨by simp [rightM]; omega, box_below _ _⟩
        · go_enter Try.func16, Try.ntmps16
          go_wp2
          go_ret
          exact ⟨by simp [rightM]; omega, box_below _ _⟩
      · go_enter Try.func16, Try.ntmps16
        go_wp2
        go_ret
        exact ⟨by simp [rightM]; omega, box_below _ _⟩
    · go_enter Try.func16, Try.ntmps16
      go_wp2
      go_ret
      exact ⟨by simp [rightM]; omega, box_below _ _⟩
  · by_cases h5 : t = -1
    · by_cases h1 : 0 ≤ f
      · by_cases h2 : f < 8
        · by_cases h4 : (b.size : Int) ≤ 65536
          · go_enter Try.func16, Try.ntmps16
            go_wp2
            go_ret
            exact ⟨by simp [rightM]; omega, box_below _ _⟩
          · go_enter Try.func16, Try.ntmps16
            go_wp2
            go_ret
            exact ⟨by simp [rightM]; omega, box_below _ _⟩
        · go_enter Try.func16, Try.ntmps16
          go_wp2
          go_ret
          exact ⟨by simp [rightM]; omega, box_below _ _⟩
      · go_enter Try.func16, Try.ntmps16
        go_wp2
        go_ret
        exact ⟨by simp [rightM]; omega, box_below _ _⟩
    · go_enter Try.func16, Try.ntmps16
      go_wp2
      go_ret
      exact ⟨by simp [rightM]; omega, box_below _ _⟩

set_option maxHeartbeats 400000 in
theorem message_calls (s : ByteArray) (w : World) : Calls Try.prog 19 #[.string s] w fun e w' => e = .returned (.agg #[.int .i64 (-1), .int .i64 0, .string s]) ∧ Below w.heap.size w w' := by
  go_enter Try.func19, Try.ntmps19
  go_wp2
  refine bodyPost_ret (v := .agg #[.int .i64 (-1), .int .i64 0, .string s]) (by simp [results, Try.results19, go_sem]) rfl ⟨rfl, ?_⟩
  exact box_below _ _

end Go.Proofs.Ytheefhogphlkiaa
