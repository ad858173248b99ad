/- Which bytes stand as they are; the digits of base 16: percent's plain and the document's own plain, digit, value, for every byte. -/
import Derived.Test.YtnfmjkinahbilaaDoorPctKit
namespace Go.Proofs.YtnfmjkinahbilaaDoor
open Go.RowKit

set_option maxHeartbeats 1000000 in
theorem plain_calls (c : Int) (w : World) :
    Calls Tryd.prog 30 #[.int .u8 c] w fun e w' => e = .returned (.bool (plainZ c)) ∧ w' = w := by
  have e : ∀ n : Int, (c == n) = true ∨ (c == n) = false := fun n => by cases (c == n) <;> simp
  rcases e 45 with g1 | g1 <;> rcases e 95 with g2 | g2 <;> rcases e 46 with g3 | g3 <;> rcases e 126 with g4 | g4
  all_goals
    have k1 := g1; have k2 := g2; have k3 := g3; have k4 := g4
    simp at k1 k2 k3 k4
    have K1 := Lib.hid k1; have K2 := Lib.hid k2; have K3 := Lib.hid k3; have K4 := Lib.hid k4
    clear k1 k2 k3 k4
    by_cases h1 : 97 ≤ c <;> by_cases h2 : c ≤ 122 <;> by_cases h3 : 65 ≤ c <;> by_cases h4 : c ≤ 90 <;> by_cases h5 : 48 ≤ c <;> by_cases h6 : c ≤ 57
    all_goals first
      | (exfalso; have := K1.out; have := K2.out; have := K3.out; have := K4.out; omega)
      | (go_enter Tryd.func30, Tryd.ntmps30
         go_wp2
         go_ret
         exact ⟨ret_bool (by have := K1.out; have := K2.out; have := K3.out; have := K4.out; rw [Bool.eq_iff_iff]; simp [plainZ, wordZ, letterZ, smallZ, bigZ, digitZ] <;> omega), rfl⟩)

theorem one_byteB (W : World) (c : UInt8) (v : Int) (hv : v = (c.toNat : Int)) :
    (convert 52 9 (.slice (some ⟨W.heap.size, 0, none⟩) 1 1)).run Tryd.prog (W.alloc (.cells #[.int .u8 v] 5)) = .ok (.string (bs [c])) (W.alloc (.cells #[.int .u8 v] 5)) :=
  run_convert_bytes_back (P := Tryd.prog) _ _ _ 5 ⟨W.heap.size, 0, none⟩ 1 [c] Tryd.underlying52 Tryd.underlying5 Tryd.underlying9 (fun j hj => by
    have h0 : j = 0 := by simpa using hj
    subst h0
    have h1 : (W.alloc (.cells #[.int .u8 v] 5)).cell? ⟨W.heap.size, 0, none⟩ = some (.int .u8 v) := by
      rw [World.cell?_alloc_at _ _ _ _ rfl]; rfl
    show (W.alloc _).cell? ⟨W.heap.size, 0, none⟩ = some (.int .u8 (c.toNat : Int))
    rw [h1, hv])

theorem plain_atoms (c : UInt8) : plainZ (c.toNat : Int) = (allB wordZ [c] || hasB (c.toNat : Int) [45, 46, 126]) := by
  rw [Bool.eq_iff_iff]
  simp only [plainZ, allB, hasB, Bool.or_eq_true, List.all_cons, List.all_nil, Bool.and_true, List.any_cons, List.any_nil, Bool.or_false, decide_eq_true_eq]
  have e : ∀ n : Nat, n < 256 → (((UInt8.ofNat n).toNat : Int) = (c.toNat : Int) ↔ (c.toNat : Int) = n) := fun n h => by simp; omega
  have e1 := e 45 (by omega); have e2 := e 46 (by omega); have e3 := e 126 (by omega)
  exact or_congr Iff.rfl (or_congr e1.symm (or_congr e2.symm e3.symm))

set_option maxHeartbeats 1000000 in
theorem rPlain_calls (c : UInt8) (w : World) :
    Calls Tryd.prog 23 #[.int .u8 (c.toNat : Int)] w fun e w' => e = .returned (.bool (plainZ (c.toNat : Int))) ∧ Below w.heap.size w w' := by
  have h0 := plain_atoms c
  have hAll : Hid (∀ W, Calls Tryd.prog 35 #[.string (bs [c]), .int .i64 3] W fun e w' => e = .returned (.bool (allB wordZ [c])) ∧ w' = W) := Lib.hid fun W => by
    have := rAll3_calls (bs [c]) W (by show 1 ≤ maxLen; unfold maxLen; omega)
    exact this
  have hIs : Hid (∀ W, Calls Tryd.prog 36 #[.int .u8 (c.toNat : Int), .string ⟨#[45, 46, 126]⟩] W fun e w' => e = .returned (.bool (hasB (c.toNat : Int) [45, 46, 126])) ∧ w' = W) := Lib.hid fun W =>
    rIs_calls (c.toNat : Int) ⟨#[45, 46, 126]⟩ W (by decide)
  have hcv := one_byteB w c (c.toNat : Int) rfl
  have H0 := Lib.hid h0
  clear h0
  generalize hA : allB wordZ [c] = A at hAll H0
  generalize hB : hasB (c.toNat : Int) [45, 46, 126] = B at hIs H0
  clear hA hB
  generalize (bs [c]) = S at hAll hcv
  cases A
  all_goals cases B
  all_goals
    go_enter Tryd.func23, Tryd.ntmps23
    go_wp2_with (first | (go_at_call 35; refine (hAll.out _).mono ?_; rintro e w' ⟨rfl, hw⟩; obtain rfl := hw.symm; clear hw) | (go_at_call 36; refine (hIs.out _).mono ?_; rintro e w' ⟨rfl, hw⟩; obtain rfl := hw.symm; clear hw))
    go_ret
    exact ⟨ret_bool (by rw [H0.out]; rfl), box_below _ _⟩

theorem hex_wrap (n : Nat) (h : n < 16) : ((hexD n).toNat : Int) = hexN n := by
  have key : ∀ n : Fin 16, ((hexD n.1).toNat : Int) = hexN n.1 := by decide
  exact key ⟨n, h⟩

set_option maxHeartbeats 1000000 in
theorem rDigit_calls (n : Nat) (h : n < 16) (w : World) :
    Calls Tryd.prog 24 #[.int .i64 (n : Int)] w fun e w' => e = .returned (.int .u8 ((hexD n).toNat : Int)) ∧ w' = w := by
  have H0 := Lib.hid (hex_wrap n h)
  by_cases h1 : (n : Int) < 10
  · have H1 := Lib.hid (show ((hexN n : Nat) : Int) = 48 + n by unfold hexN; rw [if_pos (by omega)]; omega)
    go_enter Tryd.func24, Tryd.ntmps24
    go_wp2
    go_ret
    exact ⟨ret_int (by rw [H0.out, H1.out]), rfl⟩
  · have H1 := Lib.hid (show ((hexN n : Nat) : Int) = 55 + n by unfold hexN; rw [if_neg (by omega)]; omega)
    go_enter Tryd.func24, Tryd.ntmps24
    go_wp2
    go_ret
    exact ⟨ret_int (by rw [H0.out, H1.out]), rfl⟩

end Go.Proofs.YtnfmjkinahbilaaDoor
