/- A digit's value by the document's own answer, for every byte. -/
import Derived.Test.YtnfmjkinahbilaaDoorRPctEnc
namespace Go.Proofs.YtnfmjkinahbilaaDoor
open Go.RowKit

theorem val_found {c : UInt8} {k : Nat} (hk : k < 16) (h : hexD k = c) : valZ (c.toNat : Int) = k := by rw [← h]; exact val_hex k hk
theorem val_lost {c : UInt8} (h : ∀ j, j < 16 → ¬ hexD j = c) : valZ (c.toNat : Int) = -1 := by
  by_cases hn : valZ (c.toNat : Int) < 0
  · have := val_ge c; omega
  · have := val_lt c
    exact absurd (hex_val c hn) (h _ (by omega))
theorem byte_eq (a b : UInt8) : ((a.toNat : Int) == (b.toNat : Int)) = decide (a = b) := by
  by_cases h : a = b
  · subst h; simp
  · rw [decide_eq_false h]
    refine beq_eq_false_iff_ne.2 fun e => h ?_
    have : a.toNat = b.toNat := by omega
    exact UInt8.toNat_inj.1 this

set_option maxRecDepth 100000 in
set_option maxHeartbeats 1000000 in
theorem rValue_calls (c : UInt8) (w : World) :
    Calls Tryd.prog 53 #[.int .u8 (c.toNat : Int)] w fun e w' => e = .returned (.int .i64 (valZ (c.toNat : Int))) ∧ w' = w := by
  go_enter Tryd.func53, Tryd.ntmps53
  go_wp2
  go_loopg [3] 16 (fun g i wr => ∃ k : Nat, i = .int .i64 k ∧ k + g = 16 ∧ Hid (∀ j, j < k → ¬ hexD j = c) ∧ Hid (w = wr))
  case atStart => exact ⟨0, rfl, rfl, Lib.hid (fun j hj => absurd hj (Nat.not_lt_zero _)), Lib.hid rfl⟩
  case round =>
    obtain ⟨k, rfl, hkg, HL, HW⟩ := hrel
    obtain rfl := HW.out
    by_cases hk : k < 16
    · obtain ⟨gg, rfl⟩ : ∃ gg, gk = gg + 1 := ⟨gk - 1, by omega⟩
      have HD := Lib.hid (fun W => rDigit_calls k hk W)
      have k1 : (k : Int) < 16 := by omega
      by_cases hd : hexD k = c
      · have HE := Lib.hid (val_found hk hd)
        have g1 : (((hexD k).toNat : Int) == (c.toNat : Int)) = true := by rw [byte_eq, decide_eq_true hd]
        clear hd
        go_wp2_with fail
        refine (HD.out _).mono ?_
        rintro e w' ⟨rfl, hw⟩
        obtain rfl := hw.symm
        clear hw
        go_wp2
        go_ret
        exact ⟨ret_int HE.out.symm, rfl⟩
      · have HN := Lib.hid (show ∀ j, j < k + 1 → ¬ hexD j = c from fun j hj e => by
          rcases Nat.lt_or_ge j k with h | h
          · exact HL.out j h e
          · exact hd (by rw [show k = j by omega]; exact e))
        have g1 : (((hexD k).toNat : Int) == (c.toNat : Int)) = false := by rw [byte_eq, decide_eq_false hd]
        clear hd
        go_wp2_with fail
        refine (HD.out _).mono ?_
        rintro e w' ⟨rfl, hw⟩
        obtain rfl := hw.symm
        clear hw
        go_wp2
        go_roundg gg
        case measure => omega
        case rel => exact ⟨k + 1, by go_num, by omega, HN, Lib.hid rfl⟩
    · have HE := Lib.hid (val_lost (c := c) fun j hj => HL.out j (by omega))
      have k1 : ¬ (k : Int) < 16 := by omega
      go_wp2
      go_ret
      exact ⟨ret_int HE.out.symm, rfl⟩

end Go.Proofs.YtnfmjkinahbilaaDoor
