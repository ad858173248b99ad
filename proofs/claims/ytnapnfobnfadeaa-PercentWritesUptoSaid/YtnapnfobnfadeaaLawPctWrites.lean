/- Any pairs, written, and read again: the walk of the statement's function. -/
import Derived.Test.YtnapnfobnfadeaaPctWrite
import Derived.Test.YtnapnfobnfadeaaRPctSame
import Derived.Test.YtnapnfobnfadeaaPctAwake
namespace Go.Proofs.Ytnapnfobnfadeaa
open Go.RowKit

set_option maxRecDepth 100000 in
set_option maxHeartbeats 1000000 in
theorem percentWrites_calls (L : List PairL) (a : Option Addr) (n c : Nat) (w : World) (ha : PrA w a n c L) (hM : ∀ p ∈ L, p.k.length ≤ 1048576 ∧ p.v.length ≤ 1048576) :
    Calls Try.prog 5 #[.slice a n c] w fun e w' => e = .returned (.bool true) ∧ Below w.heap.size w w' := by
  by_cases h6 : 64 < n
  · have HW := Lib.hid (pWrite_long a n c w h6)
    have k6 : (64 : Int) < (n : Int) := by omega
    go_enter Try.func5, Try.ntmps5
    go_wp2_with fail
    refine (HW.out).mono ?_
    rintro e W1 ⟨rfl, hw⟩
    obtain rfl := hw.symm
    clear hw
    go_wp2_with fail
    refine (awake_calls _).mono ?_
    rintro e W2 ⟨rfl, hb⟩
    have HB2 := Lib.hid hb
    clear hb
    go_wp2
    go_ret
    exact ⟨rfl, HB2.out⟩
  · have hn : n ≤ 64 := by omega
    have HA := Lib.hid ha
    have HL := Lib.hid ha.len
    have HW := Lib.hid (pWrite_calls L a n c w ha hM hn)
    have HR := Lib.hid (fun W (h : PrA W a n c L) => rWrite_calls L a n c W h hM hn)
    have hz : (bs (wrS L)).size ≤ 402653312 := by
      have h1 := wrS_len 1048576 L hM
      have h3 := Nat.mul_le_mul_right (6 * 1048576 + 2) (show L.length ≤ 64 by rw [HL.out]; exact hn)
      rw [bs_size]; omega
    have HD := Lib.hid (show ∀ W, Calls Try.prog 15 #[.string (bs (wrS L))] W (ReadT W (L, 0)) from fun W => by
      have := pRead_calls (bs (wrS L)) W (by omega)
      rw [show (bs (wrS L)).data.toList = wrS L from rfl, rd_wr L (by rw [HL.out]; exact hn)] at this
      exact this)
    have k6 : ¬ (64 : Int) < (n : Int) := by omega
    clear hz
    generalize bs (wrS L) = A at HW HR HD
    clear ha hM
    go_enter Try.func5, Try.ntmps5
    go_wp2_with fail
    refine (HW.out).mono ?_
    rintro e W1 ⟨rfl, hb⟩
    have HB1 := Lib.hid hb
    have HA1 := Lib.hid (HA.out.on hb)
    clear hb
    go_wp2_with fail
    refine (HR.out _ HA1.out).mono ?_
    rintro e W2 ⟨rfl, hb⟩
    have HB2 := Lib.hid (fb2 HB1.out hb (Nat.le_refl _))
    have HA2 := Lib.hid (HA1.out.on hb)
    clear hb
    go_wp2_with fail
    refine (HD.out _).mono ?_
    rintro e W3 ⟨v, rfl, hown, hb⟩
    have HB3 := Lib.hid (fb2 HB2.out hb (Nat.le_refl _))
    have HA3 := Lib.hid (HA2.out.on hb)
    obtain ⟨a2, c2, rfl, hP⟩ := prA_own hown rfl
    dsimp only at hP ⊢
    rw [HL.out] at hP ⊢
    have HP := Lib.hid hP
    clear hb hown hP
    go_wp2_with fail
    refine (same_calls L a2 a n c2 c W3 HP.out HA3.out).mono ?_
    rintro e W4 ⟨rfl, hb⟩
    have HB4 := Lib.hid (fb2 HB3.out hb (Nat.le_refl _))
    clear hb
    go_wp2_with fail
    refine (awake_calls _).mono ?_
    rintro e W5 ⟨rfl, hb⟩
    have HB5 := Lib.hid (fb2 HB4.out hb (Nat.le_refl _))
    clear hb
    go_wp2
    go_ret
    exact ⟨rfl, HB5.out⟩

end Go.Proofs.Ytnapnfobnfadeaa
