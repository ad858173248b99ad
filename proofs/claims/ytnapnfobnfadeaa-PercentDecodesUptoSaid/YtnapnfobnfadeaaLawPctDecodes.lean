/- What any text was, or why nothing; encoded again it is that: the walk of the statement's function. -/
import Derived.Test.YtnapnfobnfadeaaPctAwake
import Derived.Test.YtnapnfobnfadeaaRPctDec
namespace Go.Proofs.Ytnapnfobnfadeaa
open Go.RowKit

set_option maxRecDepth 100000 in
set_option maxHeartbeats 1000000 in
theorem percentDecodes_calls (s : ByteArray) (w : World) (hs : s.size ≤ 40000000000000) :
    Calls Try.prog 4 #[.string s] w fun e w' => e = .returned (.bool true) ∧ Below w.heap.size w w' := by
  have HD := Lib.hid (fun W => pDecode_calls s W (by omega))
  have HR := Lib.hid (fun W => rDecode_calls s W hs)
  unfold decR rDecR at *
  cases hd : decS s.data.toList with
  | none =>
    rw [hd] at HD HR
    dsimp only at HD HR
    rw [show bs ([] : List UInt8) = ⟨#[]⟩ from rfl] at HD HR
    clear hd
    go_enter Try.func4, Try.ntmps4
    go_wp2_with fail
    refine (HD.out _).mono ?_
    rintro e W1 ⟨rfl, hb⟩
    have HB1 := Lib.hid hb
    clear hb
    go_wp2_with fail
    refine (HR.out _).mono ?_
    rintro e W2 ⟨rfl, hb⟩
    have HB2 := Lib.hid (fb2 HB1.out hb (Nat.le_refl _))
    clear hb
    go_wp2_with fail
    refine (awake_calls _).mono ?_
    rintro e W3 ⟨rfl, hb⟩
    have HB3 := Lib.hid (fb2 HB2.out hb (Nat.le_refl _))
    clear hb
    go_wp2
    go_ret
    exact ⟨rfl, HB3.out⟩
  | some o =>
    rw [hd] at HD HR
    dsimp only at HD HR
    have he := enc_dec _ _ hd
    have hl := dec_len he.symm
    rw [← Lib.size_eq] at hl
    have HE := Lib.hid (show ∀ W, Calls Try.prog 8 #[.string (bs o)] W fun e w' => e = .returned (.string s) ∧ Below W.heap.size W w' from fun W => by
      have := pEncode_calls (bs o) W (by rw [bs_size]; omega)
      rw [show (bs o).data.toList = o from rfl, he] at this
      exact this)
    clear hd he hl
    generalize bs o = A at HD HR HE
    go_enter Try.func4, Try.ntmps4
    go_wp2_with fail
    refine (HD.out _).mono ?_
    rintro e W1 ⟨rfl, hb⟩
    have HB1 := Lib.hid hb
    clear hb
    go_wp2_with fail
    refine (HR.out _).mono ?_
    rintro e W2 ⟨rfl, hb⟩
    have HB2 := Lib.hid (fb2 HB1.out hb (Nat.le_refl _))
    clear hb
    go_wp2_with fail
    refine (HE.out _).mono ?_
    rintro e W3 ⟨rfl, hb⟩
    have HB3 := Lib.hid (fb2 HB2.out hb (Nat.le_refl _))
    clear hb
    go_wp2_with fail
    refine (awake_calls _).mono ?_
    rintro e W4 ⟨rfl, hb⟩
    have HB4 := Lib.hid (fb2 HB3.out hb (Nat.le_refl _))
    clear hb
    go_wp2
    go_ret
    exact ⟨rfl, HB4.out⟩

end Go.Proofs.Ytnapnfobnfadeaa
