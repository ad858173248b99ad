/- Any text, encoded, and back; the encoding of texts one behind the other: the walks of the statements' functions. -/
import Derived.Test.YtnapnfobnfadeaaPctAwake
import Derived.Test.YtnapnfobnfadeaaRPctEnc
namespace Go.Proofs.Ytnapnfobnfadeaa
open Go.RowKit

theorem decR_enc (l : List UInt8) : decR (encS l) = (l, 0) := by unfold decR; rw [dec_enc]
theorem enc_size (s : ByteArray) : (bs (encS s.data.toList)).size ≤ 3 * s.size := by
  have := encS_len s.data.toList
  rw [bs_size]
  rw [← Lib.size_eq] at this
  exact this

set_option maxRecDepth 100000 in
set_option maxHeartbeats 1000000 in
theorem percentEncodes_calls (s : ByteArray) (w : World) (hs : s.size ≤ 40000000000000) :
    Calls Try.prog 3 #[.string s] w fun e w' => e = .returned (.bool true) ∧ Below w.heap.size w w' := by
  have hz := enc_size s
  have HE := Lib.hid (fun W => pEncode_calls s W hs)
  have HR := Lib.hid (fun W => rEncode_calls s W hs)
  have HD := Lib.hid (show ∀ W, Calls Try.prog 9 #[.string (bs (encS s.data.toList))] W fun e w' => e = .returned (.tuple #[.string s, .int .i64 0]) ∧ Below W.heap.size W w' from fun W => by
    have := pDecode_calls (bs (encS s.data.toList)) W (by omega)
    rw [show (bs (encS s.data.toList)).data.toList = encS s.data.toList from rfl, decR_enc] at this
    exact this)
  generalize bs (encS s.data.toList) = A at HE HR HD
  clear hz
  go_enter Try.func3, Try.ntmps3
  go_wp2_with fail
  refine (HE.out _).mono ?_
  rintro e W1 ⟨rfl, hb⟩
  have HB1 := Lib.hid hb
  clear hb
  go_wp2_with fail
  refine (HD.out _).mono ?_
  rintro e W2 ⟨rfl, hb⟩
  have HB2 := Lib.hid (fb2 HB1.out hb (Nat.le_refl _))
  clear hb
  go_wp2_with fail
  refine (HR.out _).mono ?_
  rintro e W3 ⟨rfl, hb⟩
  have HB3 := Lib.hid (fb2 HB2.out hb (Nat.le_refl _))
  clear hb
  go_wp2_with fail
  refine (awake_calls _).mono ?_
  rintro e W4 ⟨rfl, hb⟩
  have HB4 := Lib.hid (fb2 HB3.out hb (Nat.le_refl _))
  clear hb
  go_wp2
  go_ret
  exact ⟨rfl, HB4.out⟩

set_option maxRecDepth 100000 in
set_option maxHeartbeats 1000000 in
theorem percentJoins_calls (a b : ByteArray) (w : World) (ha : a.size ≤ 20000000000000) (hb : b.size ≤ 20000000000000) :
    Calls Try.prog 7 #[.string a, .string b] w fun e w' => e = .returned (.bool true) ∧ Below w.heap.size w w' := by
  have hza := enc_size a
  have hzb := enc_size b
  have hab : (a ++ b).size ≤ 40000000000000 := by rw [ByteArray.size_append]; omega
  have HAB := Lib.hid (fun W => pEncode_calls (a ++ b) W hab)
  have HA := Lib.hid (fun W => pEncode_calls a W (by omega))
  have HB := Lib.hid (fun W => pEncode_calls b W (by omega))
  have e : bs (encS (a ++ b).data.toList) = bs (encS a.data.toList) ++ bs (encS b.data.toList) := by
    rw [bs_app, ← encS_append]
    congr 2
  rw [e] at HAB
  clear e hab
  obtain ⟨A, hA⟩ : ∃ A, bs (encS a.data.toList) = A := ⟨_, rfl⟩
  obtain ⟨B, hB⟩ : ∃ B, bs (encS b.data.toList) = B := ⟨_, rfl⟩
  rw [hA] at HAB HA hza
  rw [hB] at HAB HB hzb
  clear hA hB
  have j1 : a.size + b.size ≤ 281474976710656 := by omega
  have j2 : A.size + B.size ≤ 281474976710656 := by omega
  go_enter Try.func7, Try.ntmps7
  go_wp2_with fail
  refine (HAB.out _).mono ?_
  rintro e W1 ⟨rfl, hb1⟩
  have HB1 := Lib.hid hb1
  clear hb1
  go_wp2_with fail
  refine (HA.out _).mono ?_
  rintro e W2 ⟨rfl, hb1⟩
  have HB2 := Lib.hid (fb2 HB1.out hb1 (Nat.le_refl _))
  clear hb1
  go_wp2_with fail
  refine (HB.out _).mono ?_
  rintro e W3 ⟨rfl, hb1⟩
  have HB3 := Lib.hid (fb2 HB2.out hb1 (Nat.le_refl _))
  clear hb1
  go_wp2_with fail
  refine (awake_calls _).mono ?_
  rintro e W4 ⟨rfl, hb1⟩
  have HB4 := Lib.hid (fb2 HB3.out hb1 (Nat.le_refl _))
  clear hb1
  go_wp2
  go_ret
  exact ⟨rfl, HB4.out⟩

end Go.Proofs.Ytnapnfobnfadeaa
