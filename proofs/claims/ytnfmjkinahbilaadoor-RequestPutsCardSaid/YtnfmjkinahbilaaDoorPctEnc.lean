/- Package percent's Encode: every text, encoded. -/
import Derived.Test.YtnfmjkinahbilaaDoorRPctEnc
import Derived.Test.YtnfmjkinahbilaaDoorPctBuf
namespace Go.Proofs.YtnfmjkinahbilaaDoor
open Go.RowKit

theorem write37 (B b : Nat) (l : List UInt8) (w : World) (h : Buf B b l w) (hlen : l.length + 1 ≤ 140737488355328) (hB : B ≤ w.heap.size) :
    Calls Tryd.prog 31 #[.pointer (some ⟨b, 0, none⟩), .int .u8 37] w fun e w' => e = .returned .nilIface ∧ Buf B b (l ++ [37]) w' ∧ Below B w w' := wByte_calls B b l 37 w h hlen hB
theorem dig_at (q : Nat) (h : q < 16) : ((ByteArray.mk #[48, 49, 50, 51, 52, 53, 54, 55, 56, 57, 65, 66, 67, 68, 69, 70])[q]'h).toNat = (hexD q).toNat := by
  have key : ∀ n : Fin 16, ((ByteArray.mk #[48, 49, 50, 51, 52, 53, 54, 55, 56, 57, 65, 66, 67, 68, 69, 70])[n.1]'n.2).toNat = (hexD n.1).toNat := by decide
  exact key ⟨q, h⟩

set_option maxRecDepth 100000 in
set_option maxHeartbeats 2000000 in
theorem pEncode_calls (s : ByteArray) (w : World) (hs : s.size ≤ 40000000000000) :
    Calls Tryd.prog 21 #[.string s] w fun e w' => e = .returned (.string (bs (encS s.data.toList))) ∧ Below w.heap.size w w' := by
  have HSL := Lib.hid (show s.data.toList.length = s.size from (Lib.size_eq s).symm)
  have HNEW := Lib.hid (buf_new w)
  go_enter Tryd.func21, Tryd.ntmps21
  go_wp2
  go_loopg [8] s.size (fun g i wr => ∃ (k : Nat), i = .int .i64 k ∧ k + g = s.size ∧ Hid (Buf w.heap.size w.heap.size (encS (s.data.toList.take k)) wr) ∧ Hid (Below w.heap.size w wr))
  case atStart => exact ⟨0, rfl, by omega, HNEW, Lib.hid (box_below _ _)⟩
  case round =>
    obtain ⟨W1, rfl⟩ : ∃ W1, W1 = wr := ⟨_, rfl⟩
    obtain ⟨k, rfl, hkg, HBF, HB⟩ := hrel
    obtain ⟨O, hO⟩ : ∃ O, encS (s.data.toList.take k) = O := ⟨_, rfl⟩
    have hroom := enc_room s.data.toList k hO.symm
    rw [HSL.out] at hroom
    rw [hO] at HBF
    have HO := Lib.hid hO.symm
    clear hO
    by_cases hk : k < s.size
    · obtain ⟨gg, rfl⟩ : ∃ gg, gk = gg + 1 := ⟨gk - 1, by omega⟩
      have hkl : k < s.data.toList.length := by rw [HSL.out]; exact hk
      have hnx := enc_next hkl HO.out
      rw [get_list s k hk] at hnx
      have HNX := Lib.hid hnx
      have HP := Lib.hid (plain_calls (s[k].toNat : Int))
      have hol : O.length ≤ 120000000000000 := by omega
      clear hnx hroom
      cases hp : plainZ (s[k].toNat : Int) with
      | true =>
        have HN := Lib.hid (show O ++ [s[k]] = encS (s.data.toList.take (k + 1)) by rw [← HNX.out, enc1_plain hp])
        rw [hp] at HP
        clear hp HNX
        go_wp2_with fail
        refine (HP.out _).mono ?_
        rintro e W2 ⟨rfl, hw⟩
        obtain rfl := hw.symm
        clear hw
        go_wp2_with fail
        refine (wByte_calls w.heap.size w.heap.size O s[k] W1 HBF.out (by omega) HB.out.size).mono ?_
        rintro e W3 ⟨rfl, hbf, hb⟩
        have HBF3 := Lib.hid hbf
        have HB3 := Lib.hid (HB.out.trans hb)
        clear hbf hb
        go_wp2
        go_roundg gg
        case measure => omega
        case rel => exact ⟨k + 1, by go_num, by omega, by rw [← HN.out]; exact HBF3, HB3⟩
      | false =>
        have hc : s[k].toNat < 256 := s[k].toNat_lt
        have hn := enc1_odd hp
        have HN := Lib.hid (show O ++ [37] ++ [hexD (s[k].toNat / 16)] ++ [hexD (s[k].toNat % 16)] = encS (s.data.toList.take (k + 1)) by rw [← HNX.out, hn]; simp)
        rw [hp] at HP
        have HQ := Lib.hid (show s[k].toNat / 16 < 16 by omega)
        have HR := Lib.hid (show s[k].toNat % 16 < 16 by omega)
        clear hp HNX hn
        go_wp2_with fail
        refine (HP.out _).mono ?_
        rintro e W2 ⟨rfl, hw⟩
        obtain rfl := hw.symm
        clear hw
        go_wp2_with fail
        refine (write37 w.heap.size w.heap.size O W1 HBF.out (by omega) HB.out.size).mono ?_
        rintro e W3 ⟨rfl, hbf, hb⟩
        have HBF3 := Lib.hid hbf
        have HB3 := Lib.hid (HB.out.trans hb)
        clear hbf hb HBF HB
        go_wp2_with fail
        rw [dig_at _ HQ.out]
        refine (wByte_calls w.heap.size w.heap.size (O ++ [37]) (hexD (s[k].toNat / 16)) W3 HBF3.out (by simp; omega) HB3.out.size).mono ?_
        rintro e W4 ⟨rfl, hbf, hb⟩
        have HBF4 := Lib.hid hbf
        have HB4 := Lib.hid (HB3.out.trans hb)
        clear hbf hb HBF3 HB3
        go_wp2_with fail
        rw [dig_at _ HR.out]
        refine (wByte_calls w.heap.size w.heap.size (O ++ [37] ++ [hexD (s[k].toNat / 16)]) (hexD (s[k].toNat % 16)) W4 HBF4.out (by simp; omega) HB4.out.size).mono ?_
        rintro e W5 ⟨rfl, hbf, hb⟩
        have HBF5 := Lib.hid hbf
        have HB5 := Lib.hid (HB4.out.trans hb)
        clear hbf hb HBF4 HB4
        go_wp2
        go_roundg gg
        case measure => omega
        case rel => exact ⟨k + 1, by go_num, by omega, by rw [← HN.out]; exact HBF5, HB5⟩
    · have HE := Lib.hid (enc_take s.data.toList k (by rw [HSL.out]; omega) HO.out)
      have k1 : ¬ (k : Int) < (s.size : Int) := by omega
      clear hk hkg hroom
      go_wp2_with fail
      refine (bufText_calls w.heap.size w.heap.size O W1 HBF.out HB.out.size).mono ?_
      rintro e W2 ⟨rfl, hb⟩
      have HB2 := Lib.hid (HB.out.trans hb)
      clear hb
      go_wp2
      go_ret
      exact ⟨by rw [HE.out]; rfl, HB2.out⟩

end Go.Proofs.YtnfmjkinahbilaaDoor
