/- Package percent's Decode: what an encoded text was, for every text. -/
import Derived.Test.YtnfmjkinahbilaaDoorPctFirst
namespace Go.Proofs.YtnfmjkinahbilaaDoor
open Go.RowKit

def decR (l : List UInt8) : List UInt8 × Int := match decS l with
  | none => ([], 2)
  | some o => (o, 0)
theorem firstB (s : ByteArray) (w : World) (h0 : 0 < s.size) (hs : s.size ≤ maxLen) (c : Int) (n : Nat) (h : firstR s.data.toList = (c, n)) :
    Calls Tryd.prog 47 #[.string s] w fun e w' => e = .returned (.tuple #[.int .u8 c, .int .i64 (n : Int)]) ∧ Below w.heap.size w w' := by
  have := first_calls s w h0 hs
  rw [h] at this
  refine this.mono ?_
  rintro e w' ⟨rfl, nn, rfl⟩
  exact ⟨rfl, drewN_below (Below.refl _ _) nn⟩
theorem first_ok {l : List UInt8} {b : UInt8} (h : firstS l = some b) : firstR l = ((b.toNat : Int), (enc1 b).length) ∧ (enc1 b).length ≤ l.length ∧ l = enc1 b ++ l.drop (enc1 b).length := by
  obtain ⟨t, rfl⟩ := first_some h
  refine ⟨by unfold firstR; rw [h], by simp, by simp⟩
theorem dec_step {L O l : List UInt8} {b : UInt8} (h : L = encS O ++ l) (hb : firstS l = some b) : L = encS (O ++ [b]) ++ l.drop (enc1 b).length := by
  have h2 := (first_ok hb).2.2
  have h3 : encS [b] = enc1 b := by simp [encS]
  rw [encS_append, h3, List.append_assoc, ← h2]; exact h
theorem decR_no {L O l : List UInt8} (h : L = encS O ++ l) (h0 : 0 < l.length) (hf : firstS l = none) : decR L = ([], 2) := by
  unfold decR
  rw [dec_no h (by intro e; rw [e] at h0; simp at h0) hf]
theorem decR_all {L O l : List UInt8} (h : L = encS O ++ l) (h0 : l = []) : decR L = (O, 0) := by
  unfold decR
  rw [dec_all (o := O) (by rw [h, h0, List.append_nil])]
theorem dec_room {L O l : List UInt8} (h : L = encS O ++ l) : O.length + l.length ≤ L.length := by
  have := dec_len (l := encS O) (o := O) rfl
  rw [h, List.length_append]; omega

set_option maxRecDepth 100000 in
set_option maxHeartbeats 2000000 in
theorem pDecode_calls (s : ByteArray) (w : World) (hs : s.size ≤ 140737488355327) :
    Calls Tryd.prog 38 #[.string s] w fun e w' => e = .returned (.tuple #[.string (bs (decR s.data.toList).1), .int .i64 (decR s.data.toList).2]) ∧ Below w.heap.size w w' := by
  have HSL := Lib.hid (show s.data.toList.length = s.size from (Lib.size_eq s).symm)
  have HNEW := Lib.hid (buf_new w)
  go_enter Tryd.func38, Tryd.ntmps38
  go_wp2
  go_loopg [0] s.size (fun g v wr => ∃ (S : ByteArray) (O : List UInt8), v = .string S ∧ S.size ≤ g ∧ Hid (s.data.toList = encS O ++ S.data.toList) ∧ Hid (Buf w.heap.size w.heap.size O wr) ∧ Hid (Below w.heap.size w wr))
  case atStart => exact ⟨s, [], rfl, Nat.le_refl _, Lib.hid rfl, HNEW, Lib.hid (box_below _ _)⟩
  case round =>
    obtain ⟨W1, rfl⟩ : ∃ W1, W1 = wr := ⟨_, rfl⟩
    obtain ⟨S, O, rfl, hSg, HO, HBF, HB⟩ := hrel
    have hroom := dec_room HO.out
    rw [HSL.out, ← Lib.size_eq] at hroom
    by_cases h0 : 0 < S.size
    · obtain ⟨gg, rfl⟩ : ∃ gg, gk = gg + 1 := ⟨gk - 1, by omega⟩
      have k0 : (0 : Int) < (S.size : Int) := by omega
      cases hf : firstS S.data.toList with
      | none =>
        have HE := Lib.hid (decR_no HO.out (by rw [← Lib.size_eq]; exact h0) hf)
        have HF := Lib.hid (firstB S W1 h0 (by unfold maxLen; omega) 0 0 (by unfold firstR; rw [hf]))
        clear hf
        go_wp2_with fail
        refine HF.out.mono ?_
        rintro e W2 ⟨rfl, hb⟩
        have HB2 := Lib.hid (fb2 HB.out hb (Nat.le_refl _))
        clear hb
        go_wp2
        go_ret2
        exact ⟨by rw [HE.out]; rfl, HB2.out⟩
      | some b =>
        obtain ⟨hr, hle, _⟩ := first_ok hf
        have HN := Lib.hid (dec_step HO.out hf)
        have HF := Lib.hid (firstB S W1 h0 (by unfold maxLen; omega) _ _ hr)
        have hpos := enc1_pos b
        rw [← Lib.size_eq] at hle
        obtain ⟨n, hn⟩ : ∃ n, (enc1 b).length = n := ⟨_, rfl⟩
        rw [hn] at HN HF hpos hle
        have HS := Lib.hid (show (S.extract n S.size).data.toList = S.data.toList.drop n by rw [drop_bs]; rfl)
        have HSZ := Lib.hid (show (S.extract n S.size).size = S.size - n by rw [Lib.size_eq, HS.out, List.length_drop, ← Lib.size_eq])
        have g0 : ((n : Int) == 0) = false := beq_eq_false_iff_ne.2 (by omega)
        have k1 : (0 : Int) ≤ (n : Int) := by omega
        have k2 : (n : Int) ≤ (S.size : Int) := by omega
        clear hf hr hn
        go_wp2_with fail
        refine HF.out.mono ?_
        rintro e W2 ⟨rfl, hb⟩
        have HB2 := Lib.hid (fb2 HB.out hb (Nat.le_refl _))
        have HBF2 := Lib.hid (buf_on HBF.out hb)
        clear hb HB HBF
        go_wp2_with fail
        refine (wByte_calls w.heap.size w.heap.size O b W2 HBF2.out (by omega) HB2.out.size).mono ?_
        rintro e W3 ⟨rfl, hbf, hb⟩
        have HBF3 := Lib.hid hbf
        have HB3 := Lib.hid (HB2.out.trans hb)
        clear hbf hb
        go_wp2
        go_roundg gg
        case measure => omega
        case rel => exact ⟨S.extract n S.size, O ++ [b], rfl, by rw [HSZ.out]; omega, by rw [HS.out]; exact HN, HBF3, HB3⟩
    · have HE := Lib.hid (decR_all HO.out (List.eq_nil_of_length_eq_zero (by rw [← Lib.size_eq]; omega)))
      have k0 : ¬ (0 : Int) < (S.size : Int) := by omega
      go_wp2_with fail
      refine (bufText_calls w.heap.size w.heap.size O W1 HBF.out HB.out.size).mono ?_
      rintro e W2 ⟨rfl, hb⟩
      have HB2 := Lib.hid (HB.out.trans hb)
      clear hb
      go_wp2
      go_ret2
      exact ⟨by rw [HE.out]; rfl, HB2.out⟩

end Go.Proofs.YtnfmjkinahbilaaDoor
