/- The byte that an encoded text begins with: package percent's first, for every text that isn't empty. -/
import Derived.Test.YtnfmjkinahbilaaDoorPctEnc
import Derived.Lib.Bytealg
namespace Go.Proofs.YtnfmjkinahbilaaDoor
open Go.RowKit

set_option maxRecDepth 100000 in
theorem val_index (c : UInt8) : Lib.indexByte [48, 49, 50, 51, 52, 53, 54, 55, 56, 57, 65, 66, 67, 68, 69, 70] c = valZ (c.toNat : Int) := by
  have key : ∀ n : Fin 256, Lib.indexByte [48, 49, 50, 51, 52, 53, 54, 55, 56, 57, 65, 66, 67, 68, 69, 70] (UInt8.ofNat n.1) = valZ ((n.1 : Nat) : Int) := by decide
  have hb : c.toNat < 256 := c.toNat_lt
  have := key ⟨c.toNat, hb⟩
  simpa using this
theorem indexDig (c : UInt8) (w : World) : Calls Tryd.prog 64 #[.string ⟨#[48, 49, 50, 51, 52, 53, 54, 55, 56, 57, 65, 66, 67, 68, 69, 70]⟩, .int .u8 (c.toNat : Int)] w fun e w' => e = .returned (.int .i64 (valZ (c.toNat : Int))) ∧ w' = w := by
  have := Tryd.strings_IndexByte ⟨#[48, 49, 50, 51, 52, 53, 54, 55, 56, 57, 65, 66, 67, 68, 69, 70]⟩ (c.toNat : Int) w
  have e : (c.toNat : Int).toNat.toUInt8 = c := by simp
  rw [e] at this
  rw [← val_index]
  exact this

set_option maxRecDepth 100000 in
theorem or_two (a b : Int) (ha : 0 ≤ a) (ha' : a < 16) (hb : 0 ≤ b) (hb' : b < 16) : bits BinOp.or IntKind.u8 (a * 16) b = 16 * a + b := by
  have key : ∀ x y : Fin 16, bits BinOp.or IntKind.u8 (((x.1 : Nat) : Int) * 16) ((y.1 : Nat) : Int) = 16 * ((x.1 : Nat) : Int) + ((y.1 : Nat) : Int) := by decide
  have := key ⟨a.toNat, by omega⟩ ⟨b.toNat, by omega⟩
  simp only [Int.toNat_of_nonneg ha, Int.toNat_of_nonneg hb] at this
  exact this
/- what first tells: the byte and how many it takes -/
def firstR (l : List UInt8) : Int × Nat := match firstS l with
  | none => (0, 0)
  | some b => ((b.toNat : Int), (enc1 b).length)
theorem ret_first {l : List UInt8} {c n : Int} (h : firstR l = (c, n.toNat)) (hn : 0 ≤ n) : Ending.returned (.tuple #[.int .u8 c, .int .i64 n]) = .returned (.tuple #[.int .u8 (firstR l).1, .int .i64 ((firstR l).2 : Int)]) := by
  rw [h, Int.toNat_of_nonneg hn]

set_option maxRecDepth 100000 in
set_option maxHeartbeats 2000000 in
theorem first_calls (s : ByteArray) (w : World) (h0 : 0 < s.size) (hs : s.size ≤ maxLen) :
    Calls Tryd.prog 47 #[.string s] w fun e w' => e = .returned (.tuple #[.int .u8 (firstR s.data.toList).1, .int .i64 ((firstR s.data.toList).2 : Int)]) ∧ ∃ n, w' = w.drewN n := by
  unfold maxLen at hs
  have HP := Lib.hid (plain_calls (s[0].toNat : Int))
  have hl : 0 < s.data.toList.length := by simpa using h0
  have e0 : s.data.toList = s[0] :: s.data.toList.drop 1 := by
    conv => lhs; rw [← List.drop_zero (l := s.data.toList), List.drop_eq_getElem_cons hl]
    rw [get_list s 0 h0]
  cases hp : plainZ (s[0].toNat : Int) with
  | true =>
    have HE := Lib.hid (show firstR s.data.toList = ((s[0].toNat : Int), (1 : Int).toNat) by unfold firstR; rw [e0, first_plain _ _ hp]; dsimp only; rw [enc1_plain hp]; rfl)
    rw [hp] at HP
    clear hp e0
    go_enter Tryd.func47, Tryd.ntmps47
    go_wp2_with (go_at_call 30; refine (HP.out _).mono ?_; rintro e w' ⟨rfl, hw⟩; obtain rfl := hw.symm; clear hw)
    go_ret2
    exact ⟨ret_first HE.out (by decide), 0, rfl⟩
  | false =>
    rw [hp] at HP
    by_cases h37 : s[0] = 37
    · have g37 : ((s[0].toNat : Int) != 37) = false := by rw [h37]; rfl
      by_cases h3 : s.size < 3
      · have HE := Lib.hid (show firstR s.data.toList = (0, (0 : Int).toNat) by unfold firstR; rw [e0, h37, first_short _ (by rw [List.length_drop, ← Lib.size_eq]; omega)]; rfl)
        have k3 : (s.size : Int) < 3 := by omega
        clear hp e0 h37
        go_enter Tryd.func47, Tryd.ntmps47
        go_wp2_with (go_at_call 30; refine (HP.out _).mono ?_; rintro e w' ⟨rfl, hw⟩; obtain rfl := hw.symm; clear hw)
        go_ret2
        exact ⟨ret_first HE.out (by decide), 0, rfl⟩
      · have hl1 : 1 < s.data.toList.length := by rw [← Lib.size_eq]; omega
        have hl2 : 2 < s.data.toList.length := by rw [← Lib.size_eq]; omega
        have h1 : 1 < s.size := by omega
        have h2 : 2 < s.size := by omega
        have e1 : s.data.toList.drop 1 = s[1] :: s[2] :: s.data.toList.drop 3 := by
          rw [List.drop_eq_getElem_cons hl1, List.drop_eq_getElem_cons hl2, get_list s 1 h1, get_list s 2 h2]
        rw [e1, h37] at e0
        have hf := first_pc s[1] s[2] (s.data.toList.drop 3)
        rw [← e0] at hf
        have HI1 := Lib.hid (fun nn => indexDig s[1] (w.drewN nn))
        have HI2 := Lib.hid (fun nn => indexDig s[2] (w.drewN nn))
        have k3 : ¬ (s.size : Int) < 3 := by omega
        have j1 : (1 : Int) < (s.size : Int) := by omega
        have j2 : (2 : Int) < (s.size : Int) := by omega
        have b1 := val_lt s[1]; have b2 := val_lt s[2]; have b3 := val_ge s[1]; have b4 := val_ge s[2]
        have hbyte := @two_byte s[1] s[2]
        unfold two at hf hbyte
        have HPT := Lib.hid (plain_calls ((16 : Int) * valZ (s[1].toNat : Int) + valZ (s[2].toNat : Int)))
        obtain ⟨d1, hd1⟩ : ∃ d, valZ (s[1].toNat : Int) = d := ⟨_, rfl⟩
        obtain ⟨d2, hd2⟩ : ∃ d, valZ (s[2].toNat : Int) = d := ⟨_, rfl⟩
        rw [hd1] at HI1 b1 b3
        rw [hd2] at HI2 b2 b4
        rw [hd1, hd2] at hf hbyte HPT
        clear hd1 hd2 e0 e1 hp h37
        by_cases n1 : d1 < 0
        · have HE := Lib.hid (show firstR s.data.toList = (0, (0 : Int).toNat) by unfold firstR; rw [hf, if_pos (.inl n1)]; rfl)
          clear hf hbyte
          go_enter Tryd.func47, Tryd.ntmps47
          go_wp2_with (go_at_call 30; refine (HP.out _).mono ?_; rintro e w' ⟨rfl, hw⟩; obtain rfl := hw.symm; clear hw)
          go_quiet (first | (go_at_call 64; with_reducible exact Calls.quiet_of_same (HI1.out _)) | (go_at_call 64; with_reducible exact Calls.quiet_of_same (HI2.out _)))
          go_wp2
          go_ret2
          exact ⟨ret_first HE.out (by decide), _, rfl⟩
        · by_cases n2 : d2 < 0
          · have HE := Lib.hid (show firstR s.data.toList = (0, (0 : Int).toNat) by unfold firstR; rw [hf, if_pos (.inr n2)]; rfl)
            clear hf hbyte
            go_enter Tryd.func47, Tryd.ntmps47
            go_wp2_with (go_at_call 30; refine (HP.out _).mono ?_; rintro e w' ⟨rfl, hw⟩; obtain rfl := hw.symm; clear hw)
            go_quiet (first | (go_at_call 64; with_reducible exact Calls.quiet_of_same (HI1.out _)) | (go_at_call 64; with_reducible exact Calls.quiet_of_same (HI2.out _)))
            go_wp2
            go_ret2
            exact ⟨ret_first HE.out (by decide), _, rfl⟩
          · rw [if_neg (by omega)] at hf
            have HOR := Lib.hid (or_two d1 d2 (by omega) b1 (by omega) b2)
            replace hbyte := hbyte (by rw [not_or]; exact ⟨n1, n2⟩)
            obtain ⟨x, hx⟩ : ∃ x, 16 * d1 + d2 = x := ⟨_, rfl⟩
            rw [hx] at hf hbyte HPT HOR
            clear hx
            cases hq : plainZ x with
            | true =>
              have HE := Lib.hid (show firstR s.data.toList = (0, (0 : Int).toNat) by unfold firstR; rw [hf, hq]; rfl)
              rw [hq] at HPT
              clear hf hbyte hq
              go_enter Tryd.func47, Tryd.ntmps47
              go_wp2_with (go_at_call 30; refine (HP.out _).mono ?_; rintro e w' ⟨rfl, hw⟩; obtain rfl := hw.symm; clear hw)
              go_quiet (first | (go_at_call 64; with_reducible exact Calls.quiet_of_same (HI1.out _)) | (go_at_call 64; with_reducible exact Calls.quiet_of_same (HI2.out _)))
              go_wp2_with fail
              rw [HOR.out]
              refine (HPT.out _).mono ?_
              rintro e W2 ⟨rfl, hw⟩
              obtain rfl := hw.symm
              clear hw
              go_wp2
              go_ret2
              exact ⟨ret_first HE.out (by decide), _, rfl⟩
            | false =>
              have HE := Lib.hid (show firstR s.data.toList = (x, (3 : Int).toNat) by
                unfold firstR
                rw [hf, hq, if_neg (by simp)]
                dsimp only
                rw [hbyte, enc1_odd (by rw [hbyte]; exact hq)]; rfl)
              rw [hq] at HPT
              clear hf hbyte hq
              go_enter Tryd.func47, Tryd.ntmps47
              go_wp2_with (go_at_call 30; refine (HP.out _).mono ?_; rintro e w' ⟨rfl, hw⟩; obtain rfl := hw.symm; clear hw)
              go_quiet (first | (go_at_call 64; with_reducible exact Calls.quiet_of_same (HI1.out _)) | (go_at_call 64; with_reducible exact Calls.quiet_of_same (HI2.out _)))
              go_wp2_with fail
              rw [HOR.out]
              refine (HPT.out _).mono ?_
              rintro e W2 ⟨rfl, hw⟩
              obtain rfl := hw.symm
              clear hw
              go_wp2
              go_ret2
              exact ⟨ret_first HE.out (by decide), _, rfl⟩
    · have HE := Lib.hid (show firstR s.data.toList = (0, (0 : Int).toNat) by unfold firstR; rw [e0, first_odd _ _ hp h37]; rfl)
      have g37 : ((s[0].toNat : Int) != 37) = true := by
        have : ¬ (s[0].toNat : Int) = 37 := fun c => h37 ((u8_of (b := s[0]) (n := 37) (by omega)).1 c)
        simpa using this
      clear hp e0 h37
      go_enter Tryd.func47, Tryd.ntmps47
      go_wp2_with (go_at_call 30; refine (HP.out _).mono ?_; rintro e w' ⟨rfl, hw⟩; obtain rfl := hw.symm; clear hw)
      go_ret2
      exact ⟨ret_first HE.out (by decide), 0, rfl⟩

end Go.Proofs.YtnfmjkinahbilaaDoor
