/- The sign that a text begins with, by the document's own answer: the same as package lex's, for every text that isn't empty. -/
import Derived.Test.YtgkpdcjkobieiaaDoorRefRun
import Derived.Test.YtgkpdcjkobieiaaDoorRefTyped
namespace Go.Proofs.YtgkpdcjkobieiaaDoor
open Go.RowKit

theorem pre_take2 (l : List UInt8) (a b : UInt8) : Lib.hasPrefix l [a, b] = (l.take 2 == [a, b]) := by
  match l with
  | [] => rfl
  | [c] =>
    rw [Bool.eq_iff_iff]
    simp [Lib.hasPrefix]
  | c :: d :: r =>
    unfold Lib.hasPrefix
    show (a == c && (b == d && List.isPrefixOf [] r)) = ([c, d] == [a, b])
    rw [Bool.eq_iff_iff]
    simp only [Bool.and_eq_true, beq_iff_eq, List.isPrefixOf_nil_left, and_true, List.cons.injEq]
    exact ⟨fun h => ⟨h.1.symm, h.2.symm⟩, fun h => ⟨h.1.symm, h.2.symm⟩⟩
theorem single_has (b : Int) : hasB b [123, 125, 40, 41, 46, 44, 42, 43, 45, 47, 61, 60, 62, 33] = oneZ b := by
  rw [Bool.eq_iff_iff]; simp [hasB, oneZ]; omega
theorem twoB_take (l : List UInt8) : twoB l = (l.take 2 == [60, 61] || l.take 2 == [62, 61] || l.take 2 == [33, 61] || l.take 2 == [38, 38] || l.take 2 == [124, 124]) := by
  unfold twoB; simp only [pre_take2]
theorem oneB_get (s : ByteArray) (h : 0 < s.size) : oneB s.data.toList = oneZ (s[0].toNat : Int) := by rw [list_cons s h]; rfl
theorem sign_two {l : List UInt8} (h : twoB l = true) : signN l = 2 := by unfold signN; rw [h]; rfl
theorem sign_one {l : List UInt8} (h : twoB l = false) (h1 : oneB l = true) : signN l = 1 := by unfold signN; rw [h, h1]; rfl
theorem sign_none {l : List UInt8} (h : twoB l = false) (h1 : oneB l = false) : signN l = 0 := by unfold signN; rw [h, h1]; rfl

set_option maxHeartbeats 4000000 in
theorem rsign_calls (s : ByteArray) (w : World) (_hs : s.size ≤ 281474976710656) (h1 : 1 ≤ s.size) :
    Calls Tryd.prog 42 #[.string s] w fun e w' => e = .returned (.int .i64 (signN s.data.toList)) ∧ w' = w := by
  have hpb := piece_bs s 0 2
  rw [List.drop_zero, Nat.sub_zero] at hpb
  have hX : (s.extract 0 2).toList = s.data.toList.take 2 := by rw [hpb, bs_toList]
  have h0 : 0 < s.size := h1
  have hlen : 2 ≤ s.size → (s.data.toList.take 2).length = 2 := fun h => by rw [List.length_take, ← Lib.size_eq]; omega
  have hshort : ¬ 2 ≤ s.size → twoB s.data.toList = false := fun h => by
    rw [Bool.eq_false_iff]; intro c; have := two_len _ c; rw [← Lib.size_eq] at this; exact h this
  have htb := twoB_take s.data.toList
  have hob := oneB_get s h0
  rw [← hX] at htb
  have g0 : (0 : Int).toNat = 0 := rfl
  clear hpb hX hlen
  by_cases h2 : 2 ≤ s.size
  · clear hshort
    by_cases hall : twoB s.data.toList = true
    · have HS := Lib.hid (sign_two hall)
      rw [hall] at htb
      clear hob hall
      have hc := htb.symm
      simp only [Bool.or_eq_true, beq_iff_eq] at hc
      clear htb
      rcases hc with (((k | k) | k) | k) | k
      · have b0 : ((s.extract 0 2).toList == [60, 61]) = true := by rw [k]; decide
        clear k
        go_enter Tryd.func42, Tryd.ntmps42
        go_wp2
        go_ret
        exact ⟨by rw [HS.out]; rfl, rfl⟩
      · have b0 : ((s.extract 0 2).toList == [60, 61]) = false := by rw [k]; decide
        have b1 : ((s.extract 0 2).toList == [62, 61]) = true := by rw [k]; decide
        clear k
        go_enter Tryd.func42, Tryd.ntmps42
        go_wp2
        go_ret
        exact ⟨by rw [HS.out]; rfl, rfl⟩
      · have b0 : ((s.extract 0 2).toList == [60, 61]) = false := by rw [k]; decide
        have b1 : ((s.extract 0 2).toList == [62, 61]) = false := by rw [k]; decide
        have b2 : ((s.extract 0 2).toList == [33, 61]) = true := by rw [k]; decide
        clear k
        go_enter Tryd.func42, Tryd.ntmps42
        go_wp2
        go_ret
        exact ⟨by rw [HS.out]; rfl, rfl⟩
      · have b0 : ((s.extract 0 2).toList == [60, 61]) = false := by rw [k]; decide
        have b1 : ((s.extract 0 2).toList == [62, 61]) = false := by rw [k]; decide
        have b2 : ((s.extract 0 2).toList == [33, 61]) = false := by rw [k]; decide
        have b3 : ((s.extract 0 2).toList == [38, 38]) = true := by rw [k]; decide
        clear k
        go_enter Tryd.func42, Tryd.ntmps42
        go_wp2
        go_ret
        exact ⟨by rw [HS.out]; rfl, rfl⟩
      · have b0 : ((s.extract 0 2).toList == [60, 61]) = false := by rw [k]; decide
        have b1 : ((s.extract 0 2).toList == [62, 61]) = false := by rw [k]; decide
        have b2 : ((s.extract 0 2).toList == [33, 61]) = false := by rw [k]; decide
        have b3 : ((s.extract 0 2).toList == [38, 38]) = false := by rw [k]; decide
        have b4 : ((s.extract 0 2).toList == [124, 124]) = true := by rw [k]; decide
        clear k
        go_enter Tryd.func42, Tryd.ntmps42
        go_wp2
        go_ret
        exact ⟨by rw [HS.out]; rfl, rfl⟩
    · have hall' : twoB s.data.toList = false := by simpa using hall
      rw [hall'] at htb
      have hc := htb.symm
      simp only [Bool.or_eq_false_iff] at hc
      obtain ⟨⟨⟨⟨b0, b1⟩, b2⟩, b3⟩, b4⟩ := hc
      clear htb hall
      cases hz : oneZ (s[0].toNat : Int) with
      | true =>
        have HS := Lib.hid (sign_one hall' (by rw [hob]; exact hz))
        have HZ := Lib.hid hz
        clear hob hz hall'
        go_enter Tryd.func42, Tryd.ntmps42
        go_wp2_with (go_at_call 40; refine (rIs_calls _ _ _ (by decide)).mono ?_; rintro e w' ⟨rfl, hw⟩; obtain rfl := hw.symm; clear hw; rw [show (ByteArray.mk #[123, 125, 40, 41, 46, 44, 42, 43, 45, 47, 61, 60, 62, 33]).data.toList = [123, 125, 40, 41, 46, 44, 42, 43, 45, 47, 61, 60, 62, 33] from rfl, single_has, HZ.out])
        go_ret
        exact ⟨by rw [HS.out]; rfl, rfl⟩
      | false =>
        have HS := Lib.hid (sign_none hall' (by rw [hob]; exact hz))
        have HZ := Lib.hid hz
        clear hob hz hall'
        go_enter Tryd.func42, Tryd.ntmps42
        go_wp2_with (go_at_call 40; refine (rIs_calls _ _ _ (by decide)).mono ?_; rintro e w' ⟨rfl, hw⟩; obtain rfl := hw.symm; clear hw; rw [show (ByteArray.mk #[123, 125, 40, 41, 46, 44, 42, 43, 45, 47, 61, 60, 62, 33]).data.toList = [123, 125, 40, 41, 46, 44, 42, 43, 45, 47, 61, 60, 62, 33] from rfl, single_has, HZ.out])
        go_ret
        exact ⟨by rw [HS.out]; rfl, rfl⟩
  · have hall' := hshort h2
    have g2 : ¬ (2 : Int) ≤ (s.size : Int) := by omega
    clear hshort htb
    cases hz : oneZ (s[0].toNat : Int) with
    | true =>
      have HS := Lib.hid (sign_one hall' (by rw [hob]; exact hz))
      have HZ := Lib.hid hz
      clear hob hz hall'
      go_enter Tryd.func42, Tryd.ntmps42
      go_wp2_with (go_at_call 40; refine (rIs_calls _ _ _ (by decide)).mono ?_; rintro e w' ⟨rfl, hw⟩; obtain rfl := hw.symm; clear hw; rw [show (ByteArray.mk #[123, 125, 40, 41, 46, 44, 42, 43, 45, 47, 61, 60, 62, 33]).data.toList = [123, 125, 40, 41, 46, 44, 42, 43, 45, 47, 61, 60, 62, 33] from rfl, single_has, HZ.out])
      go_ret
      exact ⟨by rw [HS.out]; rfl, rfl⟩
    | false =>
      have HS := Lib.hid (sign_none hall' (by rw [hob]; exact hz))
      have HZ := Lib.hid hz
      clear hob hz hall'
      go_enter Tryd.func42, Tryd.ntmps42
      go_wp2_with (go_at_call 40; refine (rIs_calls _ _ _ (by decide)).mono ?_; rintro e w' ⟨rfl, hw⟩; obtain rfl := hw.symm; clear hw; rw [show (ByteArray.mk #[123, 125, 40, 41, 46, 44, 42, 43, 45, 47, 61, 60, 62, 33]).data.toList = [123, 125, 40, 41, 46, 44, 42, 43, 45, 47, 61, 60, 62, 33] from rfl, single_has, HZ.out])
      go_ret
      exact ⟨by rw [HS.out]; rfl, rfl⟩

end Go.Proofs.YtgkpdcjkobieiaaDoor
