/- NumRefReadBare, RefCompare, ShpRefOf, put together. -/
import Derived.Test.YtdnfaoanaehjhaaGreatDoorH32
import Derived.Test.YtdnfaoanaehjhaaGreatDoorH7
import Derived.Test.YtdnfaoanaehjhaaGreatDoorH27
import Derived.RegionTactic
import Derived.ChangeAlike
import Derived.Test.YtdnfaoanaehjhaaGreatDoorH23
import Derived.Test.YtdnfaoanaehjhaaGreatDoorH24
import Derived.Lib.QuietBelow

/- The document's own reading of a number's text: the texts that begin so (bare). -/
namespace Go.Proofs.YtdnfaoanaehjhaaGreatDoor.Nm
open Go.RowKit

set_option maxRecDepth 100000 in
set_option maxHeartbeats 8000000 in
theorem rReadBare (s : ByteArray) (dec : Bool) (w : World) (_hs : s.size ≤ maxLen) (R : Option (Nat × Int × Int)) (hR : walkR dec (s.data.toList.drop 0) 0 (-1) 0 = R) (h0 : 0 < s.size) (g1 : (((s[0]'h0).toNat : Int) == 45) = false) (g2 : (((s[0]'h0).toNat : Int) == 43) = false) :
    Calls Tryz.prog 53 #[.string s, .bool dec] w fun e w' => e = .returned (NumL.ret (endR dec (1) R)) ∧ Below w.heap.size w w' := by
  unfold maxLen at _hs
  have HR : Hid (RR s dec R 0 0 (-1) 0) := Lib.hid ⟨by decide, hR⟩
  clear hR
  obtain ⟨P, hP⟩ : ∃ P, endR dec (1) R = P := ⟨_, rfl⟩
  have HP := Lib.hid hP
  rw [hP]
  clear hP
  have HG1 := Lib.hid g1
  go_enter Tryz.func53, Tryz.ntmps53
  go_wp2
  clear g1 g2
  go_loop [7, 8, 9, 10] (fun n b v i => ∃ (k m : Nat) (bb vv : Int), n = .int .i64 m ∧ b = .int .i64 bb ∧ v = .int .i64 vv ∧ i = .int .i64 k ∧ k ≤ s.size ∧ m ≤ k ∧ m ≤ 13 ∧ -1 ≤ bb ∧ bb ≤ m ∧ 0 ≤ vv ∧ vv < 10000000000000 ∧ Hid (RR s dec R k m bb vv) ∧ Hid (dec = false → bb < 0)) (fun _ _ _ i => s.size - (intOf i).toNat)
  case atStart => exact ⟨0, 0, -1, 0, rfl, rfl, rfl, rfl, by omega, by omega, by omega, by omega, by omega, by omega, by omega, HR, Lib.hid fun _ => by omega⟩
  case round =>
    clear HR
    obtain ⟨k, m, bb, vv, rfl, rfl, rfl, rfl, hk, hmk, hm, hb1, hb2, hv1, hv2, HL, HF⟩ := hrel
    by_cases hp : k < s.size
    · have hdot : ∀ hd : dec = true, ((s[k]'hp).toNat : Int) = 46 → bb < 0 → RR s true R (k + 1) m 0 vv := fun hd hc hb => rr_dot hp (hd ▸ HL.out) hc hb
      have hnone := rr_none hp HL.out
      have hdig := rr_digit hp HL.out
      have hsm := fun b' v' (h : RR s dec R (k + 1) (m + 1) b' v') (h13 : m < 13) => rr_small h (by omega)
      clear HL
      have hcr : 0 ≤ ((s[k]'hp).toNat : Int) ∧ ((s[k]'hp).toNat : Int) < 256 := ⟨by omega, by have := (s[k]'hp).toNat_lt; omega⟩
      have hall : (((s[k]'hp).toNat : Int) = 46 ∧ bb < 0 ∧ dec = true) ∨ (((s[k]'hp).toNat : Int) = 46 ∧ ¬ bb < 0) ∨ (((s[k]'hp).toNat : Int) = 46 ∧ bb < 0 ∧ dec = false) ∨ (((s[k]'hp).toNat : Int) ≠ 46 ∧ ((s[k]'hp).toNat : Int) < 48) ∨ 57 < ((s[k]'hp).toNat : Int) ∨ (48 ≤ ((s[k]'hp).toNat : Int) ∧ ((s[k]'hp).toNat : Int) ≤ 57 ∧ m = 13) ∨ (48 ≤ ((s[k]'hp).toNat : Int) ∧ ((s[k]'hp).toNat : Int) ≤ 57 ∧ m < 13) := by
        cases dec <;> simp <;> omega
      rcases hall with ⟨a1, a2, a3⟩ | ⟨a1, a2⟩ | ⟨a1, a2, a3⟩ | ⟨a1, a2⟩ | a1 | ⟨a1, a2, a3⟩ | ⟨a1, a2, a3⟩
      · subst a3
        have g : (((s[k]'hp).toNat : Int) == 46) = true := beq_iff_eq.2 a1
        have HN := Lib.hid (hdot rfl a1 a2)
        clear a1 hdot hnone hdig hsm
        go_wp2
        go_round
        case rel => exact ⟨k + 1, m, 0, vv, rfl, rfl, rfl, by go_num, by omega, by omega, by omega, by omega, by omega, by omega, by omega, HN, Lib.hid fun h => by cases h⟩
        case measure => simp [intOf]; omega
      · have g : (((s[k]'hp).toNat : Int) == 46) = true := beq_iff_eq.2 a1
        have k1 : ((s[k]'hp).toNat : Int) < 48 := by omega
        have e := hnone (fun _ h => a2 h.1) (.inl (.inl k1))
        have HE := Lib.hid (show P = (noNum, false) from by rw [← HP.out, e]; rfl)
        clear hdot hnone hdig hsm e a1
        go_wp2
        refine bodyPost_ret (v := .tuple #[.agg #[.int .i64 0, .int .i64 0, .bool false], .bool false]) (by simp [results, Tryz.results53, go_sem]) rfl ⟨by rw [HE.out]; rfl, ?_⟩
        exact box_below _ _
      · subst a3
        have g : (((s[k]'hp).toNat : Int) == 46) = true := beq_iff_eq.2 a1
        have k1 : ((s[k]'hp).toNat : Int) < 48 := by omega
        have e := hnone (fun _ h => by cases h.2) (.inl (.inl k1))
        have HE := Lib.hid (show P = (noNum, false) from by rw [← HP.out, e]; rfl)
        clear hdot hnone hdig hsm e a1
        go_wp2
        refine bodyPost_ret (v := .tuple #[.agg #[.int .i64 0, .int .i64 0, .bool false], .bool false]) (by simp [results, Tryz.results53, go_sem]) rfl ⟨by rw [HE.out]; rfl, ?_⟩
        exact box_below _ _
      · have g : (((s[k]'hp).toNat : Int) == 46) = false := beq_eq_false_iff_ne.2 a1
        have e := hnone (fun h => absurd h a1) (.inl (.inl a2))
        have HE := Lib.hid (show P = (noNum, false) from by rw [← HP.out, e]; rfl)
        clear hdot hnone hdig hsm e a1
        go_wp2
        refine bodyPost_ret (v := .tuple #[.agg #[.int .i64 0, .int .i64 0, .bool false], .bool false]) (by simp [results, Tryz.results53, go_sem]) rfl ⟨by rw [HE.out]; rfl, ?_⟩
        exact box_below _ _
      · have g : (((s[k]'hp).toNat : Int) == 46) = false := beq_eq_false_iff_ne.2 (by omega)
        have k1 : ¬ ((s[k]'hp).toNat : Int) < 48 := by omega
        have e := hnone (fun h => by omega) (.inl (.inr a1))
        have HE := Lib.hid (show P = (noNum, false) from by rw [← HP.out, e]; rfl)
        clear hdot hnone hdig hsm e
        go_wp2
        refine bodyPost_ret (v := .tuple #[.agg #[.int .i64 0, .int .i64 0, .bool false], .bool false]) (by simp [results, Tryz.results53, go_sem]) rfl ⟨by rw [HE.out]; rfl, ?_⟩
        exact box_below _ _
      · have g : (((s[k]'hp).toNat : Int) == 46) = false := beq_eq_false_iff_ne.2 (by omega)
        have k1 : ¬ ((s[k]'hp).toNat : Int) < 48 := by omega
        have k2 : ¬ 57 < ((s[k]'hp).toNat : Int) := by omega
        have k3 : ((m : Int) == 13) = true := beq_iff_eq.2 (by omega)
        have e := hnone (fun h => by omega) (.inr a3)
        have HE := Lib.hid (show P = (noNum, false) from by rw [← HP.out, e]; rfl)
        clear hdot hnone hdig hsm e a3
        go_wp2
        refine bodyPost_ret (v := .tuple #[.agg #[.int .i64 0, .int .i64 0, .bool false], .bool false]) (by simp [results, Tryz.results53, go_sem]) rfl ⟨by rw [HE.out]; rfl, ?_⟩
        exact box_below _ _
      · have g : (((s[k]'hp).toNat : Int) == 46) = false := beq_eq_false_iff_ne.2 (by omega)
        have k1 : ¬ ((s[k]'hp).toNat : Int) < 48 := by omega
        have k2 : ¬ 57 < ((s[k]'hp).toNat : Int) := by omega
        have k3 : ((m : Int) == 13) = false := beq_eq_false_iff_ne.2 (by omega)
        by_cases hbb : 0 ≤ bb
        · have hN := hdig a1 a2 a3 (bb + 1) (by rw [if_pos hbb])
          have hs := hsm _ _ hN a3
          have HN := Lib.hid hN
          clear hdot hnone hdig hsm hN
          go_wp2
          go_round
          case rel => exact ⟨k + 1, m + 1, bb + 1, 10 * vv + ((s[k]'hp).toNat : Int) - 48, by go_num, rfl, rfl, by go_num, by omega, by omega, by omega, by omega, by omega, by omega, by omega, HN, Lib.hid fun h => absurd (HF.out h) (by omega)⟩
          case measure => simp [intOf]; omega
        · have hN := hdig a1 a2 a3 bb (by rw [if_neg hbb])
          have hs := hsm _ _ hN a3
          have HN := Lib.hid hN
          clear hdot hnone hdig hsm hN
          go_wp2
          go_round
          case rel => exact ⟨k + 1, m + 1, bb, 10 * vv + ((s[k]'hp).toNat : Int) - 48, by go_num, rfl, rfl, by go_num, by omega, by omega, by omega, by omega, by omega, by omega, by omega, HN, HF⟩
          case measure => simp [intOf]; omega
    · have HE0 := Lib.hid (rr_end hp HL.out)
      clear HL
      by_cases hm0 : m = 0
      · have HE := Lib.hid (show P = (noNum, false) from by rw [← HP.out, HE0.out, hm0, end_zero])
        have g3 : ((m : Int) == 0) = true := beq_iff_eq.2 (by omega)
        clear hm0
        go_wp2
        refine bodyPost_ret (v := .tuple #[.agg #[.int .i64 0, .int .i64 0, .bool false], .bool false]) (by simp [results, Tryz.results53, go_sem]) rfl ⟨by rw [HE.out]; rfl, ?_⟩
        exact box_below _ _
      · have g3 : ((m : Int) == 0) = false := beq_eq_false_iff_ne.2 (by omega)
        have hbad : (dec = true ∧ bb < 1) ∨ (dec = true ∧ ¬ bb < 1 ∧ 4 < bb) ∨ (dec = true ∧ ¬ bb < 1 ∧ ¬ 4 < bb) ∨ dec = false := by
          cases dec <;> simp <;> omega
        rcases hbad with ⟨a1, a2⟩ | ⟨a1, a2, a3⟩ | ⟨a1, a2, a3⟩ | a1
        · subst a1
          have HE := Lib.hid (show P = (noNum, false) from by rw [← HP.out, HE0.out, end_few _ _ _ _ (.inl a2)])
          clear hm0
          go_wp2
          refine bodyPost_ret (v := .tuple #[.agg #[.int .i64 0, .int .i64 0, .bool false], .bool false]) (by simp [results, Tryz.results53, go_sem]) rfl ⟨by rw [HE.out]; rfl, ?_⟩
          exact box_below _ _
        · subst a1
          have HE := Lib.hid (show P = (noNum, false) from by rw [← HP.out, HE0.out, end_few _ _ _ _ (.inr a3)])
          clear hm0
          go_wp2
          refine bodyPost_ret (v := .tuple #[.agg #[.int .i64 0, .int .i64 0, .bool false], .bool false]) (by simp [results, Tryz.results53, go_sem]) rfl ⟨by rw [HE.out]; rfl, ?_⟩
          exact box_below _ _
        · subst a1
          have HM := Lib.hid (show P = madeL ((1) * vv) (max bb 0).toNat _ from by rw [← HP.out, HE0.out, end_made _ _ _ _ _ hm0 (by intro _; omega)])
          have HC : Hid (∀ (y x : Int) W, y = (1) * vv → x = max bb 0 → Calls Tryz.prog 83 #[.int .i64 y, .int .i64 x, .bool true] W fun e w' => e = .returned (NumL.ret P) ∧ Below W.heap.size W w') := Lib.hid fun y x W hy hx => by
            have := rCut_calls y (max bb 0).toNat true W (by omega) (by omega) (by omega)
            rw [show (((max bb 0).toNat : Nat) : Int) = x by omega, hy] at this
            rw [HM.out, hy]
            exact this
          have g1 := HG1.out
          clear hm0 HE0 HM HP
          obtain ⟨⟨X, Y, Z⟩, ok⟩ := P
          go_wp2_with fail
          refine (HC.out _ _ _ ?_ ?_).mono ?_
          · omega
          · omega
          rintro e w1 ⟨rfl, hb⟩
          simp only [NumL.ret, NumL.val]
          obtain ⟨hc, hf⟩ := bcell hb
          go_wp2
          refine bodyPost_ret (v := .tuple #[.agg #[.int .i64 X, .int .i64 Y, .bool Z], .bool ok]) (by simp [results, Tryz.results53, hc, go_sem]) rfl ⟨rfl, ?_⟩
          exact (((one_box hb).setCell (Nat.le_refl _) _).setCell (Nat.le_refl _) _).setCell (Nat.le_refl _) _
        · subst a1
          have hbn := HF.out rfl
          have HM := Lib.hid (show P = madeL ((1) * vv) (max bb 0).toNat _ from by rw [← HP.out, HE0.out, end_made _ _ _ _ _ hm0 (by intro h; cases h)])
          have HC : Hid (∀ (y x : Int) W, y = (1) * vv → x = max bb 0 → Calls Tryz.prog 83 #[.int .i64 y, .int .i64 x, .bool false] W fun e w' => e = .returned (NumL.ret P) ∧ Below W.heap.size W w') := Lib.hid fun y x W hy hx => by
            have := rCut_calls y (max bb 0).toNat false W (by omega) (by omega) (by omega)
            rw [show (((max bb 0).toNat : Nat) : Int) = x by omega, hy] at this
            rw [HM.out, hy]
            exact this
          have g1 := HG1.out
          clear hm0 HE0 HM HP
          obtain ⟨⟨X, Y, Z⟩, ok⟩ := P
          go_wp2_with fail
          refine (HC.out _ _ _ ?_ ?_).mono ?_
          · omega
          · omega
          rintro e w1 ⟨rfl, hb⟩
          simp only [NumL.ret, NumL.val]
          obtain ⟨hc, hf⟩ := bcell hb
          go_wp2
          refine bodyPost_ret (v := .tuple #[.agg #[.int .i64 X, .int .i64 Y, .bool Z], .bool ok]) (by simp [results, Tryz.results53, hc, go_sem]) rfl ⟨rfl, ?_⟩
          exact (((one_box hb).setCell (Nat.le_refl _) _).setCell (Nat.le_refl _) _).setCell (Nat.le_refl _) _

end Go.Proofs.YtdnfaoanaehjhaaGreatDoor.Nm

/- Which of two terms is ahead, by the document's own answer: the same as package term's Compare, for every two terms. -/
namespace Go.Proofs.YtdnfaoanaehjhaaGreatDoor
open Go.RowKit
open Go.Lib (compareBytes)

theorem cb_drop_lt (a b : List UInt8) (k : Nat) (ha : k < a.length) (hb : k < b.length) (h : (a[k].toNat : Int) < b[k].toNat) : compareBytes (a.drop k) (b.drop k) = -1 := by
  rw [List.drop_eq_getElem_cons ha, List.drop_eq_getElem_cons hb, compareBytes, if_pos (UInt8.lt_iff_toNat_lt.2 (by omega))]
theorem cb_drop_gt (a b : List UInt8) (k : Nat) (ha : k < a.length) (hb : k < b.length) (h : (b[k].toNat : Int) < a[k].toNat) : compareBytes (a.drop k) (b.drop k) = 1 := by
  rw [List.drop_eq_getElem_cons ha, List.drop_eq_getElem_cons hb, compareBytes, if_neg (by rw [UInt8.lt_iff_toNat_lt]; omega), if_pos (UInt8.lt_iff_toNat_lt.2 (by omega))]
theorem cb_drop_eq (a b : List UInt8) (k : Nat) (ha : k < a.length) (hb : k < b.length) (h : (a[k].toNat : Int) = b[k].toNat) : compareBytes (a.drop k) (b.drop k) = compareBytes (a.drop (k + 1)) (b.drop (k + 1)) := by
  rw [List.drop_eq_getElem_cons ha, List.drop_eq_getElem_cons hb, compareBytes, if_neg (by rw [UInt8.lt_iff_toNat_lt]; omega), if_neg (by rw [UInt8.lt_iff_toNat_lt]; omega)]
theorem cb_drop_end (a b : List UInt8) (k : Nat) (ha : k ≤ a.length) (hb : k ≤ b.length) (h : k = a.length ∨ k = b.length) : compareBytes (a.drop k) (b.drop k) = if a.length < b.length then -1 else if b.length < a.length then 1 else 0 := by
  by_cases h1 : k = a.length
  · by_cases h2 : k = b.length
    · rw [List.drop_eq_nil_of_le (by omega), List.drop_eq_nil_of_le (by omega), if_neg (by omega), if_neg (by omega)]; rfl
    · rw [List.drop_eq_nil_of_le (by omega), List.drop_eq_getElem_cons (show k < b.length by omega), if_pos (by omega)]; rfl
  · rw [List.drop_eq_getElem_cons (show k < a.length by omega), show List.drop k b = [] from List.drop_eq_nil_of_le (by omega), if_neg (by omega), if_pos (by omega)]; rfl

set_option maxHeartbeats 1000000 in
theorem before_calls (a b : ByteArray) (w : World) (_ha : a.size ≤ maxLen) (_hb : b.size ≤ maxLen) :
    Calls Tryz.prog 85 #[.string a, .string b] w fun e w' => e = .returned (.int .i64 (compareBytes a.data.toList b.data.toList)) ∧ Below w.heap.size w w' := by
  unfold maxLen at _ha _hb
  go_enter Tryz.func85, Tryz.ntmps85
  go_wp2
  go_loopw [5] (fun i wr => ∃ k : Nat, k ≤ a.size ∧ k ≤ b.size ∧ i = .int .i64 k ∧ Below w.heap.size w wr ∧ Hid (compareBytes a.data.toList b.data.toList = compareBytes (a.data.toList.drop k) (b.data.toList.drop k))) (fun i _ => a.size - (intOf i).toNat)
  case atStart => exact ⟨0, Nat.zero_le _, Nat.zero_le _, rfl, Below.refl _ _, Lib.hid rfl⟩
  case round =>
    obtain ⟨k, hka, hkb, rfl, hbw, HC⟩ := hrel
    by_cases h1 : k < a.size ∧ k < b.size
    · obtain ⟨ha, hb⟩ := h1
      have hla : k < a.data.toList.length := by simpa using ha
      have hlb : k < b.data.toList.length := by simpa using hb
      have c1 := cb_drop_lt a.data.toList b.data.toList k hla hlb
      have c2 := cb_drop_gt a.data.toList b.data.toList k hla hlb
      have c3 := cb_drop_eq a.data.toList b.data.toList k hla hlb
      rw [get_list a k ha, get_list b k hb] at c1 c2 c3
      rcases Int.lt_trichotomy ((a[k]'ha).toNat : Int) ((b[k]'hb).toNat : Int) with h | h | h
      · have H := Lib.hid (c1 h)
        clear c1 c2 c3 hla hlb
        go_wp2
        go_region
        go_wp2
        go_ret
        exact ⟨ret_int (by rw [HC.out, H.out]), hbw.drew⟩
      · have H := Lib.hid (c3 h)
        have g1 : ¬ ((a[k]'ha).toNat : Int) < ((b[k]'hb).toNat : Int) := by omega
        have g2 : ¬ ((b[k]'hb).toNat : Int) < ((a[k]'ha).toNat : Int) := by omega
        clear c1 c2 c3 hla hlb h
        go_wp2
        go_region
        go_wp2
        go_region
        go_wp2
        go_roundw
        case rel => exact ⟨k + 1, by omega, by omega, by go_num, hbw.drew.drew, Lib.hid (by rw [HC.out, H.out])⟩
        case measure => simp [intOf]; omega
      · have H := Lib.hid (c2 h)
        clear c1 c2 c3 hla hlb
        go_wp2
        go_region
        go_wp2
        go_region
        go_wp2
        go_ret
        exact ⟨ret_int (by rw [HC.out, H.out]), hbw.drew.drew⟩
    · have HE := Lib.hid (cb_drop_end a.data.toList b.data.toList k (by simpa using hka) (by simpa using hkb) (by have e1 := Lib.size_eq a; have e2 := Lib.size_eq b; omega))
      have HS1 := Lib.hid (Lib.size_eq a)
      have HS2 := Lib.hid (Lib.size_eq b)
      obtain h | h | h : (k < a.size ∧ ¬ k < b.size) ∨ (¬ k < a.size ∧ k < b.size) ∨ (¬ k < a.size ∧ ¬ k < b.size) := by omega
      all_goals
        obtain ⟨g1, g2⟩ := h
        clear h1
        go_wp2
        all_goals go_ret
        all_goals exact ⟨ret_int (by rw [HC.out, HE.out, ← HS1.out, ← HS2.out]; first | rw [if_pos (by omega)] | rw [if_neg (by omega), if_pos (by omega)] | rw [if_neg (by omega), if_neg (by omega)]), hbw⟩

set_option maxHeartbeats 1000000 in
theorem rCompare_calls (k : Int) (x y z : ByteArray) (k' : Int) (x' y' z' : ByteArray) (w : World) (_hx : x.size ≤ maxLen) (_hy : y.size ≤ maxLen) (_hz : z.size ≤ maxLen) (_hx' : x'.size ≤ maxLen) (_hy' : y'.size ≤ maxLen) (_hz' : z'.size ≤ maxLen) :
    Calls Tryz.prog 57 #[.agg #[.int .i64 k, .string x, .string y, .string z], .agg #[.int .i64 k', .string x', .string y', .string z']] w fun e w' => e = .returned (.int .i64 (termCmp k x.data.toList y.data.toList z.data.toList k' x'.data.toList y'.data.toList z'.data.toList)) ∧ Below w.heap.size w w' := by
  obtain ⟨X, hX⟩ : ∃ X, compareBytes x.data.toList x'.data.toList = X := ⟨_, rfl⟩
  obtain ⟨Y, hY⟩ : ∃ Y, compareBytes y.data.toList y'.data.toList = Y := ⟨_, rfl⟩
  have HT := Lib.hid (show termCmp k x.data.toList y.data.toList z.data.toList k' x'.data.toList y'.data.toList z'.data.toList = _ from by unfold termCmp; rw [hX, hY])
  have HX := Lib.hid hX
  have HY := Lib.hid hY
  clear hX hY
  by_cases h1 : k < k'
  · have HT' := Lib.hid (HT.out.trans (if_pos h1))
    go_enter Tryz.func57, Tryz.ntmps57
    go_wp2_with fail
    go_ret
    exact ⟨ret_int HT'.out.symm, two_alloc _ _ _⟩
  by_cases h2 : k' < k
  · have HT' := Lib.hid ((HT.out.trans (if_neg h1)).trans (if_pos h2))
    go_enter Tryz.func57, Tryz.ntmps57
    go_wp2_with fail
    go_ret
    exact ⟨ret_int HT'.out.symm, two_alloc _ _ _⟩
  replace HT := Lib.hid ((HT.out.trans (if_neg h1)).trans (if_neg h2))
  go_enter Tryz.func57, Tryz.ntmps57
  go_wp2_with fail
  refine (before_calls _ _ _ _hx _hx').mono ?_
  rintro e w1 ⟨rfl, hb1⟩
  rw [HX.out]
  obtain ⟨hc, hf⟩ := bcell hb1
  by_cases hX0 : X ≠ 0
  · replace HT := Lib.hid (HT.out.trans (if_pos hX0))
    have g : (X != 0) = true := by simpa using hX0
    clear hX0
    go_wp2_with fail
    refine (before_calls _ _ _ _hx _hx').mono ?_
    rintro e w2 ⟨rfl, hb2⟩
    rw [HX.out]
    go_wp2
    go_ret
    exact ⟨ret_int HT.out.symm, (two_alloc _ _ _).trans ((bnext hb1 hb2).mono (by simp; omega))⟩
  · replace HT := Lib.hid (HT.out.trans (if_neg hX0))
    have g : (X != 0) = false := by simpa using hX0
    clear hX0
    go_wp2_with fail
    refine (before_calls _ _ _ _hy _hy').mono ?_
    rintro e w2 ⟨rfl, hb2'⟩
    rw [HY.out]
    have hb2 := bnext hb1 hb2'
    clear hc hf
    obtain ⟨hc, hf⟩ := bcell hb2
    by_cases hY0 : Y ≠ 0
    · replace HT := Lib.hid (HT.out.trans (if_pos hY0))
      have g : (Y != 0) = true := by simpa using hY0
      clear hY0
      go_wp2_with fail
      refine (before_calls _ _ _ _hy _hy').mono ?_
      rintro e w3 ⟨rfl, hb3⟩
      rw [HY.out]
      go_wp2
      go_ret
      exact ⟨ret_int HT.out.symm, (two_alloc _ _ _).trans ((bnext hb2 hb3).mono (by simp; omega))⟩
    · replace HT := Lib.hid (HT.out.trans (if_neg hY0))
      have g : (Y != 0) = false := by simpa using hY0
      clear hY0
      go_wp2_with fail
      refine (before_calls _ _ _ _hz _hz').mono ?_
      rintro e w3 ⟨rfl, hb3⟩
      go_wp2
      go_ret
      exact ⟨ret_int HT.out.symm, (two_alloc _ _ _).trans ((bnext hb2 hb3).mono (by simp; omega))⟩

end Go.Proofs.YtdnfaoanaehjhaaGreatDoor

/- The document's number of a literal, its order of values, for every term. -/
namespace Go.Proofs.YtdnfaoanaehjhaaGreatDoor
open Go.RowKit Go.Sort

theorem Nm.refRead_calls (s : ByteArray) (dec : Bool) (w : World) (hs : s.size ≤ maxLen) :
    Calls Tryz.prog 53 #[.string s, .bool dec] w fun e w' => e = .returned (Nm.NumL.ret (Nm.readL s.data.toList dec)) ∧ Below w.heap.size w w' := by
  unfold Nm.readL
  rw [← Nm.ref_read]
  rcases Nm.head_cases s with ⟨hz, e1, e2⟩ | ⟨h0, ⟨g1, e1, e2⟩ | ⟨g1, e1, e2⟩ | ⟨g1, g2, e1, e2⟩⟩
  · rw [e2]; exact Nm.rReadEmpty s dec w hs _ (by rw [e1]) hz
  · rw [e2]; exact Nm.rReadMinus s dec w hs _ (by rw [e1]) h0 (beq_iff_eq.2 g1)
  · rw [e2]; exact Nm.rReadPlus s dec w hs _ (by rw [e1]) h0 (beq_eq_false_iff_ne.2 (by omega)) (beq_iff_eq.2 g1)
  · rw [e2]; exact Nm.rReadBare s dec w hs _ (by rw [e1]) h0 (beq_eq_false_iff_ne.2 g1) (beq_eq_false_iff_ne.2 g2)

theorem bs_empty (z : List UInt8) : (bs z).toList.isEmpty = decide (z = []) := by
  have h1 := eqd z []
  rw [← h1]
  cases (bs z).toList with
  | nil => rfl
  | cons a l => rfl
set_option maxRecDepth 100000 in
set_option maxHeartbeats 4000000 in
theorem rOf_calls (t : TermL) (ht : t.ok) (w : World) : Calls Tryz.prog 21 #[t.v] w fun e w' => e = .returned (Nm.NumL.ret (ofP t)) ∧ Below w.heap.size w w' := by
  have HR : Hid (∀ d W, Calls Tryz.prog 53 #[.string (bs t.x), .bool d] W fun e w' => e = .returned (Nm.NumL.ret (Nm.readL t.x d)) ∧ Below W.heap.size W w') := Lib.hid fun d W => Nm.refRead_calls (bs t.x) d W ht.1
  clear ht
  obtain ⟨k, x, y, z⟩ := t
  dsimp only at HR
  simp only [TermL.v]
  have gI := eqI y
  have gD := eqD y
  by_cases hk : k = 2
  · by_cases hz : z = []
    · have gZ : (bs z).toList.isEmpty = true := by rw [bs_empty, decide_eq_true hz]
      by_cases hI : y = tyIL
      · have HE := Lib.hid (show ofP ⟨k, x, y, z⟩ = Nm.readL x false by unfold ofP; rw [if_pos ⟨hk, hz⟩, if_pos hI])
        rw [decide_eq_true hI] at gI
        have HR1 := Lib.hid (fun W => HR.out false W)
        obtain ⟨⟨⟨v, s, d⟩, b⟩, hp⟩ : ∃ p, Nm.readL x false = p := ⟨_, rfl⟩
        rw [hp] at HE HR1
        simp only [Nm.NumL.ret, Nm.NumL.val] at HR1
        clear hp HR hI gD hz
        subst hk
        go_enter Tryz.func21, Tryz.ntmps21
        go_wp2_with fail
        refine (HR1.out _).mono ?_
        rintro e w1 ⟨rfl, hb1⟩
        obtain ⟨hc, hf⟩ := bcell hb1
        have hz := two_size hb1
        have HB1 := Lib.hid (two_gone hb1)
        clear hb1
        go_wp2
        refine bodyPost_ret (v := .tuple #[.agg #[.int .i64 v, .int .i64 s, .bool d], .bool b]) (by simp [results, Tryz.results21, hc, go_sem]) rfl ⟨by rw [HE.out]; rfl, ?_⟩
        repeat (with_reducible (first | exact HB1.out | refine Below.setCell ?_ (by simp) _))
      · rw [decide_eq_false hI] at gI
        by_cases hD : y = tyDL
        · have HE := Lib.hid (show ofP ⟨k, x, y, z⟩ = Nm.readL x true by unfold ofP; rw [if_pos ⟨hk, hz⟩, if_neg hI, if_pos hD])
          rw [decide_eq_true hD] at gD
          have HR1 := Lib.hid (fun W => HR.out true W)
          obtain ⟨⟨⟨v, s, d⟩, b⟩, hp⟩ : ∃ p, Nm.readL x true = p := ⟨_, rfl⟩
          rw [hp] at HE HR1
          simp only [Nm.NumL.ret, Nm.NumL.val] at HR1
          clear hp HR hI hD hz
          subst hk
          go_enter Tryz.func21, Tryz.ntmps21
          go_wp2_with fail
          refine (HR1.out _).mono ?_
          rintro e w1 ⟨rfl, hb1⟩
          obtain ⟨hc, hf⟩ := bcell hb1
          have hz := two_size hb1
          have HB1 := Lib.hid (two_gone hb1)
          clear hb1
          go_wp2
          refine bodyPost_ret (v := .tuple #[.agg #[.int .i64 v, .int .i64 s, .bool d], .bool b]) (by simp [results, Tryz.results21, hc, go_sem]) rfl ⟨by rw [HE.out]; rfl, ?_⟩
          repeat (with_reducible (first | exact HB1.out | refine Below.setCell ?_ (by simp) _))
        · have HE := Lib.hid (show ofP ⟨k, x, y, z⟩ = (Nm.noNum, false) by unfold ofP; rw [if_pos ⟨hk, hz⟩, if_neg hI, if_neg hD])
          rw [decide_eq_false hD] at gD
          subst hk
          clear HR hI hD hz
          go_enter Tryz.func21, Tryz.ntmps21
          go_wp2
          refine bodyPost_ret (v := .tuple #[.agg #[.int .i64 0, .int .i64 0, .bool false], .bool false]) (by simp [results, Tryz.results21, go_sem]) rfl ⟨by rw [HE.out]; rfl, ?_⟩
          repeat (with_reducible (first | exact two_alloc _ _ _ | refine Below.setCell ?_ (by simp) _))
    · have gZ : (bs z).toList.isEmpty = false := by rw [bs_empty, decide_eq_false hz]
      have HE := Lib.hid (show ofP ⟨k, x, y, z⟩ = (Nm.noNum, false) by unfold ofP; rw [if_neg (fun c => hz c.2)])
      subst hk
      clear HR gI gD hz
      go_enter Tryz.func21, Tryz.ntmps21
      go_wp2
      refine bodyPost_ret (v := .tuple #[.agg #[.int .i64 0, .int .i64 0, .bool false], .bool false]) (by simp [results, Tryz.results21, go_sem]) rfl ⟨by rw [HE.out]; rfl, ?_⟩
      repeat (with_reducible (first | exact two_alloc _ _ _ | refine Below.setCell ?_ (by simp) _))
  · have HE := Lib.hid (show ofP ⟨k, x, y, z⟩ = (Nm.noNum, false) by unfold ofP; rw [if_neg (fun c => hk c.1)])
    have gk : (k != 2) = true := bne_iff_ne.2 hk
    clear HR gI gD
    go_enter Tryz.func21, Tryz.ntmps21
    go_wp2
    refine bodyPost_ret (v := .tuple #[.agg #[.int .i64 0, .int .i64 0, .bool false], .bool false]) (by simp [results, Tryz.results21, go_sem]) rfl ⟨by rw [HE.out]; rfl, ?_⟩
    repeat (with_reducible (first | exact two_alloc _ _ _ | refine Below.setCell ?_ (by simp) _))

end Go.Proofs.YtdnfaoanaehjhaaGreatDoor
