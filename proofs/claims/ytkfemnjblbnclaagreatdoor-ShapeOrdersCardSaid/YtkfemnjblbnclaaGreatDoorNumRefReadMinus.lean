/- The document's own reading of a number's text: the texts that begin so (minus). -/
import Derived.Test.YtkfemnjblbnclaaGreatDoorGRefRead
namespace Go.Proofs.YtkfemnjblbnclaaGreatDoor.Nm
open Go.RowKit

set_option maxRecDepth 100000 in
set_option maxHeartbeats 8000000 in
theorem rReadMinus (s : ByteArray) (dec : Bool) (w : World) (_hs : s.size ≤ maxLen) (R : Option (Nat × Int × Int)) (hR : walkR dec (s.data.toList.drop 1) 0 (-1) 0 = R) (h0 : 0 < s.size) (g1 : (((s[0]'h0).toNat : Int) == 45) = true) :
    Calls Tryz.prog 66 #[.string s, .bool dec] w fun e w' => e = .returned (NumL.ret (endR dec (-1) R)) ∧ Below w.heap.size w w' := by
  unfold maxLen at _hs
  have HR : Hid (RR s dec R 1 0 (-1) 0) := Lib.hid ⟨by decide, hR⟩
  clear hR
  obtain ⟨P, hP⟩ : ∃ P, endR dec (-1) R = P := ⟨_, rfl⟩
  have HP := Lib.hid hP
  rw [hP]
  clear hP
  have HG1 := Lib.hid g1
  go_enter Tryz.func66, Tryz.ntmps66
  go_wp2
  clear g1
  go_loop [7, 8, 9, 10] (fun n b v i => ∃ (k m : Nat) (bb vv : Int), n = .int .i64 m ∧ b = .int .i64 bb ∧ v = .int .i64 vv ∧ i = .int .i64 k ∧ k ≤ s.size ∧ m ≤ k ∧ m ≤ 13 ∧ -1 ≤ bb ∧ bb ≤ m ∧ 0 ≤ vv ∧ vv < 10000000000000 ∧ Hid (RR s dec R k m bb vv) ∧ Hid (dec = false → bb < 0)) (fun _ _ _ i => s.size - (intOf i).toNat)
  case atStart => exact ⟨1, 0, -1, 0, rfl, rfl, rfl, rfl, by omega, by omega, by omega, by omega, by omega, by omega, by omega, HR, Lib.hid fun _ => by omega⟩
  case round =>
    clear HR
    obtain ⟨k, m, bb, vv, rfl, rfl, rfl, rfl, hk, hmk, hm, hb1, hb2, hv1, hv2, HL, HF⟩ := hrel
    by_cases hp : k < s.size
    · have hdot : ∀ hd : dec = true, ((s[k]'hp).toNat : Int) = 46 → bb < 0 → RR s true R (k + 1) m 0 vv := fun hd hc hb => rr_dot hp (hd ▸ HL.out) hc hb
      have hnone := rr_none hp HL.out
      have hdig := rr_digit hp HL.out
      have hsm := fun b' v' (h : RR s dec R (k + 1) (m + 1) b' v') (h13 : m < 13) => rr_small h (by omega)
      clear HL
      have hcr : 0 ≤ ((s[k]'hp).toNat : Int) ∧ ((s[k]'hp).toNat : Int) < 256 := ⟨by omega, by have := (s[k]'hp).toNat_lt; omega⟩
      have hall : (((s[k]'hp).toNat : Int) = 46 ∧ bb < 0 ∧ dec = true) ∨ (((s[k]'hp).toNat : Int) = 46 ∧ ¬ bb < 0) ∨ (((s[k]'hp).toNat : Int) = 46 ∧ bb < 0 ∧ dec = false) ∨ (((s[k]'hp).toNat : Int) ≠ 46 ∧ ((s[k]'hp).toNat : Int) < 48) ∨ 57 < ((s[k]'hp).toNat : Int) ∨ (48 ≤ ((s[k]'hp).toNat : Int) ∧ ((s[k]'hp).toNat : Int) ≤ 57 ∧ m = 13) ∨ (48 ≤ ((s[k]'hp).toNat : Int) ∧ ((s[k]'hp).toNat : Int) ≤ 57 ∧ m < 13) := by
        cases dec <;> simp <;> omega
      rcases hall with ⟨a1, a2, a3⟩ | ⟨a1, a2⟩ | ⟨a1, a2, a3⟩ | ⟨a1, a2⟩ | a1 | ⟨a1, a2, a3⟩ | ⟨a1, a2, a3⟩
      · subst a3
        have g : (((s[k]'hp).toNat : Int) == 46) = true := beq_iff_eq.2 a1
        have HN := Lib.hid (hdot rfl a1 a2)
        clear a1 hdot hnone hdig hsm
        go_wp2
        go_round
        case rel => exact ⟨k + 1, m, 0, vv, rfl, rfl, rfl, by go_num, by omega, by omega, by omega, by omega, by omega, by omega, by omega, HN, Lib.hid fun h => by cases h⟩
        case measure => simp [intOf]; omega
      · have g : (((s[k]'hp).toNat : Int) == 46) = true := beq_iff_eq.2 a1
        have k1 : ((s[k]'hp).toNat : Int) < 48 := by omega
        have e := hnone (fun _ h => a2 h.1) (.inl (.inl k1))
        have HE := Lib.hid (show P = (noNum, false) from by rw [← HP.out, e]; rfl)
        clear hdot hnone hdig hsm e a1
        go_wp2
        refine bodyPost_ret (v := .tuple #[.agg #[.int .i64 0, .int .i64 0, .bool false], .bool false]) (by simp [results, Tryz.results66, go_sem]) rfl ⟨by rw [HE.out]; rfl, ?_⟩
        exact box_below _ _
      · subst a3
        have g : (((s[k]'hp).toNat : Int) == 46) = true := beq_iff_eq.2 a1
        have k1 : ((s[k]'hp).toNat : Int) < 48 := by omega
        have e := hnone (fun _ h => by cases h.2) (.inl (.inl k1))
        have HE := Lib.hid (show P = (noNum, false) from by rw [← HP.out, e]; rfl)
        clear hdot hnone hdig hsm e a1
        go_wp2
        refine bodyPost_ret (v := .tuple #[.agg #[.int .i64 0, .int .i64 0, .bool false], .bool false]) (by simp [results, Tryz.results66, go_sem]) rfl ⟨by rw [HE.out]; rfl, ?_⟩
        exact box_below _ _
      · have g : (((s[k]'hp).toNat : Int) == 46) = false := beq_eq_false_iff_ne.2 a1
        have e := hnone (fun h => absurd h a1) (.inl (.inl a2))
        have HE := Lib.hid (show P = (noNum, false) from by rw [← HP.out, e]; rfl)
        clear hdot hnone hdig hsm e a1
        go_wp2
        refine bodyPost_ret (v := .tuple #[.agg #[.int .i64 0, .int .i64 0, .bool false], .bool false]) (by simp [results, Tryz.results66, go_sem]) rfl ⟨by rw [HE.out]; rfl, ?_⟩
        exact box_below _ _
      · have g : (((s[k]'hp).toNat : Int) == 46) = false := beq_eq_false_iff_ne.2 (by omega)
        have k1 : ¬ ((s[k]'hp).toNat : Int) < 48 := by omega
        have e := hnone (fun h => by omega) (.inl (.inr a1))
        have HE := Lib.hid (show P = (noNum, false) from by rw [← HP.out, e]; rfl)
        clear hdot hnone hdig hsm e
        go_wp2
        refine bodyPost_ret (v := .tuple #[.agg #[.int .i64 0, .int .i64 0, .bool false], .bool false]) (by simp [results, Tryz.results66, go_sem]) rfl ⟨by rw [HE.out]; rfl, ?_⟩
        exact box_below _ _
      · have g : (((s[k]'hp).toNat : Int) == 46) = false := beq_eq_false_iff_ne.2 (by omega)
        have k1 : ¬ ((s[k]'hp).toNat : Int) < 48 := by omega
        have k2 : ¬ 57 < ((s[k]'hp).toNat : Int) := by omega
        have k3 : ((m : Int) == 13) = true := beq_iff_eq.2 (by omega)
        have e := hnone (fun h => by omega) (.inr a3)
        have HE := Lib.hid (show P = (noNum, false) from by rw [← HP.out, e]; rfl)
        clear hdot hnone hdig hsm e a3
        go_wp2
        refine bodyPost_ret (v := .tuple #[.agg #[.int .i64 0, .int .i64 0, .bool false], .bool false]) (by simp [results, Tryz.results66, go_sem]) rfl ⟨by rw [HE.out]; rfl, ?_⟩
        exact box_below _ _
      · have g : (((s[k]'hp).toNat : Int) == 46) = false := beq_eq_false_iff_ne.2 (by omega)
        have k1 : ¬ ((s[k]'hp).toNat : Int) < 48 := by omega
        have k2 : ¬ 57 < ((s[k]'hp).toNat : Int) := by omega
        have k3 : ((m : Int) == 13) = false := beq_eq_false_iff_ne.2 (by omega)
        by_cases hbb : 0 ≤ bb
        · have hN := hdig a1 a2 a3 (bb + 1) (by rw [if_pos hbb])
          have hs := hsm _ _ hN a3
          have HN := Lib.hid hN
          clear hdot hnone hdig hsm hN
          go_wp2
          go_round
          case rel => exact ⟨k + 1, m + 1, bb + 1, 10 * vv + ((s[k]'hp).toNat : Int) - 48, by go_num, rfl, rfl, by go_num, by omega, by omega, by omega, by omega, by omega, by omega, by omega, HN, Lib.hid fun h => absurd (HF.out h) (by omega)⟩
          case measure => simp [intOf]; omega
        · have hN := hdig a1 a2 a3 bb (by rw [if_neg hbb])
          have hs := hsm _ _ hN a3
          have HN := Lib.hid hN
          clear hdot hnone hdig hsm hN
          go_wp2
          go_round
          case rel => exact ⟨k + 1, m + 1, bb, 10 * vv + ((s[k]'hp).toNat : Int) - 48, by go_num, rfl, rfl, by go_num, by omega, by omega, by omega, by omega, by omega, by omega, by omega, HN, HF⟩
          case measure => simp [intOf]; omega
    · have HE0 := Lib.hid (rr_end hp HL.out)
      clear HL
      by_cases hm0 : m = 0
      · have HE := Lib.hid (show P = (noNum, false) from by rw [← HP.out, HE0.out, hm0, end_zero])
        have g3 : ((m : Int) == 0) = true := beq_iff_eq.2 (by omega)
        clear hm0
        go_wp2
        refine bodyPost_ret (v := .tuple #[.agg #[.int .i64 0, .int .i64 0, .bool false], .bool false]) (by simp [results, Tryz.results66, go_sem]) rfl ⟨by rw [HE.out]; rfl, ?_⟩
        exact box_below _ _
      · have g3 : ((m : Int) == 0) = false := beq_eq_false_iff_ne.2 (by omega)
        have hbad : (dec = true ∧ bb < 1) ∨ (dec = true ∧ ¬ bb < 1 ∧ 4 < bb) ∨ (dec = true ∧ ¬ bb < 1 ∧ ¬ 4 < bb) ∨ dec = false := by
          cases dec <;> simp <;> omega
        rcases hbad with ⟨a1, a2⟩ | ⟨a1, a2, a3⟩ | ⟨a1, a2, a3⟩ | a1
        · subst a1
          have HE := Lib.hid (show P = (noNum, false) from by rw [← HP.out, HE0.out, end_few _ _ _ _ (.inl a2)])
          clear hm0
          go_wp2
          refine bodyPost_ret (v := .tuple #[.agg #[.int .i64 0, .int .i64 0, .bool false], .bool false]) (by simp [results, Tryz.results66, go_sem]) rfl ⟨by rw [HE.out]; rfl, ?_⟩
          exact box_below _ _
        · subst a1
          have HE := Lib.hid (show P = (noNum, false) from by rw [← HP.out, HE0.out, end_few _ _ _ _ (.inr a3)])
          clear hm0
          go_wp2
          refine bodyPost_ret (v := .tuple #[.agg #[.int .i64 0, .int .i64 0, .bool false], .bool false]) (by simp [results, Tryz.results66, go_sem]) rfl ⟨by rw [HE.out]; rfl, ?_⟩
          exact box_below _ _
        · subst a1
          have HM := Lib.hid (show P = madeL ((-1) * vv) (max bb 0).toNat _ from by rw [← HP.out, HE0.out, end_made _ _ _ _ _ hm0 (by intro _; omega)])
          have HC : Hid (∀ (y x : Int) W, y = (-1) * vv → x = max bb 0 → Calls Tryz.prog 85 #[.int .i64 y, .int .i64 x, .bool true] W fun e w' => e = .returned (NumL.ret P) ∧ Below W.heap.size W w') := Lib.hid fun y x W hy hx => by
            have := rCut_calls y (max bb 0).toNat true W (by omega) (by omega) (by omega)
            rw [show (((max bb 0).toNat : Nat) : Int) = x by omega, hy] at this
            rw [HM.out, hy]
            exact this
          have g1 := HG1.out
          clear hm0 HE0 HM HP
          obtain ⟨⟨X, Y, Z⟩, ok⟩ := P
          go_wp2_with fail
          refine (HC.out _ _ _ ?_ ?_).mono ?_
          · omega
          · omega
          rintro e w1 ⟨rfl, hb⟩
          simp only [NumL.ret, NumL.val]
          obtain ⟨hc, hf⟩ := bcell hb
          go_wp2
          refine bodyPost_ret (v := .tuple #[.agg #[.int .i64 X, .int .i64 Y, .bool Z], .bool ok]) (by simp [results, Tryz.results66, hc, go_sem]) rfl ⟨rfl, ?_⟩
          exact (((one_box hb).setCell (Nat.le_refl _) _).setCell (Nat.le_refl _) _).setCell (Nat.le_refl _) _
        · subst a1
          have hbn := HF.out rfl
          have HM := Lib.hid (show P = madeL ((-1) * vv) (max bb 0).toNat _ from by rw [← HP.out, HE0.out, end_made _ _ _ _ _ hm0 (by intro h; cases h)])
          have HC : Hid (∀ (y x : Int) W, y = (-1) * vv → x = max bb 0 → Calls Tryz.prog 85 #[.int .i64 y, .int .i64 x, .bool false] W fun e w' => e = .returned (NumL.ret P) ∧ Below W.heap.size W w') := Lib.hid fun y x W hy hx => by
            have := rCut_calls y (max bb 0).toNat false W (by omega) (by omega) (by omega)
            rw [show (((max bb 0).toNat : Nat) : Int) = x by omega, hy] at this
            rw [HM.out, hy]
            exact this
          have g1 := HG1.out
          clear hm0 HE0 HM HP
          obtain ⟨⟨X, Y, Z⟩, ok⟩ := P
          go_wp2_with fail
          refine (HC.out _ _ _ ?_ ?_).mono ?_
          · omega
          · omega
          rintro e w1 ⟨rfl, hb⟩
          simp only [NumL.ret, NumL.val]
          obtain ⟨hc, hf⟩ := bcell hb
          go_wp2
          refine bodyPost_ret (v := .tuple #[.agg #[.int .i64 X, .int .i64 Y, .bool Z], .bool ok]) (by simp [results, Tryz.results66, hc, go_sem]) rfl ⟨rfl, ?_⟩
          exact (((one_box hb).setCell (Nat.le_refl _) _).setCell (Nat.le_refl _) _).setCell (Nat.le_refl _) _

end Go.Proofs.YtkfemnjblbnclaaGreatDoor.Nm