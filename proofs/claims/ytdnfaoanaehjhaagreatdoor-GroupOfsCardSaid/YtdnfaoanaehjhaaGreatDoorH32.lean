/- NumRefRead, NumRefReadEmpty, NumRefReadMinus, NumRefReadPlus, put together. -/
import Derived.Test.YtdnfaoanaehjhaaGreatDoorH16
import Derived.Test.YtdnfaoanaehjhaaGreatDoorH18

/- The document's own reading of a number's text: what package number's Read comes to, for every text. -/
namespace Go.Proofs.YtdnfaoanaehjhaaGreatDoor.Nm
open Go.RowKit

theorem get_list (s : ByteArray) (k : Nat) (h : k < s.size) : (s.data.toList[k]'(by simpa using h)) = s[k]'h := by simp; rfl
theorem walk_get (dec : Bool) (l : List UInt8) (k : Nat) (h : k < l.length) (n : Nat) (b v : Int) : walkR dec (l.drop k) n b v =
    if l[k] = 46 ∧ b < 0 ∧ dec = true then walkR dec (l.drop (k + 1)) n 0 v else if digitB l[k] = false ∨ n = 13 then none else walkR dec (l.drop (k + 1)) (n + 1) (if 0 ≤ b then b + 1 else b) (10 * v + (l[k].toNat : Int) - 48) := by
  rw [List.drop_eq_getElem_cons h, walk_cons]
theorem walk_end (dec : Bool) (l : List UInt8) (k : Nat) (h : l.length ≤ k) (n : Nat) (b v : Int) : walkR dec (l.drop k) n b v = some (n, b, v) := by
  rw [List.drop_eq_nil_of_le h]; rfl
theorem byte_46 (c : UInt8) : c = 46 ↔ (c.toNat : Int) = 46 := by
  constructor
  · intro h; rw [h]; rfl
  · intro h; apply UInt8.toNat_inj.1; show c.toNat = 46; omega

/- how a text begins -/
theorem head_cases (s : ByteArray) : (s.size = 0 ∧ unsigned s.data.toList = s.data.toList.drop 0 ∧ signOf s.data.toList = 1) ∨ ∃ h : 0 < s.size,
    ((((s[0]'h).toNat : Int) = 45 ∧ unsigned s.data.toList = s.data.toList.drop 1 ∧ signOf s.data.toList = -1) ∨
     (((s[0]'h).toNat : Int) = 43 ∧ unsigned s.data.toList = s.data.toList.drop 1 ∧ signOf s.data.toList = 1) ∨
     (((s[0]'h).toNat : Int) ≠ 45 ∧ ((s[0]'h).toNat : Int) ≠ 43 ∧ unsigned s.data.toList = s.data.toList.drop 0 ∧ signOf s.data.toList = 1)) := by
  by_cases h : 0 < s.size
  · right
    refine ⟨h, ?_⟩
    have e := get_list s 0 h
    have hl : s.data.toList = s[0] :: s.data.toList.drop 1 := by
      have := List.drop_eq_getElem_cons (l := s.data.toList) (i := 0) (by simpa using h)
      rw [List.drop_zero, e] at this
      exact this
    generalize s[0] = c at hl
    generalize s.data.toList.drop 1 = r at hl
    rw [hl]
    by_cases h1 : c = 45
    · left; subst h1; exact ⟨rfl, rfl, rfl⟩
    · have n1 : (c.toNat : Int) ≠ 45 := fun k => h1 (UInt8.toNat_inj.1 (by show c.toNat = 45; omega))
      by_cases h2 : c = 43
      · right; left; subst h2; exact ⟨rfl, rfl, rfl⟩
      · have n2 : (c.toNat : Int) ≠ 43 := fun k => h2 (UInt8.toNat_inj.1 (by show c.toNat = 43; omega))
        right; right
        exact ⟨n1, n2, by simp [unsigned, h1, h2], by simp [signOf, h1]⟩
  · left
    have : s.data.toList = [] := List.eq_nil_of_length_eq_zero (by rw [← Lib.size_eq]; omega)
    rw [this]
    exact ⟨by omega, rfl, rfl⟩

def Go45 (s : ByteArray) (sg : Int) : Prop := ∀ h : 0 < s.size, (sg = -1 ∧ (((s[0]'h).toNat : Int) == 45) = true) ∨ (sg = 1 ∧ (((s[0]'h).toNat : Int) == 45) = false)

/- the walk's relation -/
def RR (s : ByteArray) (dec : Bool) (R : Option (Nat × Int × Int)) (k n : Nat) (b v : Int) : Prop := v < ten n ∧ walkR dec (s.data.toList.drop k) n b v = R

theorem rr_dot {s : ByteArray} {R : Option (Nat × Int × Int)} {k n : Nat} {b v : Int} (hk : k < s.size) (h : RR s true R k n b v) (hc : ((s[k]'hk).toNat : Int) = 46) (hb : b < 0) : RR s true R (k + 1) n 0 v := by
  refine ⟨h.1, ?_⟩
  have := h.2
  rw [walk_get true _ k (by simpa using hk), get_list s k hk, if_pos ⟨(byte_46 _).2 hc, hb, rfl⟩] at this
  exact this
theorem rr_none {s : ByteArray} {dec : Bool} {R : Option (Nat × Int × Int)} {k n : Nat} {b v : Int} (hk : k < s.size) (h : RR s dec R k n b v) (hc : (((s[k]'hk).toNat : Int) = 46 → ¬ (b < 0 ∧ dec = true))) (hd : (((s[k]'hk).toNat : Int) < 48 ∨ 57 < ((s[k]'hk).toNat : Int)) ∨ n = 13) : R = none := by
  have := h.2
  rw [walk_get dec _ k (by simpa using hk), get_list s k hk, if_neg (fun e => hc ((byte_46 _).1 e.1) e.2), if_pos (by
    rcases hd with hd | hd
    · left; simp [digitB]; omega
    · exact .inr hd)] at this
  exact this.symm
theorem rr_digit {s : ByteArray} {dec : Bool} {R : Option (Nat × Int × Int)} {k n : Nat} {b v : Int} (hk : k < s.size) (h : RR s dec R k n b v) (h1 : 48 ≤ ((s[k]'hk).toNat : Int)) (h2 : ((s[k]'hk).toNat : Int) ≤ 57) (hn : n < 13) (b' : Int) (hb : b' = if 0 ≤ b then b + 1 else b) :
    RR s dec R (k + 1) (n + 1) b' (10 * v + ((s[k]'hk).toNat : Int) - 48) := by
  obtain ⟨ht, hw⟩ := h
  refine ⟨by have e : ten (n + 1) = 10 * ten n := rfl; omega, ?_⟩
  rw [walk_get dec _ k (by simpa using hk), get_list s k hk, if_neg (fun e => by have := (byte_46 _).1 e.1; omega), if_neg (by
    rintro (e | e)
    · simp [digitB] at e; omega
    · omega), ← hb] at hw
  exact hw
theorem rr_end {s : ByteArray} {dec : Bool} {R : Option (Nat × Int × Int)} {k n : Nat} {b v : Int} (hk : ¬ k < s.size) (h : RR s dec R k n b v) : R = some (n, b, v) := by
  have := h.2
  rw [walk_end dec _ k (by rw [← Lib.size_eq]; omega)] at this
  exact this.symm
theorem rr_small {s : ByteArray} {dec : Bool} {R : Option (Nat × Int × Int)} {k n : Nat} {b v : Int} (h : RR s dec R k n b v) (hn : n ≤ 13) : v < 10000000000000 := by
  have := ten_13 n hn; have := h.1; omega
theorem end_none (dec : Bool) (sg : Int) : endR dec sg none = (noNum, false) := rfl
theorem end_zero (dec : Bool) (sg b v : Int) : endR dec sg (some (0, b, v)) = (noNum, false) := by unfold endR; simp
theorem end_few (sg b v : Int) (n : Nat) (h : b < 1 ∨ 4 < b) : endR true sg (some (n, b, v)) = (noNum, false) := by
  unfold endR; simp only []; rw [if_pos (.inr ⟨by simp, h⟩)]
theorem end_made (dec : Bool) (sg b v : Int) (n : Nat) (hn : n ≠ 0) (h : dec = true → 1 ≤ b ∧ b ≤ 4) : endR dec sg (some (n, b, v)) = madeL (sg * v) (max b 0).toNat dec := by
  unfold endR
  simp only []
  rw [if_neg]
  rintro (e | ⟨e, e'⟩)
  · exact hn e
  · have := h e; omega

end Go.Proofs.YtdnfaoanaehjhaaGreatDoor.Nm

/- The document's own reading of a number's text: the texts that begin so (empty). -/
namespace Go.Proofs.YtdnfaoanaehjhaaGreatDoor.Nm
open Go.RowKit

set_option maxRecDepth 100000 in
set_option maxHeartbeats 8000000 in
theorem rReadEmpty (s : ByteArray) (dec : Bool) (w : World) (_hs : s.size ≤ maxLen) (R : Option (Nat × Int × Int)) (hR : walkR dec (s.data.toList.drop 0) 0 (-1) 0 = R) (hz : s.size = 0) :
    Calls Tryz.prog 53 #[.string s, .bool dec] w fun e w' => e = .returned (NumL.ret (endR dec (1) R)) ∧ Below w.heap.size w w' := by
  unfold maxLen at _hs
  have HR : Hid (RR s dec R 0 0 (-1) 0) := Lib.hid ⟨by decide, hR⟩
  clear hR
  obtain ⟨P, hP⟩ : ∃ P, endR dec (1) R = P := ⟨_, rfl⟩
  have HP := Lib.hid hP
  rw [hP]
  clear hP
  go_enter Tryz.func53, Tryz.ntmps53
  go_wp2
  go_loop [7, 8, 9, 10] (fun n b v i => ∃ (k m : Nat) (bb vv : Int), n = .int .i64 m ∧ b = .int .i64 bb ∧ v = .int .i64 vv ∧ i = .int .i64 k ∧ k ≤ s.size ∧ m ≤ k ∧ m ≤ 13 ∧ -1 ≤ bb ∧ bb ≤ m ∧ 0 ≤ vv ∧ vv < 10000000000000 ∧ Hid (RR s dec R k m bb vv) ∧ Hid (dec = false → bb < 0)) (fun _ _ _ i => s.size - (intOf i).toNat)
  case atStart => exact ⟨0, 0, -1, 0, rfl, rfl, rfl, rfl, by omega, by omega, by omega, by omega, by omega, by omega, by omega, HR, Lib.hid fun _ => by omega⟩
  case round =>
    clear HR
    obtain ⟨k, m, bb, vv, rfl, rfl, rfl, rfl, hk, hmk, hm, hb1, hb2, hv1, hv2, HL, HF⟩ := hrel
    by_cases hp : k < s.size
    · exfalso; omega
    · have HE0 := Lib.hid (rr_end hp HL.out)
      clear HL
      by_cases hm0 : m = 0
      · have HE := Lib.hid (show P = (noNum, false) from by rw [← HP.out, HE0.out, hm0, end_zero])
        have g3 : ((m : Int) == 0) = true := beq_iff_eq.2 (by omega)
        clear hm0
        go_wp2
        refine bodyPost_ret (v := .tuple #[.agg #[.int .i64 0, .int .i64 0, .bool false], .bool false]) (by simp [results, Tryz.results53, go_sem]) rfl ⟨by rw [HE.out]; rfl, ?_⟩
        exact box_below _ _
      · exfalso; omega

end Go.Proofs.YtdnfaoanaehjhaaGreatDoor.Nm

/- The document's own reading of a number's text: the texts that begin so (minus). -/
namespace Go.Proofs.YtdnfaoanaehjhaaGreatDoor.Nm
open Go.RowKit

set_option maxRecDepth 100000 in
set_option maxHeartbeats 8000000 in
theorem rReadMinus (s : ByteArray) (dec : Bool) (w : World) (_hs : s.size ≤ maxLen) (R : Option (Nat × Int × Int)) (hR : walkR dec (s.data.toList.drop 1) 0 (-1) 0 = R) (h0 : 0 < s.size) (g1 : (((s[0]'h0).toNat : Int) == 45) = true) :
    Calls Tryz.prog 53 #[.string s, .bool dec] w fun e w' => e = .returned (NumL.ret (endR dec (-1) R)) ∧ Below w.heap.size w w' := by
  unfold maxLen at _hs
  have HR : Hid (RR s dec R 1 0 (-1) 0) := Lib.hid ⟨by decide, hR⟩
  clear hR
  obtain ⟨P, hP⟩ : ∃ P, endR dec (-1) R = P := ⟨_, rfl⟩
  have HP := Lib.hid hP
  rw [hP]
  clear hP
  have HG1 := Lib.hid g1
  go_enter Tryz.func53, Tryz.ntmps53
  go_wp2
  clear g1
  go_loop [7, 8, 9, 10] (fun n b v i => ∃ (k m : Nat) (bb vv : Int), n = .int .i64 m ∧ b = .int .i64 bb ∧ v = .int .i64 vv ∧ i = .int .i64 k ∧ k ≤ s.size ∧ m ≤ k ∧ m ≤ 13 ∧ -1 ≤ bb ∧ bb ≤ m ∧ 0 ≤ vv ∧ vv < 10000000000000 ∧ Hid (RR s dec R k m bb vv) ∧ Hid (dec = false → bb < 0)) (fun _ _ _ i => s.size - (intOf i).toNat)
  case atStart => exact ⟨1, 0, -1, 0, rfl, rfl, rfl, rfl, by omega, by omega, by omega, by omega, by omega, by omega, by omega, HR, Lib.hid fun _ => by omega⟩
  case round =>
    clear HR
    obtain ⟨k, m, bb, vv, rfl, rfl, rfl, rfl, hk, hmk, hm, hb1, hb2, hv1, hv2, HL, HF⟩ := hrel
    by_cases hp : k < s.size
    · have hdot : ∀ hd : dec = true, ((s[k]'hp).toNat : Int) = 46 → bb < 0 → RR s true R (k + 1) m 0 vv := fun hd hc hb => rr_dot hp (hd ▸ HL.out) hc hb
      have hnone := rr_none hp HL.out
      have hdig := rr_digit hp HL.out
      have hsm := fun b' v' (h : RR s dec R (k + 1) (m + 1) b' v') (h13 : m < 13) => rr_small h (by omega)
      clear HL
      have hcr : 0 ≤ ((s[k]'hp).toNat : Int) ∧ ((s[k]'hp).toNat : Int) < 256 := ⟨by omega, by have := (s[k]'hp).toNat_lt; omega⟩
      have hall : (((s[k]'hp).toNat : Int) = 46 ∧ bb < 0 ∧ dec = true) ∨ (((s[k]'hp).toNat : Int) = 46 ∧ ¬ bb < 0) ∨ (((s[k]'hp).toNat : Int) = 46 ∧ bb < 0 ∧ dec = false) ∨ (((s[k]'hp).toNat : Int) ≠ 46 ∧ ((s[k]'hp).toNat : Int) < 48) ∨ 57 < ((s[k]'hp).toNat : Int) ∨ (48 ≤ ((s[k]'hp).toNat : Int) ∧ ((s[k]'hp).toNat : Int) ≤ 57 ∧ m = 13) ∨ (48 ≤ ((s[k]'hp).toNat : Int) ∧ ((s[k]'hp).toNat : Int) ≤ 57 ∧ m < 13) := by
        cases dec <;> simp <;> omega
      rcases hall with ⟨a1, a2, a3⟩ | ⟨a1, a2⟩ | ⟨a1, a2, a3⟩ | ⟨a1, a2⟩ | a1 | ⟨a1, a2, a3⟩ | ⟨a1, a2, a3⟩
      · subst a3
        have g : (((s[k]'hp).toNat : Int) == 46) = true := beq_iff_eq.2 a1
        have HN := Lib.hid (hdot rfl a1 a2)
        clear a1 hdot hnone hdig hsm
        go_wp2
        go_round
        case rel => exact ⟨k + 1, m, 0, vv, rfl, rfl, rfl, by go_num, by omega, by omega, by omega, by omega, by omega, by omega, by omega, HN, Lib.hid fun h => by cases h⟩
        case measure => simp [intOf]; omega
      · have g : (((s[k]'hp).toNat : Int) == 46) = true := beq_iff_eq.2 a1
        have k1 : ((s[k]'hp).toNat : Int) < 48 := by omega
        have e := hnone (fun _ h => a2 h.1) (.inl (.inl k1))
        have HE := Lib.hid (show P = (noNum, false) from by rw [← HP.out, e]; rfl)
        clear hdot hnone hdig hsm e a1
        go_wp2
        refine bodyPost_ret (v := .tuple #[.agg #[.int .i64 0, .int .i64 0, .bool false], .bool false]) (by simp [results, Tryz.results53, go_sem]) rfl ⟨by rw [HE.out]; rfl, ?_⟩
        exact box_below _ _
      · subst a3
        have g : (((s[k]'hp).toNat : Int) == 46) = true := beq_iff_eq.2 a1
        have k1 : ((s[k]'hp).toNat : Int) < 48 := by omega
        have e := hnone (fun _ h => by cases h.2) (.inl (.inl k1))
        have HE := Lib.hid (show P = (noNum, false) from by rw [← HP.out, e]; rfl)
        clear hdot hnone hdig hsm e a1
        go_wp2
        refine bodyPost_ret (v := .tuple #[.agg #[.int .i64 0, .int .i64 0, .bool false], .bool false]) (by simp [results, Tryz.results53, go_sem]) rfl ⟨by rw [HE.out]; rfl, ?_⟩
        exact box_below _ _
      · have g : (((s[k]'hp).toNat : Int) == 46) = false := beq_eq_false_iff_ne.2 a1
        have e := hnone (fun h => absurd h a1) (.inl (.inl a2))
        have HE := Lib.hid (show P = (noNum, false) from by rw [← HP.out, e]; rfl)
        clear hdot hnone hdig hsm e a1
        go_wp2
        refine bodyPost_ret (v := .tuple #[.agg #[.int .i64 0, .int .i64 0, .bool false], .bool false]) (by simp [results, Tryz.results53, go_sem]) rfl ⟨by rw [HE.out]; rfl, ?_⟩
        exact box_below _ _
      · have g : (((s[k]'hp).toNat : Int) == 46) = false := beq_eq_false_iff_ne.2 (by omega)
        have k1 : ¬ ((s[k]'hp).toNat : Int) < 48 := by omega
        have e := hnone (fun h => by omega) (.inl (.inr a1))
        have HE := Lib.hid (show P = (noNum, false) from by rw [← HP.out, e]; rfl)
        clear hdot hnone hdig hsm e
        go_wp2
        refine bodyPost_ret (v := .tuple #[.agg #[.int .i64 0, .int .i64 0, .bool false], .bool false]) (by simp [results, Tryz.results53, go_sem]) rfl ⟨by rw [HE.out]; rfl, ?_⟩
        exact box_below _ _
      · have g : (((s[k]'hp).toNat : Int) == 46) = false := beq_eq_false_iff_ne.2 (by omega)
        have k1 : ¬ ((s[k]'hp).toNat : Int) < 48 := by omega
        have k2 : ¬ 57 < ((s[k]'hp).toNat : Int) := by omega
        have k3 : ((m : Int) == 13) = true := beq_iff_eq.2 (by omega)
        have e := hnone (fun h => by omega) (.inr a3)
        have HE := Lib.hid (show P = (noNum, false) from by rw [← HP.out, e]; rfl)
        clear hdot hnone hdig hsm e a3
        go_wp2
        refine bodyPost_ret (v := .tuple #[.agg #[.int .i64 0, .int .i64 0, .bool false], .bool false]) (by simp [results, Tryz.results53, go_sem]) rfl ⟨by rw [HE.out]; rfl, ?_⟩
        exact box_below _ _
      · have g : (((s[k]'hp).toNat : Int) == 46) = false := beq_eq_false_iff_ne.2 (by omega)
        have k1 : ¬ ((s[k]'hp).toNat : Int) < 48 := by omega
        have k2 : ¬ 57 < ((s[k]'hp).toNat : Int) := by omega
        have k3 : ((m : Int) == 13) = false := beq_eq_false_iff_ne.2 (by omega)
        by_cases hbb : 0 ≤ bb
        · have hN := hdig a1 a2 a3 (bb + 1) (by rw [if_pos hbb])
          have hs := hsm _ _ hN a3
          have HN := Lib.hid hN
          clear hdot hnone hdig hsm hN
          go_wp2
          go_round
          case rel => exact ⟨k + 1, m + 1, bb + 1, 10 * vv + ((s[k]'hp).toNat : Int) - 48, by go_num, rfl, rfl, by go_num, by omega, by omega, by omega, by omega, by omega, by omega, by omega, HN, Lib.hid fun h => absurd (HF.out h) (by omega)⟩
          case measure => simp [intOf]; omega
        · have hN := hdig a1 a2 a3 bb (by rw [if_neg hbb])
          have hs := hsm _ _ hN a3
          have HN := Lib.hid hN
          clear hdot hnone hdig hsm hN
          go_wp2
          go_round
          case rel => exact ⟨k + 1, m + 1, bb, 10 * vv + ((s[k]'hp).toNat : Int) - 48, by go_num, rfl, rfl, by go_num, by omega, by omega, by omega, by omega, by omega, by omega, by omega, HN, HF⟩
          case measure => simp [intOf]; omega
    · have HE0 := Lib.hid (rr_end hp HL.out)
      clear HL
      by_cases hm0 : m = 0
      · have HE := Lib.hid (show P = (noNum, false) from by rw [← HP.out, HE0.out, hm0, end_zero])
        have g3 : ((m : Int) == 0) = true := beq_iff_eq.2 (by omega)
        clear hm0
        go_wp2
        refine bodyPost_ret (v := .tuple #[.agg #[.int .i64 0, .int .i64 0, .bool false], .bool false]) (by simp [results, Tryz.results53, go_sem]) rfl ⟨by rw [HE.out]; rfl, ?_⟩
        exact box_below _ _
      · have g3 : ((m : Int) == 0) = false := beq_eq_false_iff_ne.2 (by omega)
        have hbad : (dec = true ∧ bb < 1) ∨ (dec = true ∧ ¬ bb < 1 ∧ 4 < bb) ∨ (dec = true ∧ ¬ bb < 1 ∧ ¬ 4 < bb) ∨ dec = false := by
          cases dec <;> simp <;> omega
        rcases hbad with ⟨a1, a2⟩ | ⟨a1, a2, a3⟩ | ⟨a1, a2, a3⟩ | a1
        · subst a1
          have HE := Lib.hid (show P = (noNum, false) from by rw [← HP.out, HE0.out, end_few _ _ _ _ (.inl a2)])
          clear hm0
          go_wp2
          refine bodyPost_ret (v := .tuple #[.agg #[.int .i64 0, .int .i64 0, .bool false], .bool false]) (by simp [results, Tryz.results53, go_sem]) rfl ⟨by rw [HE.out]; rfl, ?_⟩
          exact box_below _ _
        · subst a1
          have HE := Lib.hid (show P = (noNum, false) from by rw [← HP.out, HE0.out, end_few _ _ _ _ (.inr a3)])
          clear hm0
          go_wp2
          refine bodyPost_ret (v := .tuple #[.agg #[.int .i64 0, .int .i64 0, .bool false], .bool false]) (by simp [results, Tryz.results53, go_sem]) rfl ⟨by rw [HE.out]; rfl, ?_⟩
          exact box_below _ _
        · subst a1
          have HM := Lib.hid (show P = madeL ((-1) * vv) (max bb 0).toNat _ from by rw [← HP.out, HE0.out, end_made _ _ _ _ _ hm0 (by intro _; omega)])
          have HC : Hid (∀ (y x : Int) W, y = (-1) * vv → x = max bb 0 → Calls Tryz.prog 83 #[.int .i64 y, .int .i64 x, .bool true] W fun e w' => e = .returned (NumL.ret P) ∧ Below W.heap.size W w') := Lib.hid fun y x W hy hx => by
            have := rCut_calls y (max bb 0).toNat true W (by omega) (by omega) (by omega)
            rw [show (((max bb 0).toNat : Nat) : Int) = x by omega, hy] at this
            rw [HM.out, hy]
            exact this
          have g1 := HG1.out
          clear hm0 HE0 HM HP
          obtain ⟨⟨X, Y, Z⟩, ok⟩ := P
          go_wp2_with fail
          refine (HC.out _ _ _ ?_ ?_).mono ?_
          · omega
          · omega
          rintro e w1 ⟨rfl, hb⟩
          simp only [NumL.ret, NumL.val]
          obtain ⟨hc, hf⟩ := bcell hb
          go_wp2
          refine bodyPost_ret (v := .tuple #[.agg #[.int .i64 X, .int .i64 Y, .bool Z], .bool ok]) (by simp [results, Tryz.results53, hc, go_sem]) rfl ⟨rfl, ?_⟩
          exact (((one_box hb).setCell (Nat.le_refl _) _).setCell (Nat.le_refl _) _).setCell (Nat.le_refl _) _
        · subst a1
          have hbn := HF.out rfl
          have HM := Lib.hid (show P = madeL ((-1) * vv) (max bb 0).toNat _ from by rw [← HP.out, HE0.out, end_made _ _ _ _ _ hm0 (by intro h; cases h)])
          have HC : Hid (∀ (y x : Int) W, y = (-1) * vv → x = max bb 0 → Calls Tryz.prog 83 #[.int .i64 y, .int .i64 x, .bool false] W fun e w' => e = .returned (NumL.ret P) ∧ Below W.heap.size W w') := Lib.hid fun y x W hy hx => by
            have := rCut_calls y (max bb 0).toNat false W (by omega) (by omega) (by omega)
            rw [show (((max bb 0).toNat : Nat) : Int) = x by omega, hy] at this
            rw [HM.out, hy]
            exact this
          have g1 := HG1.out
          clear hm0 HE0 HM HP
          obtain ⟨⟨X, Y, Z⟩, ok⟩ := P
          go_wp2_with fail
          refine (HC.out _ _ _ ?_ ?_).mono ?_
          · omega
          · omega
          rintro e w1 ⟨rfl, hb⟩
          simp only [NumL.ret, NumL.val]
          obtain ⟨hc, hf⟩ := bcell hb
          go_wp2
          refine bodyPost_ret (v := .tuple #[.agg #[.int .i64 X, .int .i64 Y, .bool Z], .bool ok]) (by simp [results, Tryz.results53, hc, go_sem]) rfl ⟨rfl, ?_⟩
          exact (((one_box hb).setCell (Nat.le_refl _) _).setCell (Nat.le_refl _) _).setCell (Nat.le_refl _) _

end Go.Proofs.YtdnfaoanaehjhaaGreatDoor.Nm

/- The document's own reading of a number's text: the texts that begin so (plus). -/
namespace Go.Proofs.YtdnfaoanaehjhaaGreatDoor.Nm
open Go.RowKit

set_option maxRecDepth 100000 in
set_option maxHeartbeats 8000000 in
theorem rReadPlus (s : ByteArray) (dec : Bool) (w : World) (_hs : s.size ≤ maxLen) (R : Option (Nat × Int × Int)) (hR : walkR dec (s.data.toList.drop 1) 0 (-1) 0 = R) (h0 : 0 < s.size) (g1 : (((s[0]'h0).toNat : Int) == 45) = false) (g2 : (((s[0]'h0).toNat : Int) == 43) = true) :
    Calls Tryz.prog 53 #[.string s, .bool dec] w fun e w' => e = .returned (NumL.ret (endR dec (1) R)) ∧ Below w.heap.size w w' := by
  unfold maxLen at _hs
  have HR : Hid (RR s dec R 1 0 (-1) 0) := Lib.hid ⟨by decide, hR⟩
  clear hR
  obtain ⟨P, hP⟩ : ∃ P, endR dec (1) R = P := ⟨_, rfl⟩
  have HP := Lib.hid hP
  rw [hP]
  clear hP
  have HG1 := Lib.hid g1
  go_enter Tryz.func53, Tryz.ntmps53
  go_wp2
  clear g1 g2
  go_loop [7, 8, 9, 10] (fun n b v i => ∃ (k m : Nat) (bb vv : Int), n = .int .i64 m ∧ b = .int .i64 bb ∧ v = .int .i64 vv ∧ i = .int .i64 k ∧ k ≤ s.size ∧ m ≤ k ∧ m ≤ 13 ∧ -1 ≤ bb ∧ bb ≤ m ∧ 0 ≤ vv ∧ vv < 10000000000000 ∧ Hid (RR s dec R k m bb vv) ∧ Hid (dec = false → bb < 0)) (fun _ _ _ i => s.size - (intOf i).toNat)
  case atStart => exact ⟨1, 0, -1, 0, rfl, rfl, rfl, rfl, by omega, by omega, by omega, by omega, by omega, by omega, by omega, HR, Lib.hid fun _ => by omega⟩
  case round =>
    clear HR
    obtain ⟨k, m, bb, vv, rfl, rfl, rfl, rfl, hk, hmk, hm, hb1, hb2, hv1, hv2, HL, HF⟩ := hrel
    by_cases hp : k < s.size
    · have hdot : ∀ hd : dec = true, ((s[k]'hp).toNat : Int) = 46 → bb < 0 → RR s true R (k + 1) m 0 vv := fun hd hc hb => rr_dot hp (hd ▸ HL.out) hc hb
      have hnone := rr_none hp HL.out
      have hdig := rr_digit hp HL.out
      have hsm := fun b' v' (h : RR s dec R (k + 1) (m + 1) b' v') (h13 : m < 13) => rr_small h (by omega)
      clear HL
      have hcr : 0 ≤ ((s[k]'hp).toNat : Int) ∧ ((s[k]'hp).toNat : Int) < 256 := ⟨by omega, by have := (s[k]'hp).toNat_lt; omega⟩
      have hall : (((s[k]'hp).toNat : Int) = 46 ∧ bb < 0 ∧ dec = true) ∨ (((s[k]'hp).toNat : Int) = 46 ∧ ¬ bb < 0) ∨ (((s[k]'hp).toNat : Int) = 46 ∧ bb < 0 ∧ dec = false) ∨ (((s[k]'hp).toNat : Int) ≠ 46 ∧ ((s[k]'hp).toNat : Int) < 48) ∨ 57 < ((s[k]'hp).toNat : Int) ∨ (48 ≤ ((s[k]'hp).toNat : Int) ∧ ((s[k]'hp).toNat : Int) ≤ 57 ∧ m = 13) ∨ (48 ≤ ((s[k]'hp).toNat : Int) ∧ ((s[k]'hp).toNat : Int) ≤ 57 ∧ m < 13) := by
        cases dec <;> simp <;> omega
      rcases hall with ⟨a1, a2, a3⟩ | ⟨a1, a2⟩ | ⟨a1, a2, a3⟩ | ⟨a1, a2⟩ | a1 | ⟨a1, a2, a3⟩ | ⟨a1, a2, a3⟩
      · subst a3
        have g : (((s[k]'hp).toNat : Int) == 46) = true := beq_iff_eq.2 a1
        have HN := Lib.hid (hdot rfl a1 a2)
        clear a1 hdot hnone hdig hsm
        go_wp2
        go_round
        case rel => exact ⟨k + 1, m, 0, vv, rfl, rfl, rfl, by go_num, by omega, by omega, by omega, by omega, by omega, by omega, by omega, HN, Lib.hid fun h => by cases h⟩
        case measure => simp [intOf]; omega
      · have g : (((s[k]'hp).toNat : Int) == 46) = true := beq_iff_eq.2 a1
        have k1 : ((s[k]'hp).toNat : Int) < 48 := by omega
        have e := hnone (fun _ h => a2 h.1) (.inl (.inl k1))
        have HE := Lib.hid (show P = (noNum, false) from by rw [← HP.out, e]; rfl)
        clear hdot hnone hdig hsm e a1
        go_wp2
        refine bodyPost_ret (v := .tuple #[.agg #[.int .i64 0, .int .i64 0, .bool false], .bool false]) (by simp [results, Tryz.results53, go_sem]) rfl ⟨by rw [HE.out]; rfl, ?_⟩
        exact box_below _ _
      · subst a3
        have g : (((s[k]'hp).toNat : Int) == 46) = true := beq_iff_eq.2 a1
        have k1 : ((s[k]'hp).toNat : Int) < 48 := by omega
        have e := hnone (fun _ h => by cases h.2) (.inl (.inl k1))
        have HE := Lib.hid (show P = (noNum, false) from by rw [← HP.out, e]; rfl)
        clear hdot hnone hdig hsm e a1
        go_wp2
        refine bodyPost_ret (v := .tuple #[.agg #[.int .i64 0, .int .i64 0, .bool false], .bool false]) (by simp [results, Tryz.results53, go_sem]) rfl ⟨by rw [HE.out]; rfl, ?_⟩
        exact box_below _ _
      · have g : (((s[k]'hp).toNat : Int) == 46) = false := beq_eq_false_iff_ne.2 a1
        have e := hnone (fun h => absurd h a1) (.inl (.inl a2))
        have HE := Lib.hid (show P = (noNum, false) from by rw [← HP.out, e]; rfl)
        clear hdot hnone hdig hsm e a1
        go_wp2
        refine bodyPost_ret (v := .tuple #[.agg #[.int .i64 0, .int .i64 0, .bool false], .bool false]) (by simp [results, Tryz.results53, go_sem]) rfl ⟨by rw [HE.out]; rfl, ?_⟩
        exact box_below _ _
      · have g : (((s[k]'hp).toNat : Int) == 46) = false := beq_eq_false_iff_ne.2 (by omega)
        have k1 : ¬ ((s[k]'hp).toNat : Int) < 48 := by omega
        have e := hnone (fun h => by omega) (.inl (.inr a1))
        have HE := Lib.hid (show P = (noNum, false) from by rw [← HP.out, e]; rfl)
        clear hdot hnone hdig hsm e
        go_wp2
        refine bodyPost_ret (v := .tuple #[.agg #[.int .i64 0, .int .i64 0, .bool false], .bool false]) (by simp [results, Tryz.results53, go_sem]) rfl ⟨by rw [HE.out]; rfl, ?_⟩
        exact box_below _ _
      · have g : (((s[k]'hp).toNat : Int) == 46) = false := beq_eq_false_iff_ne.2 (by omega)
        have k1 : ¬ ((s[k]'hp).toNat : Int) < 48 := by omega
        have k2 : ¬ 57 < ((s[k]'hp).toNat : Int) := by omega
        have k3 : ((m : Int) == 13) = true := beq_iff_eq.2 (by omega)
        have e := hnone (fun h => by omega) (.inr a3)
        have HE := Lib.hid (show P = (noNum, false) from by rw [← HP.out, e]; rfl)
        clear hdot hnone hdig hsm e a3
        go_wp2
        refine bodyPost_ret (v := .tuple #[.agg #[.int .i64 0, .int .i64 0, .bool false], .bool false]) (by simp [results, Tryz.results53, go_sem]) rfl ⟨by rw [HE.out]; rfl, ?_⟩
        exact box_below _ _
      · have g : (((s[k]'hp).toNat : Int) == 46) = false := beq_eq_false_iff_ne.2 (by omega)
        have k1 : ¬ ((s[k]'hp).toNat : Int) < 48 := by omega
        have k2 : ¬ 57 < ((s[k]'hp).toNat : Int) := by omega
        have k3 : ((m : Int) == 13) = false := beq_eq_false_iff_ne.2 (by omega)
        by_cases hbb : 0 ≤ bb
        · have hN := hdig a1 a2 a3 (bb + 1) (by rw [if_pos hbb])
          have hs := hsm _ _ hN a3
          have HN := Lib.hid hN
          clear hdot hnone hdig hsm hN
          go_wp2
          go_round
          case rel => exact ⟨k + 1, m + 1, bb + 1, 10 * vv + ((s[k]'hp).toNat : Int) - 48, by go_num, rfl, rfl, by go_num, by omega, by omega, by omega, by omega, by omega, by omega, by omega, HN, Lib.hid fun h => absurd (HF.out h) (by omega)⟩
          case measure => simp [intOf]; omega
        · have hN := hdig a1 a2 a3 bb (by rw [if_neg hbb])
          have hs := hsm _ _ hN a3
          have HN := Lib.hid hN
          clear hdot hnone hdig hsm hN
          go_wp2
          go_round
          case rel => exact ⟨k + 1, m + 1, bb, 10 * vv + ((s[k]'hp).toNat : Int) - 48, by go_num, rfl, rfl, by go_num, by omega, by omega, by omega, by omega, by omega, by omega, by omega, HN, HF⟩
          case measure => simp [intOf]; omega
    · have HE0 := Lib.hid (rr_end hp HL.out)
      clear HL
      by_cases hm0 : m = 0
      · have HE := Lib.hid (show P = (noNum, false) from by rw [← HP.out, HE0.out, hm0, end_zero])
        have g3 : ((m : Int) == 0) = true := beq_iff_eq.2 (by omega)
        clear hm0
        go_wp2
        refine bodyPost_ret (v := .tuple #[.agg #[.int .i64 0, .int .i64 0, .bool false], .bool false]) (by simp [results, Tryz.results53, go_sem]) rfl ⟨by rw [HE.out]; rfl, ?_⟩
        exact box_below _ _
      · have g3 : ((m : Int) == 0) = false := beq_eq_false_iff_ne.2 (by omega)
        have hbad : (dec = true ∧ bb < 1) ∨ (dec = true ∧ ¬ bb < 1 ∧ 4 < bb) ∨ (dec = true ∧ ¬ bb < 1 ∧ ¬ 4 < bb) ∨ dec = false := by
          cases dec <;> simp <;> omega
        rcases hbad with ⟨a1, a2⟩ | ⟨a1, a2, a3⟩ | ⟨a1, a2, a3⟩ | a1
        · subst a1
          have HE := Lib.hid (show P = (noNum, false) from by rw [← HP.out, HE0.out, end_few _ _ _ _ (.inl a2)])
          clear hm0
          go_wp2
          refine bodyPost_ret (v := .tuple #[.agg #[.int .i64 0, .int .i64 0, .bool false], .bool false]) (by simp [results, Tryz.results53, go_sem]) rfl ⟨by rw [HE.out]; rfl, ?_⟩
          exact box_below _ _
        · subst a1
          have HE := Lib.hid (show P = (noNum, false) from by rw [← HP.out, HE0.out, end_few _ _ _ _ (.inr a3)])
          clear hm0
          go_wp2
          refine bodyPost_ret (v := .tuple #[.agg #[.int .i64 0, .int .i64 0, .bool false], .bool false]) (by simp [results, Tryz.results53, go_sem]) rfl ⟨by rw [HE.out]; rfl, ?_⟩
          exact box_below _ _
        · subst a1
          have HM := Lib.hid (show P = madeL ((1) * vv) (max bb 0).toNat _ from by rw [← HP.out, HE0.out, end_made _ _ _ _ _ hm0 (by intro _; omega)])
          have HC : Hid (∀ (y x : Int) W, y = (1) * vv → x = max bb 0 → Calls Tryz.prog 83 #[.int .i64 y, .int .i64 x, .bool true] W fun e w' => e = .returned (NumL.ret P) ∧ Below W.heap.size W w') := Lib.hid fun y x W hy hx => by
            have := rCut_calls y (max bb 0).toNat true W (by omega) (by omega) (by omega)
            rw [show (((max bb 0).toNat : Nat) : Int) = x by omega, hy] at this
            rw [HM.out, hy]
            exact this
          have g1 := HG1.out
          clear hm0 HE0 HM HP
          obtain ⟨⟨X, Y, Z⟩, ok⟩ := P
          go_wp2_with fail
          refine (HC.out _ _ _ ?_ ?_).mono ?_
          · omega
          · omega
          rintro e w1 ⟨rfl, hb⟩
          simp only [NumL.ret, NumL.val]
          obtain ⟨hc, hf⟩ := bcell hb
          go_wp2
          refine bodyPost_ret (v := .tuple #[.agg #[.int .i64 X, .int .i64 Y, .bool Z], .bool ok]) (by simp [results, Tryz.results53, hc, go_sem]) rfl ⟨rfl, ?_⟩
          exact (((one_box hb).setCell (Nat.le_refl _) _).setCell (Nat.le_refl _) _).setCell (Nat.le_refl _) _
        · subst a1
          have hbn := HF.out rfl
          have HM := Lib.hid (show P = madeL ((1) * vv) (max bb 0).toNat _ from by rw [← HP.out, HE0.out, end_made _ _ _ _ _ hm0 (by intro h; cases h)])
          have HC : Hid (∀ (y x : Int) W, y = (1) * vv → x = max bb 0 → Calls Tryz.prog 83 #[.int .i64 y, .int .i64 x, .bool false] W fun e w' => e = .returned (NumL.ret P) ∧ Below W.heap.size W w') := Lib.hid fun y x W hy hx => by
            have := rCut_calls y (max bb 0).toNat false W (by omega) (by omega) (by omega)
            rw [show (((max bb 0).toNat : Nat) : Int) = x by omega, hy] at this
            rw [HM.out, hy]
            exact this
          have g1 := HG1.out
          clear hm0 HE0 HM HP
          obtain ⟨⟨X, Y, Z⟩, ok⟩ := P
          go_wp2_with fail
          refine (HC.out _ _ _ ?_ ?_).mono ?_
          · omega
          · omega
          rintro e w1 ⟨rfl, hb⟩
          simp only [NumL.ret, NumL.val]
          obtain ⟨hc, hf⟩ := bcell hb
          go_wp2
          refine bodyPost_ret (v := .tuple #[.agg #[.int .i64 X, .int .i64 Y, .bool Z], .bool ok]) (by simp [results, Tryz.results53, hc, go_sem]) rfl ⟨rfl, ?_⟩
          exact (((one_box hb).setCell (Nat.le_refl _) _).setCell (Nat.le_refl _) _).setCell (Nat.le_refl _) _

end Go.Proofs.YtdnfaoanaehjhaaGreatDoor.Nm
