/- The text of escapes, by the document's own answer: what it comes to, for every text. -/
import Derived.Test.YtgkpdcjkobieiaaDoorRefAhead
import Derived.Test.YtgkpdcjkobieiaaDoorTermPrefix
import Derived.Test.YtgkpdcjkobieiaaDoorTermJoin
namespace Go.Proofs.YtgkpdcjkobieiaaDoor
open Go.RowKit

def unesc : List UInt8 → List UInt8 → List UInt8 × Bool
  | [], t => (t, true)
  | [c], t => if c = 92 then ([], false) else if c = 34 ∨ c = 10 ∨ c = 9 then ([], false) else (t ++ [c], true)
  | c :: d :: r, t => if c = 92 then (match escB d with | none => ([], false) | some e => unesc r (t ++ [e])) else if c = 34 ∨ c = 10 ∨ c = 9 then ([], false) else unesc (d :: r) (t ++ [c])
theorem unesc_plain (c : UInt8) (r t : List UInt8) (h : ¬ c = 92) : unesc (c :: r) t = if c = 34 ∨ c = 10 ∨ c = 9 then ([], false) else unesc r (t ++ [c]) := by
  cases r with
  | nil => simp [unesc, h]
  | cons d r => simp [unesc, h]

def badB (c : Int) : Bool := (c == 34) || (c == 10) || (c == 9)
theorem badB_iff (c : UInt8) : badB (c.toNat : Int) = true ↔ (c = 34 ∨ c = 10 ∨ c = 9) := by
  have h1 : c = 34 ↔ (c.toNat : Int) = 34 := (u8_of (b := c) (n := 34) (by omega)).symm
  have h2 : c = 10 ↔ (c.toNat : Int) = 10 := (u8_of (b := c) (n := 10) (by omega)).symm
  have h3 : c = 9 ↔ (c.toNat : Int) = 9 := (u8_of (b := c) (n := 9) (by omega)).symm
  rw [h1, h2, h3]
  simp [badB, or_assoc]

theorem unesc_bad (l t : List UInt8) (k : Nat) (h : k < l.length) (e1 : ¬ (l[k].toNat : Int) = 92) (e2 : badB (l[k].toNat : Int) = true) : unesc (l.drop k) t = ([], false) := by
  rw [List.drop_eq_getElem_cons h, unesc_plain _ _ _ (not92 e1), if_pos ((badB_iff _).1 e2)]
theorem unesc_take (l t : List UInt8) (k : Nat) (h : k < l.length) (e1 : ¬ (l[k].toNat : Int) = 92) (e2 : badB (l[k].toNat : Int) = false) : unesc (l.drop k) t = unesc (l.drop (k + 1)) (t ++ [l[k]]) := by
  rw [List.drop_eq_getElem_cons h, unesc_plain _ _ _ (not92 e1), if_neg (fun c => by rw [(badB_iff _).2 c] at e2; cases e2)]
theorem unesc_open (l t : List UInt8) (k : Nat) (h : k < l.length) (e1 : (l[k].toNat : Int) = 92) (h2 : l.length ≤ k + 1) : unesc (l.drop k) t = ([], false) := by
  rw [List.drop_eq_getElem_cons h, List.drop_eq_nil_of_le h2, unesc, if_pos (show l[k] = 92 from (u8_of (n := 92) (by omega)).1 e1)]
theorem unesc_no (l t : List UInt8) (k : Nat) (h : k < l.length) (e1 : (l[k].toNat : Int) = 92) (h2 : k + 1 < l.length) (e : escB l[k + 1] = none) : unesc (l.drop k) t = ([], false) := by
  rw [List.drop_eq_getElem_cons h, List.drop_eq_getElem_cons h2, unesc, if_pos (show l[k] = 92 from (u8_of (n := 92) (by omega)).1 e1), e]
theorem unesc_esc (l t : List UInt8) (k : Nat) (h : k < l.length) (e1 : (l[k].toNat : Int) = 92) (h2 : k + 1 < l.length) {c : UInt8} (e : escB l[k + 1] = some c) : unesc (l.drop k) t = unesc (l.drop (k + 2)) (t ++ [c]) := by
  rw [List.drop_eq_getElem_cons h, List.drop_eq_getElem_cons h2, unesc, if_pos (show l[k] = 92 from (u8_of (n := 92) (by omega)).1 e1), e]
theorem unesc_end (l t : List UInt8) (k : Nat) (h : l.length ≤ k) : unesc (l.drop k) t = (t, true) := by
  rw [List.drop_eq_nil_of_le h]; rfl

theorem one_bs (s : ByteArray) (k : Nat) (h : k < s.size) : s.extract k (k + 1) = bs [s[k]] := by
  refine bs_eq ?_
  rw [Lib.extract_data, ← get_list s k h, List.drop_eq_getElem_cons (by simpa using h), show k + 1 - k = 1 by omega]
  rfl

def unescS (l : List UInt8) : List UInt8 × Bool := unesc l []

set_option maxRecDepth 100000 in
set_option maxHeartbeats 1000000 in
theorem unescaped_calls (s : ByteArray) (w : World) (_hs : s.size ≤ 281474976710656) :
    Calls Tryd.prog 63 #[.string s] w fun e w' => e = .returned (.tuple #[.string (bs (unescS s.data.toList).1), .bool (unescS s.data.toList).2]) ∧ w' = w := by
  go_enter Tryd.func63, Tryd.ntmps63
  go_wp2
  go_loop [4, 5] (fun o i => ∃ (k : Nat) (t : List UInt8), k ≤ s.size ∧ o = .string (bs t) ∧ i = .int .i64 k ∧ (bs t).size ≤ k ∧ Hid (unescS s.data.toList = unesc (s.data.toList.drop k) t)) (fun _ i => s.size - (intOf i).toNat)
  case atStart => exact ⟨0, [], Nat.zero_le _, by rw [bs_nil], rfl, Nat.zero_le _, Lib.hid rfl⟩
  case round =>
    obtain ⟨k, t, hk, rfl, rfl, ht, HL⟩ := hrel
    by_cases hp : k < s.size
    · have hl : k < s.data.toList.length := by simpa using hp
      have hg := get_list s k hp
      by_cases hc : (s[k].toNat : Int) = 92
      · have g : ((s[k].toNat : Int) != 92) = false := by simpa using hc
        by_cases h2 : k + 1 < s.size
        · have hl2 : k + 1 < s.data.toList.length := by simpa using h2
          have hg2 := get_list s (k + 1) h2
          have e1 : (s.data.toList[k].toNat : Int) = 92 := by rw [hg]; exact hc
          cases he : escB s[k + 1] with
          | none =>
            have H0 := Lib.hid (unesc_no s.data.toList t k hl e1 hl2 (by rw [hg2]; exact he))
            have hz := escZ_none he
            have n1 : (s[k + 1].toNat : Int) ≠ 34 := fun c => by rw [c] at hz; simp [escZ] at hz
            have n2 : (s[k + 1].toNat : Int) ≠ 92 := fun c => by rw [c] at hz; simp [escZ] at hz
            have n3 : (s[k + 1].toNat : Int) ≠ 110 := fun c => by rw [c] at hz; simp [escZ] at hz
            have n4 : (s[k + 1].toNat : Int) ≠ 116 := fun c => by rw [c] at hz; simp [escZ] at hz
            have g1 : ((s[k + 1].toNat : Int) == 34) = false := beq_eq_false_iff_ne.2 n1
            have g2 : ((s[k + 1].toNat : Int) == 92) = false := beq_eq_false_iff_ne.2 n2
            have g3 : ((s[k + 1].toNat : Int) == 110) = false := beq_eq_false_iff_ne.2 n3
            have g4 : ((s[k + 1].toNat : Int) == 116) = false := beq_eq_false_iff_ne.2 n4
            clear n1 n2 n3 n4 hz he hc hg hg2 e1
            go_wp2
            go_ret2
            exact ⟨by rw [HL.out, H0.out]; rfl, rfl⟩
          | some c =>
            have H0 := Lib.hid (unesc_esc s.data.toList t k hl e1 hl2 (c := c) (by rw [hg2]; exact he))
            unfold escB at he
            by_cases d1 : s[k + 1] = 110
            · have hv : (s[k + 1].toNat : Int) = 110 := by rw [d1]; rfl
              have hcv : c = 10 := by simpa [d1] using he.symm
              subst hcv
              have g1 : ((s[k + 1].toNat : Int) == 34) = false := by rw [hv]; rfl
              have g2 : ((s[k + 1].toNat : Int) == 92) = false := by rw [hv]; rfl
              have g3 : ((s[k + 1].toNat : Int) == 110) = true := by rw [hv]; rfl
              clear he d1 hv hc hg hg2 e1
              go_wp2
              go_round
              case rel => exact ⟨k + 2, t ++ [10], by omega, by rw [← bs_app]; rfl, by go_num, by rw [bs_size] at ht ⊢; simp; omega, Lib.hid (by rw [HL.out, H0.out])⟩
              case measure => simp [intOf]; omega
            by_cases d2 : s[k + 1] = 116
            · have hv : (s[k + 1].toNat : Int) = 116 := by rw [d2]; rfl
              have hcv : c = 9 := by simpa [d2] using he.symm
              subst hcv
              have g1 : ((s[k + 1].toNat : Int) == 34) = false := by rw [hv]; rfl
              have g2 : ((s[k + 1].toNat : Int) == 92) = false := by rw [hv]; rfl
              have g3 : ((s[k + 1].toNat : Int) == 110) = false := by rw [hv]; rfl
              have g4 : ((s[k + 1].toNat : Int) == 116) = true := by rw [hv]; rfl
              clear he d1 d2 hv hc hg hg2 e1
              go_wp2
              go_round
              case rel => exact ⟨k + 2, t ++ [9], by omega, by rw [← bs_app]; rfl, by go_num, by rw [bs_size] at ht ⊢; simp; omega, Lib.hid (by rw [HL.out, H0.out])⟩
              case measure => simp [intOf]; omega
            rw [if_neg d1, if_neg d2] at he
            have hd : s[k + 1] = 34 ∨ s[k + 1] = 92 := by
              by_cases h : s[k + 1] = 34 ∨ s[k + 1] = 92
              · exact h
              · rw [if_neg h] at he; cases he
            have hcv : s[k + 1] = c := by rw [if_pos hd] at he; simpa using he
            have HC := Lib.hid hcv
            rcases hd with d3 | d3
            · have g1 : ((s[k + 1].toNat : Int) == 34) = true := by rw [d3]; rfl
              clear he d1 d2 d3 hcv hc hg hg2 e1
              go_wp2
              go_round
              case rel => exact ⟨k + 2, t ++ [c], by omega, by rw [one_bs s (k + 1) h2, bs_app, HC.out], by go_num, by rw [bs_size] at ht ⊢; simp; omega, Lib.hid (by rw [HL.out, H0.out])⟩
              case measure => simp [intOf]; omega
            · have g1 : ((s[k + 1].toNat : Int) == 34) = false := by rw [d3]; rfl
              have g2 : ((s[k + 1].toNat : Int) == 92) = true := by rw [d3]; rfl
              clear he d1 d2 d3 hcv hc hg hg2 e1
              go_wp2
              go_round
              case rel => exact ⟨k + 2, t ++ [c], by omega, by rw [one_bs s (k + 1) h2, bs_app, HC.out], by go_num, by rw [bs_size] at ht ⊢; simp; omega, Lib.hid (by rw [HL.out, H0.out])⟩
              case measure => simp [intOf]; omega
        · have H0 := Lib.hid (unesc_open s.data.toList t k hl (by rw [hg]; exact hc) (by simpa using (by omega : s.size ≤ k + 1)))
          clear hc hg
          go_wp2
          go_ret2
          exact ⟨by rw [HL.out, H0.out]; rfl, rfl⟩
      · have g : ((s[k].toNat : Int) != 92) = true := by simpa using hc
        cases hb : badB (s[k].toNat : Int) with
        | true =>
          have H0 := Lib.hid (unesc_bad s.data.toList t k hl (by rw [hg]; exact hc) (by rw [hg]; exact hb))
          clear hc hg
          unfold badB at hb
          go_wp2
          all_goals go_ret2
          all_goals exact ⟨by rw [HL.out, H0.out]; rfl, rfl⟩
        | false =>
          have H0 := Lib.hid (unesc_take s.data.toList t k hl (by rw [hg]; exact hc) (by rw [hg]; exact hb))
          have HG := Lib.hid hg
          have hb' := hb
          unfold badB at hb'
          simp at hb'
          have g1 : ((s[k].toNat : Int) == 34) = false := beq_eq_false_iff_ne.2 hb'.1.1
          have g2 : ((s[k].toNat : Int) == 10) = false := beq_eq_false_iff_ne.2 hb'.1.2
          have g3 : ((s[k].toNat : Int) == 9) = false := beq_eq_false_iff_ne.2 hb'.2
          clear hb hb' hc hg
          go_wp2
          go_round
          case rel => exact ⟨k + 1, t ++ [s[k]], by omega, by rw [one_bs s k hp, bs_app], by go_num, by rw [bs_size] at ht ⊢; simp; omega, Lib.hid (by rw [HL.out, H0.out, HG.out])⟩
          case measure => simp [intOf]; omega
    · have H0 := Lib.hid (unesc_end s.data.toList t k (by simpa using (by omega : s.size ≤ k)))
      go_wp2
      go_ret2
      exact ⟨by rw [HL.out, H0.out]; rfl, rfl⟩

end Go.Proofs.YtgkpdcjkobieiaaDoor
