/- RefPlain, RefRight, put together. -/
import Derived.Test.YtkfemnjblbnclaaGreatDoorGRefCmp
import Derived.Test.YtkfemnjblbnclaaGreatDoorGTerm

/- The document's tests of names, IRIs, languages and terms, in plain words, are package term's (no program). -/
namespace Go.Proofs.YtkfemnjblbnclaaGreatDoor

def allAt (p : Nat → Int → Bool) : Nat → List UInt8 → Bool
  | _, [] => true
  | k, b :: r => p k (b.toNat : Int) && allAt p (k + 1) r
theorem lead_full (p : Nat → Int → Bool) : ∀ (k : Nat) (l : List UInt8), (lead p k l == l.length) = allAt p k l
  | _, [] => by simp [lead, allAt]
  | k, b :: r => by
    have ih := lead_full p (k + 1) r
    simp only [lead, allAt, List.length_cons]
    cases h : p k (b.toNat : Int) with
    | true => rw [Bool.true_and, ← ih, Bool.eq_iff_iff]; simp
    | false => simp

theorem allB_cons (p : Int → Bool) (b : UInt8) (r : List UInt8) : allB p (b :: r) = (p (b.toNat : Int) && allB p r) := rfl

theorem allAt_bound (q : Int → Bool) (n : Nat) : ∀ (k : Nat) (l : List UInt8), l ≠ [] → allAt (fun k c => decide (k < n) && q c) k l = (decide (k + l.length ≤ n) && allB q l)
  | _, [], h => absurd rfl h
  | k, [b], _ => by
    rw [Bool.eq_iff_iff]; simp [allAt, allB]; omega
  | k, b :: c :: r, _ => by
    have ih := allAt_bound q n (k + 1) (c :: r) (by simp)
    rw [allAt, ih, allB_cons q b (c :: r), Bool.eq_iff_iff]
    simp
    constructor
    · rintro ⟨⟨_, h1⟩, h2, h3⟩; exact ⟨by omega, h1, h3⟩
    · rintro ⟨h1, h2, h3⟩; exact ⟨⟨by omega, h2⟩, by omega, h3⟩

theorem iriL_eq (l : List UInt8) : iriL l = (decide (1 ≤ l.length) && decide (l.length ≤ 4096) && allB iriZ l) := by
  cases l with
  | nil => rfl
  | cons b r =>
    unfold iriL iriLead
    rw [lead_full, allAt_bound iriZ 4096 0 (b :: r) (by simp), Nat.zero_add]
    simp

theorem lead_lang (l : List UInt8) : langLead l = lead (fun k c => decide (k < 9) && smallZ c) 0 l := by
  unfold langLead
  congr 1
  funext k c
  congr 1
  rw [decide_eq_decide]; omega

theorem langL_eq (l : List UInt8) : langL l = (decide (1 ≤ l.length) && decide (l.length ≤ 8) && allB smallZ l) := by
  cases l with
  | nil => rfl
  | cons b r =>
    unfold langL
    rw [lead_lang, lead_full, allAt_bound smallZ 9 0 (b :: r) (by simp), Nat.zero_add, Bool.eq_iff_iff]
    simp
    constructor
    · rintro ⟨⟨_, h⟩, g⟩; exact ⟨by omega, h⟩
    · rintro ⟨g, h⟩; exact ⟨⟨by omega, h⟩, by omega⟩

theorem allAt_name : ∀ (k : Nat) (l : List UInt8), 0 < k → allAt (fun k c => decide (k < 32) && nameZ c k) k l = allAt (fun k c => decide (k < 32) && wordZ c) k l
  | _, [], _ => rfl
  | k, b :: r, h => by
    rw [allAt, allAt, allAt_name (k + 1) r (by omega)]
    have e : nameZ (b.toNat : Int) k = wordZ (b.toNat : Int) := by
      have : decide (0 < (k : Int)) = true := by simp; exact h
      rw [nameZ, wordZ, this, Bool.eq_iff_iff]; simp; exact or_assoc.symm.trans (by constructor <;> (rintro ((h | h) | h) <;> simp [h]))
    rw [e]

theorem nameL_eq (b : UInt8) (r : List UInt8) : nameL (b :: r) = (decide (r.length + 1 ≤ 32) && allB wordZ (b :: r) && letterZ (b.toNat : Int)) := by
  unfold nameL nameLead
  rw [lead_full, allAt, allAt_name 1 r (by omega)]
  have e : nameZ (b.toNat : Int) ((0 : Nat) : Int) = letterZ (b.toNat : Int) := by simp [nameZ]
  rw [e, allB_cons]
  have ew : letterZ (b.toNat : Int) = true → wordZ (b.toNat : Int) = true := fun h => by simp [wordZ, h]
  cases r with
  | nil => rw [Bool.eq_iff_iff]; simp [allAt, allB]; exact ew
  | cons c r =>
    rw [allAt_bound wordZ 32 1 (c :: r) (by simp), Bool.eq_iff_iff]
    simp
    constructor
    · rintro ⟨h, g, a⟩; exact ⟨⟨by omega, ew h, a⟩, h⟩
    · rintro ⟨⟨g, _, a⟩, h⟩; exact ⟨h, by omega, a⟩

theorem litL_eq (l : List UInt8) : litL l = (decide (l.length ≤ 4096) && allB litZ l) := rfl

end Go.Proofs.YtkfemnjblbnclaaGreatDoor

/- What the document's own answers for names, IRIs, languages and right terms come to: the same as package term's, for every text and term. -/
namespace Go.Proofs.YtkfemnjblbnclaaGreatDoor
open Go.RowKit

set_option maxHeartbeats 400000 in
theorem rIsIri_calls (s : ByteArray) (w : World) (_hs : s.size ≤ maxLen) :
    Calls Tryz.prog 36 #[.string s] w fun e w' => e = .returned (.bool (iriL s.data.toList)) ∧ w' = w := by
  unfold maxLen at _hs
  have HE := Lib.hid (iriL_eq s.data.toList)
  have hsz : s.size = s.data.toList.length := Lib.size_eq s
  have HSZ := Lib.hid hsz
  clear hsz
  obtain ⟨h1, h2⟩ | ⟨h1, h2⟩ | ⟨h1, h2⟩ : (1 ≤ s.size ∧ s.size ≤ 4096) ∨ (1 ≤ s.size ∧ ¬ s.size ≤ 4096) ∨ (¬ 1 ≤ s.size ∧ s.size ≤ 4096) := by omega
  all_goals
    go_enter Tryz.func36, Tryz.ntmps36
    go_wp2_with (go_at_call 35; refine (rAll1_calls _ _ _hs).mono ?_; rintro e w' ⟨rfl, hw⟩; obtain rfl := hw.symm; clear hw)
    go_ret
    exact ⟨ret_bool (by rw [HE.out, ← HSZ.out]; simp [h1, h2]), rfl⟩

set_option maxHeartbeats 400000 in
theorem rIsLang_calls (s : ByteArray) (w : World) (_hs : s.size ≤ maxLen) :
    Calls Tryz.prog 37 #[.string s] w fun e w' => e = .returned (.bool (langL s.data.toList)) ∧ w' = w := by
  unfold maxLen at _hs
  have HE := Lib.hid (langL_eq s.data.toList)
  have hsz : s.size = s.data.toList.length := Lib.size_eq s
  have HSZ := Lib.hid hsz
  clear hsz
  obtain ⟨h1, h2⟩ | ⟨h1, h2⟩ | ⟨h1, h2⟩ : (1 ≤ s.size ∧ s.size ≤ 8) ∨ (1 ≤ s.size ∧ ¬ s.size ≤ 8) ∨ (¬ 1 ≤ s.size ∧ s.size ≤ 8) := by omega
  all_goals
    go_enter Tryz.func37, Tryz.ntmps37
    go_wp2_with (go_at_call 35; refine (rAll4_calls _ _ _hs).mono ?_; rintro e w' ⟨rfl, hw⟩; obtain rfl := hw.symm; clear hw)
    go_ret
    exact ⟨ret_bool (by rw [HE.out, ← HSZ.out]; simp [h1, h2]), rfl⟩

theorem nameL_of (s : ByteArray) (h : 0 < s.size) : nameL s.data.toList = (decide (s.size ≤ 32) && allB wordZ s.data.toList && letterZ (s[0].toNat : Int)) := by
  have e := get_list s 0 h
  have e2 := Lib.size_eq s
  generalize s[0] = c at e
  cases hl : s.data.toList with
  | nil => have e3 : s.size = 0 := by rw [e2, hl]; rfl
           omega
  | cons b r =>
    rw [nameL_eq]
    have hc : b = c := by simpa [hl] using e
    subst hc
    rw [e2, hl, List.length_cons]

theorem letterZ_betw (c : Int) : letterZ c = (betw 97 c 122 || betw 65 c 90) := rfl

set_option maxHeartbeats 400000 in
theorem rIsName_calls (s : ByteArray) (w : World) (_hs : s.size ≤ maxLen) :
    Calls Tryz.prog 38 #[.string s] w fun e w' => e = .returned (.bool (nameL s.data.toList)) ∧ w' = w := by
  unfold maxLen at _hs
  by_cases h1 : 1 ≤ s.size
  · have HE := Lib.hid (nameL_of s h1)
    by_cases h2 : s.size ≤ 32
    · rcases (show allB wordZ s.data.toList = true ∨ allB wordZ s.data.toList = false by cases allB wordZ s.data.toList <;> simp) with hA | hA
      all_goals rcases (show betw 97 (s[0].toNat : Int) 122 = true ∨ betw 97 (s[0].toNat : Int) 122 = false by cases betw 97 (s[0].toNat : Int) 122 <;> simp) with hB | hB
      all_goals rcases (show betw 65 (s[0].toNat : Int) 90 = true ∨ betw 65 (s[0].toNat : Int) 90 = false by cases betw 65 (s[0].toNat : Int) 90 <;> simp) with hC | hC
      all_goals
        go_enter Tryz.func38, Tryz.ntmps38
        go_wp2_with (first | (go_at_call 35; refine (rAll3_calls _ _ _hs).mono ?_; rintro e w' ⟨rfl, hw⟩; obtain rfl := hw.symm; clear hw) | (go_at_call 64; refine (rBetween_calls _ _ _ _).mono ?_; rintro e w' ⟨rfl, hw⟩; obtain rfl := hw.symm; clear hw))
        go_ret
        exact ⟨ret_bool (by rw [HE.out, letterZ_betw]; simp [h2, hA, hB, hC]), rfl⟩
    · go_enter Tryz.func38, Tryz.ntmps38
      go_wp2_with fail
      go_ret
      exact ⟨ret_bool (by rw [HE.out]; simp [h2]), rfl⟩
  · have HE := Lib.hid (show nameL s.data.toList = false by rw [List.eq_nil_of_length_eq_zero (l := s.data.toList) (by rw [← Lib.size_eq]; omega)]; rfl)
    go_enter Tryz.func38, Tryz.ntmps38
    go_wp2_with fail
    go_ret
    exact ⟨ret_bool (by rw [HE.out]), rfl⟩

theorem lit_eq (s : ByteArray) : litL s.data.toList = (decide (s.size ≤ 4096) && allB litZ s.data.toList) := by
  rw [litL_eq, Lib.size_eq]

set_option maxRecDepth 100000 in
set_option maxHeartbeats 2000000 in
theorem rRight_literal (x y z : ByteArray) (w : World) (_hx : x.size ≤ maxLen) (_hy : y.size ≤ maxLen) (_hz : z.size ≤ maxLen) :
    Calls Tryz.prog 12 #[.agg #[.int .i64 2, .string x, .string y, .string z]] w fun e w' => e = .returned (.bool (rightL 2 x.data.toList y.data.toList z.data.toList)) ∧ Below w.heap.size w w' := by
  have HX := Lib.hid (lit_eq x)
  have HY := Lib.hid (Lib.toList_data y)
  have HZ := Lib.hid (Lib.toList_data z)
  have HR := Lib.hid (show rightL 2 x.data.toList y.data.toList z.data.toList = (litL x.data.toList && tagL y.data.toList z.data.toList) from rfl)
  rcases (show y.toList.isEmpty = true ∨ y.toList.isEmpty = false by cases y.toList.isEmpty <;> simp) with hB | hB
  all_goals rcases (show z.toList.isEmpty = true ∨ z.toList.isEmpty = false by cases z.toList.isEmpty <;> simp) with hD | hD
  all_goals rcases (show allB litZ x.data.toList = true ∨ allB litZ x.data.toList = false by cases allB litZ x.data.toList <;> simp) with hA | hA
  all_goals by_cases h4 : x.size ≤ 4096
  all_goals
    go_enter Tryz.func12, Tryz.ntmps12
    go_wp2_with (first | (go_at_call 35; refine (rAll2_calls _ _ _hx).mono ?_; rintro e w' ⟨rfl, hw⟩; subst hw) | (go_at_call 36; refine (rIsIri_calls _ _ _hy).mono ?_; rintro e w' ⟨rfl, hw⟩; subst hw) | (go_at_call 37; refine (rIsLang_calls _ _ _hz).mono ?_; rintro e w' ⟨rfl, hw⟩; subst hw))
    all_goals go_ret
    all_goals exact ⟨ret_bool (by have hB' := hB; have hD' := hD; rw [HY.out] at hB'; rw [HZ.out] at hD'; rw [HR.out, HX.out]; simp [tagL, *]), box_below _ _⟩

set_option maxRecDepth 100000 in
set_option maxHeartbeats 2000000 in
theorem rRight_other (k : Int) (x y z : ByteArray) (w : World) (_hx : x.size ≤ maxLen) (hk : k ≠ 2) :
    Calls Tryz.prog 12 #[.agg #[.int .i64 k, .string x, .string y, .string z]] w fun e w' => e = .returned (.bool (rightL k x.data.toList y.data.toList z.data.toList)) ∧ Below w.heap.size w w' := by
  have HX := Lib.hid (Lib.toList_data x)
  have HY := Lib.hid (Lib.toList_data y)
  have HZ := Lib.hid (Lib.toList_data z)
  have HK := Lib.hid hk
  have g2 : (k == 2) = false := beq_eq_false_iff_ne.2 hk
  clear hk
  rcases (show y.toList.isEmpty = true ∨ y.toList.isEmpty = false by cases y.toList.isEmpty <;> simp) with hB | hB
  all_goals rcases (show z.toList.isEmpty = true ∨ z.toList.isEmpty = false by cases z.toList.isEmpty <;> simp) with hD | hD
  all_goals
    have hB' := hB
    have hD' := hD
    rw [HY.out] at hB'
    rw [HZ.out] at hD'
  · by_cases c0 : k = 0
    · subst c0
      go_enter Tryz.func12, Tryz.ntmps12
      go_wp2
      go_ret
      exact ⟨ret_bool (by rw [HX.out]; simp [rightL, bareL, hB', hD']), box_below _ _⟩
    by_cases c1 : k = 1
    · subst c1
      go_enter Tryz.func12, Tryz.ntmps12
      go_wp2_with (go_at_call 36; refine (rIsIri_calls _ _ _hx).mono ?_; rintro e w' ⟨rfl, hw⟩; subst hw)
      go_ret
      exact ⟨ret_bool (by simp [rightL, bareL, hB', hD']), box_below _ _⟩
    by_cases c3 : k = 3
    · subst c3
      go_enter Tryz.func12, Tryz.ntmps12
      go_wp2_with (go_at_call 38; refine (rIsName_calls _ _ _hx).mono ?_; rintro e w' ⟨rfl, hw⟩; subst hw)
      go_ret
      exact ⟨ret_bool (by simp [rightL, bareL, hB', hD']), box_below _ _⟩
    by_cases c4 : k = 4
    · subst c4
      go_enter Tryz.func12, Tryz.ntmps12
      go_wp2_with (go_at_call 38; refine (rIsName_calls _ _ _hx).mono ?_; rintro e w' ⟨rfl, hw⟩; subst hw)
      go_ret
      exact ⟨ret_bool (by simp [rightL, bareL, hB', hD']), box_below _ _⟩
    · have g0 : (k == 0) = false := beq_eq_false_iff_ne.2 c0
      have g1 : (k == 1) = false := beq_eq_false_iff_ne.2 c1
      have g3 : (k == 3) = false := beq_eq_false_iff_ne.2 c3
      have g4 : (k == 4) = false := beq_eq_false_iff_ne.2 c4
      have HR := Lib.hid (show rightL k x.data.toList y.data.toList z.data.toList = false by have := HK.out; simp [rightL, c0, c1, c3, c4, this])
      clear c0 c1 c3 c4
      go_enter Tryz.func12, Tryz.ntmps12
      go_wp2
      go_ret
      exact ⟨ret_bool (by rw [HR.out]), box_below _ _⟩
  all_goals
    have HR := Lib.hid (show rightL k x.data.toList y.data.toList z.data.toList = false by
      have := HK.out
      unfold rightL bareL
      rw [hB', hD']
      repeat' split
      all_goals simp_all)
    go_enter Tryz.func12, Tryz.ntmps12
    go_wp2
    go_ret
    exact ⟨ret_bool (by rw [HR.out]), box_below _ _⟩

theorem rRight_calls (k : Int) (x y z : ByteArray) (w : World) (hx : x.size ≤ maxLen) (hy : y.size ≤ maxLen) (hz : z.size ≤ maxLen) :
    Calls Tryz.prog 12 #[.agg #[.int .i64 k, .string x, .string y, .string z]] w fun e w' => e = .returned (.bool (rightL k x.data.toList y.data.toList z.data.toList)) ∧ Below w.heap.size w w' := by
  by_cases h : k = 2
  · subst h; exact rRight_literal x y z w hx hy hz
  · exact rRight_other k x y z w hx h

end Go.Proofs.YtkfemnjblbnclaaGreatDoor
