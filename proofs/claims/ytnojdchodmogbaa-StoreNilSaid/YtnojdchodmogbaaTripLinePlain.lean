/- A line's end is no part of a term: what stands behind a line feed says nothing of the term that a text begins with. No program. -/
import Derived.Test.YtnojdchodmogbaaTripPlain
namespace Go.Proofs.Ytnojdchodmogbaa

theorem hp_one (l r : List UInt8) (c : UInt8) (hc : c ≠ 10) : Lib.hasPrefix (l ++ 10 :: r) [c] = Lib.hasPrefix l [c] := by
  cases l with
  | nil => simp [Lib.hasPrefix, List.isPrefixOf, hc]
  | cons a t => simp [Lib.hasPrefix, List.isPrefixOf]
theorem hp_two (l r : List UInt8) (c d : UInt8) (hc : c ≠ 10) (hd : d ≠ 10) : Lib.hasPrefix (l ++ 10 :: r) [c, d] = Lib.hasPrefix l [c, d] := by
  match l with
  | [] => simp [Lib.hasPrefix, List.isPrefixOf, hc]
  | [a] => simp [Lib.hasPrefix, List.isPrefixOf, hd]
  | a :: b :: t => simp [Lib.hasPrefix, List.isPrefixOf]

theorem lead_end (p : Nat → Int → Bool) (hp : ∀ k, p k 10 = false) (r : List UInt8) : ∀ (l : List UInt8) (k : Nat), lead p k (l ++ 10 :: r) = lead p k l
  | [], k => by
    show (if p k ((10 : UInt8).toNat : Int) = true then _ else 0) = 0
    rw [show ((10 : UInt8).toNat : Int) = 10 from rfl, hp k]; rfl
  | b :: t, k => by
    show (if p k (b.toNat : Int) = true then lead p (k + 1) (t ++ 10 :: r) + 1 else 0) = (if p k (b.toNat : Int) = true then lead p (k + 1) t + 1 else 0)
    rw [lead_end p hp r t (k + 1)]
theorem iriLead_end (l r : List UInt8) : iriLead (l ++ 10 :: r) = iriLead l := lead_end _ (fun k => by simp [iriZ]) r l 0
theorem nameLead_end (l r : List UInt8) : nameLead (l ++ 10 :: r) = nameLead l := lead_end _ (fun k => by simp [nameZ, letterZ, smallZ, bigZ, digitZ]) r l 0
theorem langLead_end (l r : List UInt8) : langLead (l ++ 10 :: r) = langLead l := lead_end _ (fun k => by simp [smallZ]) r l 0
theorem iriLead_le (l : List UInt8) : iriLead l ≤ l.length := lead_le _ _ _
theorem nameLead_le (l : List UInt8) : nameLead l ≤ l.length := lead_le _ _ _
theorem langLead_le (l : List UInt8) : langLead l ≤ l.length := lead_le _ _ _

theorem hp_cons1 (l : List UInt8) (c : UInt8) (h : Lib.hasPrefix l [c] = true) : ∃ t, l = c :: t := by
  match l with
  | [] => simp [Lib.hasPrefix, List.isPrefixOf] at h
  | a :: t => simp [Lib.hasPrefix, List.isPrefixOf] at h; exact ⟨t, by rw [h]⟩
theorem hp_cons2 (l : List UInt8) (c d : UInt8) (h : Lib.hasPrefix l [c, d] = true) : ∃ t, l = c :: d :: t := by
  match l with
  | [] => simp [Lib.hasPrefix, List.isPrefixOf] at h
  | [a] => simp [Lib.hasPrefix, List.isPrefixOf] at h
  | a :: b :: t => simp [Lib.hasPrefix, List.isPrefixOf] at h; exact ⟨t, by rw [h.1, h.2]⟩

theorem bracketS_end (l r : List UInt8) : bracketS (l ++ 10 :: r) = bracketS l := by
  unfold bracketS
  rw [hp_one l r 60 (by decide)]
  by_cases h : Lib.hasPrefix l [60] = true
  · rw [if_pos h, if_pos h]
    obtain ⟨t, rfl⟩ := hp_cons1 l 60 h
    have e : iriLead t ≤ t.length := iriLead_le t
    simp only [List.cons_append, List.drop_succ_cons, List.drop_zero, iriLead_end]
    rw [List.drop_append_of_le_length e, hp_one _ r 62 (by decide), List.take_append_of_le_length e]
  · rw [if_neg h, if_neg h]

theorem typeS_end (l r : List UInt8) (h : 2 ≤ l.length) : typeS (l ++ 10 :: r) = typeS l := by
  unfold typeS
  rw [List.drop_append_of_le_length h, bracketS_end]
theorem langS_end (l r : List UInt8) (h : 1 ≤ l.length) : langS (l ++ 10 :: r) = langS l := by
  have e := langLead_le (l.drop 1)
  unfold langS
  rw [List.drop_append_of_le_length h, langLead_end, List.take_append_of_le_length e]
theorem tagS_end (l r : List UInt8) : tagS (l ++ 10 :: r) = tagS l := by
  unfold tagS
  rw [hp_two l r 94 94 (by decide) (by decide), hp_one l r 64 (by decide)]
  by_cases h : Lib.hasPrefix l [94, 94] = true
  · obtain ⟨t, rfl⟩ := hp_cons2 l 94 94 h
    rw [if_pos h, if_pos h, typeS_end _ r (by simp)]
  · rw [if_neg h, if_neg h]
    by_cases h2 : Lib.hasPrefix l [64] = true
    · obtain ⟨t, rfl⟩ := hp_cons1 l 64 h2
      rw [if_pos h2, if_pos h2, langS_end _ r (by simp)]
    · rw [if_neg h2, if_neg h2]

theorem unq_end10 (r : List UInt8) : ∀ (l t : List UInt8) (o : Bool) (i : Nat), unq (l ++ 10 :: r) t o i = unq l t o i := by
  intro l
  induction l with
  | nil =>
    intro t o i
    cases o with
    | true => simp [unq, escB]
    | false => simp [unq]
  | cons b l ih =>
    intro t o i
    cases o with
    | true => rw [List.cons_append]; simp only [unq, ih]
    | false => rw [List.cons_append, unq_cons, unq_cons, ih, ih]
theorem unquoteS_end (l r : List UInt8) (h : 1 ≤ l.length) : unquoteS (l ++ 10 :: r) = unquoteS l := by
  unfold unquoteS
  rw [List.drop_append_of_le_length h, unq_end10]
theorem unquoteS_length (l : List UInt8) (h : 1 ≤ l.length) : (unquoteS l).2 ≤ l.length := by
  have := unq_le (l.drop 1) [] false 0
  rw [List.length_drop] at this
  show (unq (l.drop 1) [] false 0).2 ≤ _
  omega
theorem literalS_end (l r : List UInt8) (h : 1 ≤ l.length) : literalS (l ++ 10 :: r) = literalS l := by
  have e := unquoteS_length l h
  unfold literalS
  rw [unquoteS_end l r h, List.drop_append_of_le_length e, tagS_end]
theorem namedS_end (k : Int) (l r : List UInt8) (n : Nat) (h : n ≤ l.length) : namedS k (l ++ 10 :: r) n = namedS k l n := by
  have e := nameLead_le (l.drop n)
  unfold namedS
  rw [List.drop_append_of_le_length h, nameLead_end, List.take_append_of_le_length e]
theorem iriS_end (l r : List UInt8) : iriS (l ++ 10 :: r) = iriS l := by unfold iriS; rw [bracketS_end]

theorem prefixS_end (l r : List UInt8) : prefixS (l ++ 10 :: r) = prefixS l := by
  unfold prefixS
  rw [hp_one l r 60 (by decide), hp_two l r 95 58 (by decide) (by decide), hp_one l r 63 (by decide), hp_one l r 34 (by decide), iriS_end]
  by_cases h1 : Lib.hasPrefix l [60] = true
  · rw [if_pos h1, if_pos h1]
  · rw [if_neg h1, if_neg h1]
    by_cases h2 : Lib.hasPrefix l [95, 58] = true
    · obtain ⟨t, rfl⟩ := hp_cons2 l 95 58 h2
      rw [if_pos h2, if_pos h2, namedS_end _ _ _ _ (by simp)]
    · rw [if_neg h2, if_neg h2]
      by_cases h3 : Lib.hasPrefix l [63] = true
      · obtain ⟨t, rfl⟩ := hp_cons1 l 63 h3
        rw [if_pos h3, if_pos h3, namedS_end _ _ _ _ (by simp)]
      · rw [if_neg h3, if_neg h3]
        by_cases h4 : Lib.hasPrefix l [34] = true
        · obtain ⟨t, rfl⟩ := hp_cons1 l 34 h4
          rw [if_pos h4, if_pos h4, literalS_end _ _ (by simp)]
        · rw [if_neg h4, if_neg h4]

/- how long a term's text is -/
theorem bracketS_length (l : List UInt8) : (bracketS l).2 ≤ l.length := by
  unfold bracketS
  split
  · rename_i h
    obtain ⟨t, rfl⟩ := hp_cons1 l 60 h
    split
    · exact Nat.zero_le _
    · rename_i h2
      have h3 := fun c => h2 (.inr c)
      simp only [List.drop_succ_cons, List.drop_zero] at h3
      obtain ⟨u, hu⟩ := hp_cons1 _ 62 (by simpa using h3)
      have := congrArg List.length hu
      simp at this
      simp only [List.drop_succ_cons, List.drop_zero, List.length_cons]
      omega
  · exact Nat.zero_le _
theorem tagS_length (l : List UInt8) : (tagS l).2.2 ≤ l.length := by
  unfold tagS
  split
  · rename_i h
    obtain ⟨t, rfl⟩ := hp_cons2 l 94 94 h
    have := bracketS_length t
    unfold typeS
    simp only [List.drop_succ_cons, List.drop_zero, List.length_cons]
    split <;> dsimp only <;> omega
  · split
    · rename_i h
      obtain ⟨t, rfl⟩ := hp_cons1 l 64 h
      have := langLead_le t
      unfold langS
      simp only [List.drop_succ_cons, List.drop_zero, List.length_cons]
      split <;> dsimp only <;> omega
    · exact Nat.zero_le _
theorem prefixS_length (l : List UInt8) : (prefixS l).2 ≤ l.length := by
  unfold prefixS
  split
  · have := bracketS_length l
    unfold iriS
    split
    · exact Nat.zero_le _
    · exact this
  · split
    · rename_i h
      obtain ⟨t, rfl⟩ := hp_cons2 l 95 58 h
      have := nameLead_le t
      unfold namedS
      simp only [List.drop_succ_cons, List.drop_zero, List.length_cons]
      split <;> dsimp only <;> omega
    · split
      · rename_i h
        obtain ⟨t, rfl⟩ := hp_cons1 l 63 h
        have := nameLead_le t
        unfold namedS
        simp only [List.drop_succ_cons, List.drop_zero, List.length_cons]
        split <;> dsimp only <;> omega
      · split
        · rename_i h
          obtain ⟨t, rfl⟩ := hp_cons1 l 34 h
          have h1 := unquoteS_length (34 :: t) (by simp)
          have h2 := tagS_length ((34 :: t).drop (unquoteS (34 :: t)).2)
          rw [List.length_drop] at h2
          unfold literalS
          split <;> dsimp only <;> omega
        · exact Nat.zero_le _

end Go.Proofs.Ytnojdchodmogbaa
