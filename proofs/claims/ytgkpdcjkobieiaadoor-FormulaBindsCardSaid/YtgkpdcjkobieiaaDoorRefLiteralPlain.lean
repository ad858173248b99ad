/- The document's way to a literal's text (the closing double quote first, then its escapes) and package term's (byte by byte) come to the same (no program). -/
import Derived.Test.YtgkpdcjkobieiaaDoorRefUnescaped
namespace Go.Proofs.YtgkpdcjkobieiaaDoor

/- where the closing double quote is, counted from the list's beginning -/
def closeIdx : List UInt8 → Option Nat
  | [] => none
  | [c] => if c = 92 then none else if c = 34 then some 0 else none
  | c :: d :: r => if c = 92 then (closeIdx r).map (· + 2) else if c = 34 then some 0 else (closeIdx (d :: r)).map (· + 1)

theorem closeFrom_idx : ∀ (l : List UInt8) (k : Nat), closeFrom l k = match closeIdx l with | none => -1 | some m => ((k + m : Nat) : Int)
  | [], _ => rfl
  | [c], k => by
    by_cases h1 : c = 92
    · simp [closeFrom, closeIdx, h1]
    · by_cases h2 : c = 34 <;> simp [closeFrom, closeIdx, h1, h2]
  | c :: d :: r, k => by
    have i1 := closeFrom_idx r (k + 2)
    have i2 := closeFrom_idx (d :: r) (k + 1)
    by_cases h1 : c = 92
    · rw [closeFrom, closeIdx, if_pos h1, if_pos h1, i1]
      cases closeIdx r with
      | none => rfl
      | some m => simp only [Option.map_some]; rw [show k + 2 + m = k + (m + 2) by omega]
    · by_cases h2 : c = 34
      · simp [closeFrom, closeIdx, h2]
      · rw [closeFrom, closeIdx, if_neg h1, if_neg h1, if_neg h2, if_neg h2, i2]
        cases closeIdx (d :: r) with
        | none => rfl
        | some m => simp only [Option.map_some]; rw [show k + 1 + m = k + (m + 1) by omega]

theorem unesc_grows : ∀ (l t : List UInt8), (unesc l t).2 = true → ∃ s, (unesc l t).1 = t ++ s
  | [], t => fun _ => ⟨[], by simp [unesc]⟩
  | [c], t => by
    by_cases h1 : c = 92
    · simp [unesc, h1]
    · by_cases h2 : c = 34 ∨ c = 10 ∨ c = 9
      · simp [unesc, h1, h2]
      · intro _; exact ⟨[c], by simp [unesc, h1, h2]⟩
  | c :: d :: r, t => by
    by_cases h1 : c = 92
    · cases he : escB d with
      | none => simp [unesc, h1, he]
      | some e =>
        have ih := unesc_grows r (t ++ [e])
        rw [unesc, if_pos h1, he]
        intro h
        obtain ⟨s, hs⟩ := ih h
        exact ⟨e :: s, by simpa using hs⟩
    · by_cases h2 : c = 34 ∨ c = 10 ∨ c = 9
      · simp [unesc, h1, h2]
      · have ih := unesc_grows (d :: r) (t ++ [c])
        rw [unesc_plain _ _ _ h1, if_neg h2]
        intro h
        obtain ⟨s, hs⟩ := ih h
        exact ⟨c :: s, by simpa using hs⟩

/- what is made of a literal's text: it must not be too long, and of a literal's bytes -/
def fin (o : List UInt8 × Bool) (n : Nat) : List UInt8 × Nat := if o.2 = true ∧ o.1.length ≤ 4096 ∧ allB litZ o.1 = true then (o.1, n) else ([], 0)

theorem fin_no {o : List UInt8 × Bool} (n : Nat) (h : o.2 = false) : fin o n = ([], 0) := by simp [fin, h]
theorem allB_append (p : Int → Bool) (a b : List UInt8) : allB p (a ++ b) = (allB p a && allB p b) := by simp [allB]
theorem fin_long (l t : List UInt8) (n : Nat) (h : 4096 < t.length) : fin (unesc l t) n = ([], 0) := by
  unfold fin
  split
  · rename_i hh
    obtain ⟨s, hs⟩ := unesc_grows l t hh.1
    rw [hs] at hh
    have := hh.2.1
    simp at this
    omega
  · rfl
theorem fin_notlit (l t : List UInt8) (n : Nat) (h : allB litZ t = false) : fin (unesc l t) n = ([], 0) := by
  unfold fin
  split
  · rename_i hh
    obtain ⟨s, hs⟩ := unesc_grows l t hh.1
    rw [hs, allB_append, h] at hh
    simp at hh
  · rfl

theorem escB_lit {d e : UInt8} (h : escB d = some e) : litZ (e.toNat : Int) = true := by
  unfold escB at h
  by_cases h1 : d = 110
  · simp [h1] at h; subst h; decide
  · by_cases h2 : d = 116
    · simp [h2] at h; subst h; decide
    · by_cases h3 : d = 34
      · simp [h3] at h; subst h; decide
      · by_cases h4 : d = 92
        · simp [h4] at h; subst h; decide
        · simp [h1, h2, h3, h4] at h

theorem allB_one (p : Int → Bool) (c : UInt8) : allB p [c] = p (c.toNat : Int) := by simp [allB]

def finAt (l t : List UInt8) (i : Nat) : List UInt8 × Nat := match closeIdx l with | none => ([], 0) | some m => fin (unesc (l.take m) t) (i + m + 2)

theorem fin_ok (t : List UInt8) (n : Nat) (h1 : t.length ≤ 4096) (h2 : allB litZ t = true) : fin (t, true) n = (t, n) := by simp [fin, h1, h2]

theorem unq_fin : ∀ (l t : List UInt8) (i : Nat), t.length ≤ 4096 → allB litZ t = true → unq l t false i = finAt l t i
  | [], t, i, _, _ => by simp [unq, finAt, closeIdx]
  | [c], t, i, ht, hl => by
    rw [unq_cons]
    unfold finAt
    by_cases h1 : c = 92
    · simp [closeIdx, h1, unq]
    · by_cases h2 : c = 34
      · simp [closeIdx, h2, unesc, fin_ok t _ ht hl]
      · simp [closeIdx, h1, h2, unq]
  | c :: d :: r, t, i, ht, hl => by
    rw [unq_cons]
    unfold finAt
    by_cases h1 : c = 92
    · have h2 : ¬ c = 34 := by subst h1; decide
      rw [if_neg h2, if_pos h1, closeIdx, if_pos h1]
      cases he : escB d with
      | none =>
        rw [unq, he]
        cases closeIdx r with
        | none => rfl
        | some m => simp only [Option.map_some, List.take_succ_cons]; rw [fin_no]; rw [unesc, if_pos h1, he]
      | some e =>
        rw [unq, he]
        have hl' : allB litZ (t ++ [e]) = true := by rw [allB_append, hl, allB_one, escB_lit he]; rfl
        by_cases h4 : 4096 < t.length + 1
        · simp only [h4, if_true]
          cases closeIdx r with
          | none => rfl
          | some m =>
            simp only [Option.map_some, List.take_succ_cons]
            rw [unesc, if_pos h1, he]
            exact (fin_long _ _ _ (by simpa using h4)).symm
        · simp only [h4, if_false]
          rw [unq_fin r (t ++ [e]) (i + 1 + 1) (by simp; omega) hl']
          unfold finAt
          cases closeIdx r with
          | none => rfl
          | some m =>
            simp only [Option.map_some, List.take_succ_cons]
            rw [unesc, if_pos h1, he, show i + 1 + 1 + m + 2 = i + (m + 2) + 2 by omega]
    · by_cases h2 : c = 34
      · rw [if_pos h2, closeIdx, if_neg h1, if_pos h2]
        simp [unesc, fin_ok t _ ht hl]
      · rw [if_neg h2, if_neg h1, closeIdx, if_neg h1, if_neg h2]
        by_cases hb : c < 32 ∨ litZ (c.toNat : Int) = false
        · rw [if_pos hb]
          cases closeIdx (d :: r) with
          | none => rfl
          | some m =>
            simp only [Option.map_some, List.take_succ_cons]
            rw [unesc_plain _ _ _ h1]
            by_cases h3 : c = 34 ∨ c = 10 ∨ c = 9
            · rw [if_pos h3, fin_no]; rfl
            · rw [if_neg h3]
              have hlit : litZ (c.toNat : Int) = false := by
                rcases hb with hb | hb
                · rw [u8_lt32] at hb
                  have n1 : ¬ (c.toNat : Int) = 10 := fun e => h3 (.inr (.inl ((u8_of (n := 10) (by omega)).1 e)))
                  have n2 : ¬ (c.toNat : Int) = 9 := fun e => h3 (.inr (.inr ((u8_of (n := 9) (by omega)).1 e)))
                  simp [litZ]; omega
                · exact hb
              exact (fin_notlit _ _ _ (by rw [allB_append, allB_one, hlit]; simp)).symm
        · rw [if_neg hb]
          have hlit : litZ (c.toNat : Int) = true := by
            cases e : litZ (c.toNat : Int) with
            | true => rfl
            | false => exact absurd (.inr e) hb
          have h3 : ¬ (c = 34 ∨ c = 10 ∨ c = 9) := by
            rintro (e | e | e)
            · exact h2 e
            · subst e; exact hb (.inl (by decide))
            · subst e; exact hb (.inl (by decide))
          by_cases h4 : 4096 < t.length + 1
          · rw [if_pos h4]
            cases closeIdx (d :: r) with
            | none => rfl
            | some m =>
              simp only [Option.map_some, List.take_succ_cons]
              rw [unesc_plain _ _ _ h1, if_neg h3]
              exact (fin_long _ _ _ (by simpa using h4)).symm
          · rw [if_neg h4, unq_fin (d :: r) (t ++ [c]) (i + 1) (by simp; omega) (by rw [allB_append, hl, allB_one, hlit]; rfl)]
            unfold finAt
            cases closeIdx (d :: r) with
            | none => rfl
            | some m =>
              simp only [Option.map_some, List.take_succ_cons]
              rw [unesc_plain _ _ _ h1, if_neg h3, show i + 1 + m + 2 = i + (m + 1) + 2 by omega]

end Go.Proofs.YtgkpdcjkobieiaaDoor
