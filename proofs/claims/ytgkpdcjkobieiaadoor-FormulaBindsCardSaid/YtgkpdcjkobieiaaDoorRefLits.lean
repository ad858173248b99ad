/- The document's way to a literal's text (the closing double quote first, then its escapes) and package term's (byte by byte) come to the same (no program). The document's way to an IRI in brackets, a type and a language, in plain words, and package term's: the same (no program). -/
import Derived.Test.YtgkpdcjkobieiaaDoorRefUnescaped
namespace Go.Proofs.YtgkpdcjkobieiaaDoor

/- where the closing double quote is, counted from the list's beginning -/
def closeIdx : List UInt8 → Option Nat
  | [] => none
  | [c] => if c = 92 then none else if c = 34 then some 0 else none
  | c :: d :: r => if c = 92 then (closeIdx r).map (· + 2) else if c = 34 then some 0 else (closeIdx (d :: r)).map (· + 1)

theorem closeFrom_idx : ∀ (l : List UInt8) (k : Nat), closeFrom l k = match closeIdx l with | none => -1 | some m => ((k + m : Nat) : Int)
  | [], _ => rfl
  | [c], k => by
    by_cases h1 : c = 92
    · simp [closeFrom, closeIdx, h1]
    · by_cases h2 : c = 34 <;> simp [closeFrom, closeIdx, h1, h2]
  | c :: d :: r, k => by
    have i1 := closeFrom_idx r (k + 2)
    have i2 := closeFrom_idx (d :: r) (k + 1)
    by_cases h1 : c = 92
    · rw [closeFrom, closeIdx, if_pos h1, if_pos h1, i1]
      cases closeIdx r with
      | none => rfl
      | some m => simp only [Option.map_some]; rw [show k + 2 + m = k + (m + 2) by omega]
    · by_cases h2 : c = 34
      · simp [closeFrom, closeIdx, h2]
      · rw [closeFrom, closeIdx, if_neg h1, if_neg h1, if_neg h2, if_neg h2, i2]
        cases closeIdx (d :: r) with
        | none => rfl
        | some m => simp only [Option.map_some]; rw [show k + 1 + m = k + (m + 1) by omega]

theorem unesc_grows : ∀ (l t : List UInt8), (unesc l t).2 = true → ∃ s, (unesc l t).1 = t ++ s
  | [], t => fun _ => ⟨[], by simp [unesc]⟩
  | [c], t => by
    by_cases h1 : c = 92
    · simp [unesc, h1]
    · by_cases h2 : c = 34 ∨ c = 10 ∨ c = 9
      · simp [unesc, h1, h2]
      · intro _; exact ⟨[c], by simp [unesc, h1, h2]⟩
  | c :: d :: r, t => by
    by_cases h1 : c = 92
    · cases he : escB d with
      | none => simp [unesc, h1, he]
      | some e =>
        have ih := unesc_grows r (t ++ [e])
        rw [unesc, if_pos h1, he]
        intro h
        obtain ⟨s, hs⟩ := ih h
        exact ⟨e :: s, by simpa using hs⟩
    · by_cases h2 : c = 34 ∨ c = 10 ∨ c = 9
      · simp [unesc, h1, h2]
      · have ih := unesc_grows (d :: r) (t ++ [c])
        rw [unesc_plain _ _ _ h1, if_neg h2]
        intro h
        obtain ⟨s, hs⟩ := ih h
        exact ⟨c :: s, by simpa using hs⟩

/- what is made of a literal's text: it must not be too long, and of a literal's bytes -/
def fin (o : List UInt8 × Bool) (n : Nat) : List UInt8 × Nat := if o.2 = true ∧ o.1.length ≤ 4096 ∧ allB litZ o.1 = true then (o.1, n) else ([], 0)

theorem fin_no {o : List UInt8 × Bool} (n : Nat) (h : o.2 = false) : fin o n = ([], 0) := by simp [fin, h]
theorem allB_append (p : Int → Bool) (a b : List UInt8) : allB p (a ++ b) = (allB p a && allB p b) := by simp [allB]
theorem fin_long (l t : List UInt8) (n : Nat) (h : 4096 < t.length) : fin (unesc l t) n = ([], 0) := by
  unfold fin
  split
  · rename_i hh
    obtain ⟨s, hs⟩ := unesc_grows l t hh.1
    rw [hs] at hh
    have := hh.2.1
    simp at this
    omega
  · rfl
theorem fin_notlit (l t : List UInt8) (n : Nat) (h : allB litZ t = false) : fin (unesc l t) n = ([], 0) := by
  unfold fin
  split
  · rename_i hh
    obtain ⟨s, hs⟩ := unesc_grows l t hh.1
    rw [hs, allB_append, h] at hh
    simp at hh
  · rfl

theorem escB_lit {d e : UInt8} (h : escB d = some e) : litZ (e.toNat : Int) = true := by
  unfold escB at h
  by_cases h1 : d = 110
  · simp [h1] at h; subst h; decide
  · by_cases h2 : d = 116
    · simp [h2] at h; subst h; decide
    · by_cases h3 : d = 34
      · simp [h3] at h; subst h; decide
      · by_cases h4 : d = 92
        · simp [h4] at h; subst h; decide
        · simp [h1, h2, h3, h4] at h

theorem allB_one (p : Int → Bool) (c : UInt8) : allB p [c] = p (c.toNat : Int) := by simp [allB]

def finAt (l t : List UInt8) (i : Nat) : List UInt8 × Nat := match closeIdx l with | none => ([], 0) | some m => fin (unesc (l.take m) t) (i + m + 2)

theorem fin_ok (t : List UInt8) (n : Nat) (h1 : t.length ≤ 4096) (h2 : allB litZ t = true) : fin (t, true) n = (t, n) := by simp [fin, h1, h2]

theorem unq_fin : ∀ (l t : List UInt8) (i : Nat), t.length ≤ 4096 → allB litZ t = true → unq l t false i = finAt l t i
  | [], t, i, _, _ => by simp [unq, finAt, closeIdx]
  | [c], t, i, ht, hl => by
    rw [unq_cons]
    unfold finAt
    by_cases h1 : c = 92
    · simp [closeIdx, h1, unq]
    · by_cases h2 : c = 34
      · simp [closeIdx, h2, unesc, fin_ok t _ ht hl]
      · simp [closeIdx, h1, h2, unq]
  | c :: d :: r, t, i, ht, hl => by
    rw [unq_cons]
    unfold finAt
    by_cases h1 : c = 92
    · have h2 : ¬ c = 34 := by subst h1; decide
      rw [if_neg h2, if_pos h1, closeIdx, if_pos h1]
      cases he : escB d with
      | none =>
        rw [unq, he]
        cases closeIdx r with
        | none => rfl
        | some m => simp only [Option.map_some, List.take_succ_cons]; rw [fin_no]; rw [unesc, if_pos h1, he]
      | some e =>
        rw [unq, he]
        have hl' : allB litZ (t ++ [e]) = true := by rw [allB_append, hl, allB_one, escB_lit he]; rfl
        by_cases h4 : 4096 < t.length + 1
        · simp only [h4, if_true]
          cases closeIdx r with
          | none => rfl
          | some m =>
            simp only [Option.map_some, List.take_succ_cons]
            rw [unesc, if_pos h1, he]
            exact (fin_long _ _ _ (by simpa using h4)).symm
        · simp only [h4, if_false]
          rw [unq_fin r (t ++ [e]) (i + 1 + 1) (by simp; omega) hl']
          unfold finAt
          cases closeIdx r with
          | none => rfl
          | some m =>
            simp only [Option.map_some, List.take_succ_cons]
            rw [unesc, if_pos h1, he, show i + 1 + 1 + m + 2 = i + (m + 2) + 2 by omega]
    · by_cases h2 : c = 34
      · rw [if_pos h2, closeIdx, if_neg h1, if_pos h2]
        simp [unesc, fin_ok t _ ht hl]
      · rw [if_neg h2, if_neg h1, closeIdx, if_neg h1, if_neg h2]
        by_cases hb : c < 32 ∨ litZ (c.toNat : Int) = false
        · rw [if_pos hb]
          cases closeIdx (d :: r) with
          | none => rfl
          | some m =>
            simp only [Option.map_some, List.take_succ_cons]
            rw [unesc_plain _ _ _ h1]
            by_cases h3 : c = 34 ∨ c = 10 ∨ c = 9
            · rw [if_pos h3, fin_no]; rfl
            · rw [if_neg h3]
              have hlit : litZ (c.toNat : Int) = false := by
                rcases hb with hb | hb
                · rw [u8_lt32] at hb
                  have n1 : ¬ (c.toNat : Int) = 10 := fun e => h3 (.inr (.inl ((u8_of (n := 10) (by omega)).1 e)))
                  have n2 : ¬ (c.toNat : Int) = 9 := fun e => h3 (.inr (.inr ((u8_of (n := 9) (by omega)).1 e)))
                  simp [litZ]; omega
                · exact hb
              exact (fin_notlit _ _ _ (by rw [allB_append, allB_one, hlit]; simp)).symm
        · rw [if_neg hb]
          have hlit : litZ (c.toNat : Int) = true := by
            cases e : litZ (c.toNat : Int) with
            | true => rfl
            | false => exact absurd (.inr e) hb
          have h3 : ¬ (c = 34 ∨ c = 10 ∨ c = 9) := by
            rintro (e | e | e)
            · exact h2 e
            · subst e; exact hb (.inl (by decide))
            · subst e; exact hb (.inl (by decide))
          by_cases h4 : 4096 < t.length + 1
          · rw [if_pos h4]
            cases closeIdx (d :: r) with
            | none => rfl
            | some m =>
              simp only [Option.map_some, List.take_succ_cons]
              rw [unesc_plain _ _ _ h1, if_neg h3]
              exact (fin_long _ _ _ (by simpa using h4)).symm
          · rw [if_neg h4, unq_fin (d :: r) (t ++ [c]) (i + 1) (by simp; omega) (by rw [allB_append, hl, allB_one, hlit]; rfl)]
            unfold finAt
            cases closeIdx (d :: r) with
            | none => rfl
            | some m =>
              simp only [Option.map_some, List.take_succ_cons]
              rw [unesc_plain _ _ _ h1, if_neg h3, show i + 1 + m + 2 = i + (m + 1) + 2 by omega]

end Go.Proofs.YtgkpdcjkobieiaaDoor

namespace Go.Proofs.YtgkpdcjkobieiaaDoor

theorem has_one (l : List UInt8) (k : Nat) (b : UInt8) : Lib.hasPrefix (l.drop k) [b] = true ↔ ∃ h : k < l.length, l[k] = b := by
  by_cases h : k < l.length
  · rw [List.drop_eq_getElem_cons h]
    show (b == l[k] && true) = true ↔ _
    simp only [Bool.and_true, beq_iff_eq]
    exact ⟨fun e => ⟨h, e.symm⟩, fun ⟨_, e⟩ => e.symm⟩
  · rw [List.drop_eq_nil_of_le (by omega)]
    simp [Lib.hasPrefix, h]

theorem place_spec (b : Int) : ∀ (r : List UInt8) (k : Nat), (placeFrom b r k = -1 ∧ ∀ i (h : i < r.length), (r[i].toNat : Int) ≠ b) ∨ (∃ n, ∃ h : n < r.length, placeFrom b r k = ((k + n : Nat) : Int) ∧ (r[n].toNat : Int) = b ∧ ∀ i (g : i < n), (r[i].toNat : Int) ≠ b)
  | [], k => .inl ⟨rfl, fun i h => by simp at h⟩
  | c :: r, k => by
    by_cases hc : (c.toNat : Int) = b
    · exact .inr ⟨0, by simp, by simp [placeFrom, hc], hc, fun i g => by omega⟩
    · rcases place_spec b r (k + 1) with ⟨h1, h2⟩ | ⟨n, hn, h1, h2, h3⟩
      · refine .inl ⟨by rw [placeFrom, if_neg hc, h1], fun i h => ?_⟩
        cases i with
        | zero => exact hc
        | succ i => exact h2 i (by simpa using h)
      · refine .inr ⟨n + 1, by simpa using hn, by rw [placeFrom, if_neg hc, h1]; congr 1; omega, h2, fun i g => ?_⟩
        cases i with
        | zero => exact hc
        | succ i => exact h3 i (by omega)

theorem lead_before (p : Nat → Int → Bool) : ∀ (k : Nat) (l : List UInt8) (i : Nat) (_h : i < lead p k l) (g : i < l.length), p (k + i) (l[i].toNat : Int) = true
  | _, [], i, h, _ => by simp [lead] at h
  | k, b :: r, i, h, g => by
    rw [lead] at h
    split at h
    · rename_i hb
      cases i with
      | zero => exact hb
      | succ i =>
        have := lead_before p (k + 1) r i (by omega) (by simpa using g)
        rw [show k + (i + 1) = k + 1 + i by omega]; exact this
    · omega
theorem lead_at (p : Nat → Int → Bool) : ∀ (k : Nat) (l : List UInt8) (g : lead p k l < l.length), p (k + lead p k l) (l[lead p k l].toNat : Int) = false
  | _, [], g => by simp at g
  | k, b :: r, g => by
    cases hb : p k (b.toNat : Int) with
    | false =>
      have e : lead p k (b :: r) = 0 := by simp [lead, hb]
      simp only [e, Nat.add_zero, List.getElem_cons_zero]; exact hb
    | true =>
      have e : lead p k (b :: r) = lead p (k + 1) r + 1 := by simp [lead, hb]
      have g' : lead p (k + 1) r < r.length := by rw [e] at g; simpa using g
      have := lead_at p (k + 1) r g'
      simp only [e, List.getElem_cons_succ, show k + (lead p (k + 1) r + 1) = k + 1 + lead p (k + 1) r by omega]
      exact this

theorem iri_not62 (i : Nat) (r : List UInt8) (h : i < iriLead r) (g : i < r.length) : (r[i].toNat : Int) ≠ 62 := by
  have := lead_before _ 0 r i h g
  intro e
  rw [e] at this
  simp [iriZ, markZ] at this

theorem iriL_take (r : List UInt8) (n : Nat) (hn : n ≤ r.length) : iriL (r.take n) = true ↔ 0 < n ∧ n ≤ iriLead r := by
  unfold iriL
  have e : iriLead (r.take n) = min n (iriLead r) := lead_take _ 0 n r
  rw [e, List.length_take]
  cases n with
  | zero => simp
  | succ n =>
    have hne : (r.take (n + 1)).isEmpty = false := by
      cases r with
      | nil => simp at hn
      | cons b r => rfl
    rw [hne]; simp; omega

theorem bracket_ref (r : List UInt8) : bracketS (60 :: r) = if 0 < placeFrom 62 r 1 ∧ iriL (r.take ((placeFrom 62 r 1).toNat - 1)) = true then (r.take ((placeFrom 62 r 1).toNat - 1), (placeFrom 62 r 1).toNat + 1) else ([], 0) := by
  have hpre : Lib.hasPrefix (60 :: r) [60] = true := by simp [Lib.hasPrefix]
  unfold bracketS
  rw [if_pos hpre, show (60 :: r).drop 1 = r from rfl, show (60 :: r).drop (iriLead r + 1) = r.drop (iriLead r) from rfl]
  have hh := has_one r (iriLead r) 62
  rcases place_spec 62 r 1 with ⟨h1, h2⟩ | ⟨n, hn, h1, h2, h3⟩
  · rw [h1, if_neg (show ¬ (0 < (-1 : Int) ∧ _) from fun c => by omega), if_pos]
    right
    cases e : Lib.hasPrefix (r.drop (iriLead r)) [62] with
    | false => rfl
    | true => obtain ⟨g, hg⟩ := hh.1 e; exact absurd (by rw [hg]; rfl) (h2 _ g)
  · have ht : (((1 + n : Nat) : Int)).toNat - 1 = n := by omega
    rw [h1, ht]
    have hm : r[n] = 62 := (u8_of (n := 62) (by omega)).1 h2
    have hle : iriLead r ≤ n := by
      apply Nat.le_of_not_lt
      intro g
      exact iri_not62 n r g hn h2
    by_cases hi : iriL (r.take n) = true
    · obtain ⟨hpos, hge⟩ := (iriL_take r n (by omega)).1 hi
      have hj : iriLead r = n := by omega
      rw [if_pos (show (0 : Int) < ((1 + n : Nat) : Int) ∧ _ from ⟨by omega, hi⟩), hj, if_neg]
      · congr 1; omega
      · rintro (c | c)
        · omega
        · rw [hj] at hh; rw [hh.2 ⟨hn, hm⟩] at c; cases c
    · rw [if_neg (show ¬ ((0 : Int) < ((1 + n : Nat) : Int) ∧ iriL (r.take n) = true) from fun c => hi c.2), if_pos]
      by_cases hj : iriLead r = 0
      · exact .inl hj
      · right
        cases e : Lib.hasPrefix (r.drop (iriLead r)) [62] with
        | false => rfl
        | true =>
          exfalso
          obtain ⟨g, hg⟩ := hh.1 e
          have hnj : n = iriLead r := by
            rcases Nat.lt_or_ge (iriLead r) n with c | c
            · exact absurd (by rw [hg]; rfl) (h3 _ c)
            · omega
          exact hi ((iriL_take r n (by omega)).2 ⟨by omega, by omega⟩)

theorem langLead_min (r : List UInt8) : ∀ k, k ≤ 9 → lead (fun k c => decide (k ≤ 8) && smallZ c) k r = min (9 - k) (lead (fun _ c => smallZ c) 0 r) := by
  induction r with
  | nil => intro k _; simp [lead]
  | cons b r ih =>
    intro k hk
    have sh : ∀ (j : Nat) (l : List UInt8), lead (fun _ c => smallZ c) j l = lead (fun _ c => smallZ c) 0 l := by
      intro j l
      induction l generalizing j with
      | nil => rfl
      | cons c l il => rw [lead, lead, il (j + 1), il (0 + 1)]
    rw [lead, lead, sh (0 + 1)]
    by_cases h8 : k ≤ 8
    · rw [ih (k + 1) (by omega)]
      cases smallZ (b.toNat : Int) with
      | true => simp [h8]; omega
      | false => simp
    · simp [h8]; omega

theorem lang_ref (r : List UInt8) : (if langL (r.take (lead (fun _ c => smallZ c) 0 r)) = true then (r.take (lead (fun _ c => smallZ c) 0 r), lead (fun _ c => smallZ c) 0 r + 1) else ([], 0)) = if langLead r = 0 ∨ 8 < langLead r then ([], 0) else (r.take (langLead r), langLead r + 1) := by
  have e : langLead r = min 9 (lead (fun _ c => smallZ c) 0 r) := by unfold langLead; rw [langLead_min r 0 (by omega)]
  have hle : lead (fun _ c => smallZ c) 0 r ≤ r.length := lead_le _ _ _
  have e2 : langLead (r.take (lead (fun _ c => smallZ c) 0 r)) = min (lead (fun _ c => smallZ c) 0 r) (langLead r) := lead_take _ 0 _ r
  have hl : langL (r.take (lead (fun _ c => smallZ c) 0 r)) = true ↔ 1 ≤ lead (fun _ c => smallZ c) 0 r ∧ lead (fun _ c => smallZ c) 0 r ≤ 8 := by
    unfold langL
    rw [e2, List.length_take]
    cases hr : r with
    | nil => simp [lead]
    | cons b l =>
      rw [← hr]
      generalize lead (fun _ c => smallZ c) 0 r = n at *
      cases n with
      | zero => simp
      | succ n =>
        have hne : (r.take (n + 1)).isEmpty = false := by rw [hr]; rfl
        rw [hne]; simp; omega
  by_cases h : 1 ≤ lead (fun _ c => smallZ c) 0 r ∧ lead (fun _ c => smallZ c) 0 r ≤ 8
  · rw [if_pos (hl.2 h), if_neg (by omega), show langLead r = lead (fun _ c => smallZ c) 0 r by omega]
  · rw [if_neg (fun c => h (hl.1 c)), if_pos (by omega)]

end Go.Proofs.YtgkpdcjkobieiaaDoor
