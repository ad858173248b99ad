/- The document's way to an IRI in brackets, a type and a language, in plain words, and package term's: the same (no program). -/
import Derived.Test.YtgkpdcjkobieiaaDoorRefLiteralPlain
namespace Go.Proofs.YtgkpdcjkobieiaaDoor

theorem has_one (l : List UInt8) (k : Nat) (b : UInt8) : Lib.hasPrefix (l.drop k) [b] = true ↔ ∃ h : k < l.length, l[k] = b := by
  by_cases h : k < l.length
  · rw [List.drop_eq_getElem_cons h]
    show (b == l[k] && true) = true ↔ _
    simp only [Bool.and_true, beq_iff_eq]
    exact ⟨fun e => ⟨h, e.symm⟩, fun ⟨_, e⟩ => e.symm⟩
  · rw [List.drop_eq_nil_of_le (by omega)]
    simp [Lib.hasPrefix, h]

theorem place_spec (b : Int) : ∀ (r : List UInt8) (k : Nat), (placeFrom b r k = -1 ∧ ∀ i (h : i < r.length), (r[i].toNat : Int) ≠ b) ∨ (∃ n, ∃ h : n < r.length, placeFrom b r k = ((k + n : Nat) : Int) ∧ (r[n].toNat : Int) = b ∧ ∀ i (g : i < n), (r[i].toNat : Int) ≠ b)
  | [], k => .inl ⟨rfl, fun i h => by simp at h⟩
  | c :: r, k => by
    by_cases hc : (c.toNat : Int) = b
    · exact .inr ⟨0, by simp, by simp [placeFrom, hc], hc, fun i g => by omega⟩
    · rcases place_spec b r (k + 1) with ⟨h1, h2⟩ | ⟨n, hn, h1, h2, h3⟩
      · refine .inl ⟨by rw [placeFrom, if_neg hc, h1], fun i h => ?_⟩
        cases i with
        | zero => exact hc
        | succ i => exact h2 i (by simpa using h)
      · refine .inr ⟨n + 1, by simpa using hn, by rw [placeFrom, if_neg hc, h1]; congr 1; omega, h2, fun i g => ?_⟩
        cases i with
        | zero => exact hc
        | succ i => exact h3 i (by omega)

theorem lead_before (p : Nat → Int → Bool) : ∀ (k : Nat) (l : List UInt8) (i : Nat) (_h : i < lead p k l) (g : i < l.length), p (k + i) (l[i].toNat : Int) = true
  | _, [], i, h, _ => by simp [lead] at h
  | k, b :: r, i, h, g => by
    rw [lead] at h
    split at h
    · rename_i hb
      cases i with
      | zero => exact hb
      | succ i =>
        have := lead_before p (k + 1) r i (by omega) (by simpa using g)
        rw [show k + (i + 1) = k + 1 + i by omega]; exact this
    · omega
theorem lead_at (p : Nat → Int → Bool) : ∀ (k : Nat) (l : List UInt8) (g : lead p k l < l.length), p (k + lead p k l) (l[lead p k l].toNat : Int) = false
  | _, [], g => by simp at g
  | k, b :: r, g => by
    cases hb : p k (b.toNat : Int) with
    | false =>
      have e : lead p k (b :: r) = 0 := by simp [lead, hb]
      simp only [e, Nat.add_zero, List.getElem_cons_zero]; exact hb
    | true =>
      have e : lead p k (b :: r) = lead p (k + 1) r + 1 := by simp [lead, hb]
      have g' : lead p (k + 1) r < r.length := by rw [e] at g; simpa using g
      have := lead_at p (k + 1) r g'
      simp only [e, List.getElem_cons_succ, show k + (lead p (k + 1) r + 1) = k + 1 + lead p (k + 1) r by omega]
      exact this

theorem iri_not62 (i : Nat) (r : List UInt8) (h : i < iriLead r) (g : i < r.length) : (r[i].toNat : Int) ≠ 62 := by
  have := lead_before _ 0 r i h g
  intro e
  rw [e] at this
  simp [iriZ, markZ] at this

theorem iriL_take (r : List UInt8) (n : Nat) (hn : n ≤ r.length) : iriL (r.take n) = true ↔ 0 < n ∧ n ≤ iriLead r := by
  unfold iriL
  have e : iriLead (r.take n) = min n (iriLead r) := lead_take _ 0 n r
  rw [e, List.length_take]
  cases n with
  | zero => simp
  | succ n =>
    have hne : (r.take (n + 1)).isEmpty = false := by
      cases r with
      | nil => simp at hn
      | cons b r => rfl
    rw [hne]; simp; omega

theorem bracket_ref (r : List UInt8) : bracketS (60 :: r) = if 0 < placeFrom 62 r 1 ∧ iriL (r.take ((placeFrom 62 r 1).toNat - 1)) = true then (r.take ((placeFrom 62 r 1).toNat - 1), (placeFrom 62 r 1).toNat + 1) else ([], 0) := by
  have hpre : Lib.hasPrefix (60 :: r) [60] = true := by simp [Lib.hasPrefix]
  unfold bracketS
  rw [if_pos hpre, show (60 :: r).drop 1 = r from rfl, show (60 :: r).drop (iriLead r + 1) = r.drop (iriLead r) from rfl]
  have hh := has_one r (iriLead r) 62
  rcases place_spec 62 r 1 with ⟨h1, h2⟩ | ⟨n, hn, h1, h2, h3⟩
  · rw [h1, if_neg (show ¬ (0 < (-1 : Int) ∧ _) from fun c => by omega), if_pos]
    right
    cases e : Lib.hasPrefix (r.drop (iriLead r)) [62] with
    | false => rfl
    | true => obtain ⟨g, hg⟩ := hh.1 e; exact absurd (by rw [hg]; rfl) (h2 _ g)
  · have ht : (((1 + n : Nat) : Int)).toNat - 1 = n := by omega
    rw [h1, ht]
    have hm : r[n] = 62 := (u8_of (n := 62) (by omega)).1 h2
    have hle : iriLead r ≤ n := by
      apply Nat.le_of_not_lt
      intro g
      exact iri_not62 n r g hn h2
    by_cases hi : iriL (r.take n) = true
    · obtain ⟨hpos, hge⟩ := (iriL_take r n (by omega)).1 hi
      have hj : iriLead r = n := by omega
      rw [if_pos (show (0 : Int) < ((1 + n : Nat) : Int) ∧ _ from ⟨by omega, hi⟩), hj, if_neg]
      · congr 1; omega
      · rintro (c | c)
        · omega
        · rw [hj] at hh; rw [hh.2 ⟨hn, hm⟩] at c; cases c
    · rw [if_neg (show ¬ ((0 : Int) < ((1 + n : Nat) : Int) ∧ iriL (r.take n) = true) from fun c => hi c.2), if_pos]
      by_cases hj : iriLead r = 0
      · exact .inl hj
      · right
        cases e : Lib.hasPrefix (r.drop (iriLead r)) [62] with
        | false => rfl
        | true =>
          exfalso
          obtain ⟨g, hg⟩ := hh.1 e
          have hnj : n = iriLead r := by
            rcases Nat.lt_or_ge (iriLead r) n with c | c
            · exact absurd (by rw [hg]; rfl) (h3 _ c)
            · omega
          exact hi ((iriL_take r n (by omega)).2 ⟨by omega, by omega⟩)

theorem langLead_min (r : List UInt8) : ∀ k, k ≤ 9 → lead (fun k c => decide (k ≤ 8) && smallZ c) k r = min (9 - k) (lead (fun _ c => smallZ c) 0 r) := by
  induction r with
  | nil => intro k _; simp [lead]
  | cons b r ih =>
    intro k hk
    have sh : ∀ (j : Nat) (l : List UInt8), lead (fun _ c => smallZ c) j l = lead (fun _ c => smallZ c) 0 l := by
      intro j l
      induction l generalizing j with
      | nil => rfl
      | cons c l il => rw [lead, lead, il (j + 1), il (0 + 1)]
    rw [lead, lead, sh (0 + 1)]
    by_cases h8 : k ≤ 8
    · rw [ih (k + 1) (by omega)]
      cases smallZ (b.toNat : Int) with
      | true => simp [h8]; omega
      | false => simp
    · simp [h8]; omega

theorem lang_ref (r : List UInt8) : (if langL (r.take (lead (fun _ c => smallZ c) 0 r)) = true then (r.take (lead (fun _ c => smallZ c) 0 r), lead (fun _ c => smallZ c) 0 r + 1) else ([], 0)) = if langLead r = 0 ∨ 8 < langLead r then ([], 0) else (r.take (langLead r), langLead r + 1) := by
  have e : langLead r = min 9 (lead (fun _ c => smallZ c) 0 r) := by unfold langLead; rw [langLead_min r 0 (by omega)]
  have hle : lead (fun _ c => smallZ c) 0 r ≤ r.length := lead_le _ _ _
  have e2 : langLead (r.take (lead (fun _ c => smallZ c) 0 r)) = min (lead (fun _ c => smallZ c) 0 r) (langLead r) := lead_take _ 0 _ r
  have hl : langL (r.take (lead (fun _ c => smallZ c) 0 r)) = true ↔ 1 ≤ lead (fun _ c => smallZ c) 0 r ∧ lead (fun _ c => smallZ c) 0 r ≤ 8 := by
    unfold langL
    rw [e2, List.length_take]
    cases hr : r with
    | nil => simp [lead]
    | cons b l =>
      rw [← hr]
      generalize lead (fun _ c => smallZ c) 0 r = n at *
      cases n with
      | zero => simp
      | succ n =>
        have hne : (r.take (n + 1)).isEmpty = false := by rw [hr]; rfl
        rw [hne]; simp; omega
  by_cases h : 1 ≤ lead (fun _ c => smallZ c) 0 r ∧ lead (fun _ c => smallZ c) 0 r ≤ 8
  · rw [if_pos (hl.2 h), if_neg (by omega), show langLead r = lead (fun _ c => smallZ c) 0 r by omega]
  · rw [if_neg (fun c => h (hl.1 c)), if_pos (by omega)]

end Go.Proofs.YtgkpdcjkobieiaaDoor
