/- The lines of two texts, one behind the other. No program. -/
import Derived.Test.YthdhoaihmlodjaaTripReadPlain
namespace Go.Proofs.Ythdhoaihmlodjaa

theorem lineS_more {x r y : List UInt8} {t : TripL} (h : lineS x = some (t, r)) : lineS (x ++ y) = some (t, r ++ y) := by
  by_cases h10 : (10 : UInt8) ∈ x
  · obtain ⟨l, r0, rfl, hn⟩ := List.eq_append_cons_of_mem h10
    rw [lineS_end l r0 hn] at h
    rw [List.append_assoc, List.cons_append, lineS_end l (r0 ++ y) hn]
    split at h
    · rename_i h1
      rw [if_pos h1]
      simp only [Option.some.injEq, Prod.mk.injEq] at h
      rw [h.1, h.2]
    · cases h
  · rw [lineS_none x h10] at h; cases h

theorem off_through (y : List UInt8) : ∀ (f : Nat) (x : List UInt8) (l : List TripL), rdS f x = (l, []) → ∀ (s : List UInt8) (T : List TripL), Off s T (x ++ y) → Off s (T ++ l) y := by
  intro f
  induction f with
  | zero =>
    intro x l h s T ho
    simp only [rdS, Prod.mk.injEq] at h
    rw [← h.1, List.append_nil]
    rw [h.2, List.nil_append] at ho
    exact ho
  | succ f ih =>
    intro x l h s T ho
    cases hx : lineS x with
    | none =>
      rw [rdS_stop hx] at h
      simp only [Prod.mk.injEq] at h
      rw [← h.1, List.append_nil]
      rw [h.2, List.nil_append] at ho
      exact ho
    | some p =>
      obtain ⟨t, r⟩ := p
      rw [rdS_more hx] at h
      simp only [Prod.mk.injEq] at h
      have := ih r (rdS f r).1 (by rw [← h.2]) s (T ++ [t]) (off_more ho (lineS_more hx))
      rw [← h.1]
      simpa using this

theorem ans_ok {s : List UInt8} {l : List TripL} {n : Int} (h : ansS s = (l, n, 0)) : rdS s.length s = (l, []) ∧ n = 0 := by
  unfold ansS ansOf at h
  split at h
  · simp at h
  · rename_i h1
    split at h
    · simp at h
    · simp only [Prod.mk.injEq] at h
      exact ⟨by rw [← h.1, ← Classical.not_not.1 h1], h.2.1.symm⟩

theorem ans_join {a b : List UInt8} {l m : List TripL} {n k : Int} (ha : ansS a = (l, n, 0)) (hb : ansS b = (m, k, 0)) (hl : l.length + m.length ≤ 4096) : ansS (a ++ b) = (l ++ m, 0, 0) := by
  have h1 := off_through b a.length a l (ans_ok ha).1 (a ++ b) [] (off_start _)
  have h2 := off_through [] b.length b m (ans_ok hb).1 (a ++ b) ([] ++ l) (by rw [List.append_nil]; exact h1)
  exact off_all h2 (by simp; omega)

/- the reason is one of three -/
theorem ans_reason (s : List UInt8) : (ansS s).2.2 = 0 ∨ (ansS s).2.2 = 2 ∨ (ansS s).2.2 = 3 := by
  unfold ansS ansOf
  split
  · right; left; rfl
  · split
    · right; right; rfl
    · left; rfl
theorem ans_length (s : List UInt8) : (ansS s).1.length ≤ 4096 := by
  unfold ansS ansOf
  split
  · simp
  · split
    · simp
    · dsimp only; omega

theorem tripCells_cell : ∀ (l : List TripL) (u : Value), u ∈ tripCells l → u.oneCell' = true := by
  intro l u hu
  unfold tripCells at hu
  obtain ⟨t, _, h⟩ := List.mem_flatMap.1 hu
  simp only [TripL.cells, TermL.cells, List.mem_append, List.mem_cons, List.not_mem_nil, or_false] at h
  rcases h with (rfl | rfl | rfl | rfl) | (rfl | rfl | rfl | rfl) | (rfl | rfl | rfl | rfl) <;> rfl

end Go.Proofs.Ythdhoaihmlodjaa
