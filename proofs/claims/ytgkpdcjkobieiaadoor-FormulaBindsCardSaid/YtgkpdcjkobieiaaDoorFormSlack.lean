/- What a reading of a chain comes to, in plain words: never more parts than words; the levels one by one. -/
import Derived.Test.YtgkpdcjkobieiaaDoorFormPlain
namespace Go.Proofs.YtgkpdcjkobieiaaDoor

def Slack (q r : StL) : Prop := q.1 + r.2.length ≤ r.1 + q.2.length
theorem Slack.trans {q r s : StL} (h : Slack q r) (h2 : Slack r s) : Slack q s := by unfold Slack at *; omega
theorem signed_slack {L : List TokL} {q r : StL} (h : signedM L q = some r) : Slack q r := by
  unfold signedM at h
  split at h
  · cases h
  · split at h
    · simp only [Option.some.injEq] at h
      subst h
      unfold Slack
      dsimp only
      rw [List.length_append, List.length_singleton]; omega
    · cases h
theorem levs_slack {gath : Nat → StL → Option StL} (hg : ∀ i q r, gath i q = some r → Slack q r) (n : Nat) : ∀ k q r, levsM gath n k q = some r → Slack q r
  | 0, q, r, h => by simp only [levsM, Option.some.injEq] at h; subst h; unfold Slack; omega
  | k + 1, q, r, h => by
    simp only [levsM, Option.bind_eq_some_iff] at h
    obtain ⟨s, h1, h2⟩ := h
    exact (hg _ _ _ h1).trans (levs_slack hg n k _ _ h2)
theorem chainOf_slack {gath : Nat → StL → Option StL} (hg : ∀ i q r, gath i q = some r → Slack q r) {L : List TokL} {n : Nat} {q r : StL} (h : chainOf gath L n q = some r) : Slack q r := by
  simp only [chainOf, Option.bind_eq_some_iff] at h
  obtain ⟨s, h1, h2⟩ := h
  exact (signed_slack h1).trans (levs_slack hg n _ _ _ h2)
theorem gather_slack (L : List TokL) : ∀ f i q r, gatherM L f i q = some r → Slack q r
  | 0, i, q, r, h => by cases h
  | f + 1, i, q, r, h => by
    rw [gatherM] at h
    split at h
    · simp only [Option.some.injEq] at h; subst h; unfold Slack; omega
    · simp only [Option.bind_eq_some_iff] at h
      obtain ⟨s, h1, h2⟩ := h
      have hs := chainOf_slack (gather_slack L f) h1
      unfold Slack at hs
      dsimp only at hs
      split at h2
      · simp only [Option.some.injEq] at h2; subst h2
        unfold Slack
        dsimp only
        rw [List.length_append, List.length_singleton]; omega
      · have h3 := gather_slack L f _ _ _ h2
        unfold Slack at h3 ⊢
        dsimp only at h3
        rw [List.length_append, List.length_singleton] at h3; omega
theorem chain_slack {L : List TokL} {f n : Nat} {q r : StL} (h : chainM L f n q = some r) : Slack q r := chainOf_slack (gather_slack L f) h

/- one turn of a level -/
theorem gather_end {L : List TokL} {f i a : Nat} {P : List PartL} {q : StL} (h : gatherM L (f + 1) i (a, P) = some q) (hz : signK L a (lev i).1 (lev i).2.1 = 0) : q = (a, P) := by
  rw [gatherM, if_pos hz] at h
  simpa using h.symm
theorem gather_more {L : List TokL} {f i a K : Nat} {P : List PartL} {q : StL} (h : gatherM L (f + 1) i (a, P) = some q) (hK : signK L a (lev i).1 (lev i).2.1 = K) (hz : ¬ K = 0) :
    ∃ a' P', chainM L f (i + 1) (a + 1, P) = some (a', P') ∧ P'.length + a < a' + P.length ∧ if (lev i).2.2 = true then q = (a', P' ++ [signPart K]) else gatherM L f i (a', P' ++ [signPart K]) = some q := by
  subst hK
  rw [gatherM, if_neg hz] at h
  simp only [Option.bind_eq_some_iff] at h
  obtain ⟨⟨a', P'⟩, h1, h2⟩ := h
  refine ⟨a', P', h1, ?_, ?_⟩
  · have := chain_slack h1
    unfold Slack at this
    dsimp only at this
    omega
  · split at h2
    · rename_i hc; rw [if_pos hc]; simpa using h2.symm
    · rename_i hc; rw [if_neg hc]; exact h2
theorem lev_most {i : Nat} (h : i < 5) : (lev i).2.1 < 27 ∧ (lev i).1 ≤ (lev i).2.1 + 1 := by
  rcases (by omega : i = 0 ∨ i = 1 ∨ i = 2 ∨ i = 3 ∨ i = 4) with rfl | rfl | rfl | rfl | rfl <;> decide

end Go.Proofs.YtgkpdcjkobieiaaDoor
