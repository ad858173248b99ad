/- A set of triples in order, with one more, without one: in plain words. No program. -/
import Derived.Test.YtnojdchodmogbaaGreatStoBlks
namespace Go.Proofs.YtnojdchodmogbaaGreat

/- in order, with one more that is not there -/
def putL : List TripL → TripL → List TripL
  | [], t => [t]
  | x :: r, t => if tripCmp t x < 0 then t :: x :: r else x :: putL r t
theorem mem_putL {l : List TripL} {t x : TripL} : x ∈ putL l t ↔ x = t ∨ x ∈ l := by
  induction l with
  | nil => simp [putL]
  | cons a r ih =>
    unfold putL
    split
    · simp
    · rw [List.mem_cons, ih, List.mem_cons]
      constructor
      · rintro (h | h | h)
        · exact .inr (.inl h)
        · exact .inl h
        · exact .inr (.inr h)
      · rintro (h | h | h)
        · exact .inr (.inl h)
        · exact .inl h
        · exact .inr (.inr h)
theorem ord_putL {l : List TripL} {t : TripL} (h : Ord 0 l) (ht : t ∉ l) : Ord 0 (putL l t) := by
  induction l with
  | nil => exact List.pairwise_singleton _ _
  | cons a r ih =>
    have h' := List.pairwise_cons.1 h
    unfold putL
    split
    · rename_i hlt
      refine List.pairwise_cons.2 ⟨fun b hb => ?_, h⟩
      have h0 : cmpK t a 0 3 < 0 := by rw [cmpK_trip]; exact hlt
      rcases List.mem_cons.1 hb with rfl | hb
      · exact h0
      · exact cmpK_lt_trans h0 (h'.1 b hb)
    · rename_i hge
      refine List.pairwise_cons.2 ⟨fun b hb => ?_, ih h'.2 (fun c => ht (List.mem_cons_of_mem _ c))⟩
      rcases mem_putL.1 hb with rfl | hb
      · have h0 : ¬ cmpK b a 0 3 < 0 := by rw [cmpK_trip]; exact hge
        by_cases hz : cmpK b a 0 3 = 0
        · exact absurd (cmpK3_zero hz) (fun e => ht (by rw [e]; exact List.mem_cons_self ..))
        · exact cmpK_pos.1 (by omega)
      · exact h'.1 b hb
theorem length_putL (l : List TripL) (t : TripL) : (putL l t).length = l.length + 1 := by
  induction l with
  | nil => rfl
  | cons a r ih =>
    unfold putL
    split
    · rfl
    · simp [ih]
theorem insAt_putL {l : List TripL} {k : Nat} {t : TripL} (h : Ord 0 l) (hs : Spot 0 l t k) (ht : t ∉ l) : insAt l k t = putL l t :=
  ord_unique (ord_insAt h hs ht) (ord_putL h ht) fun x => by rw [mem_insAt, mem_putL]

/- a triple added: the triples, was it, why not -/
def addL (l : List TripL) (t : TripL) : List TripL := if tripB t = false then l else if t ∈ l then l else if 4096 ≤ l.length then l else putL l t
def addB (l : List TripL) (t : TripL) : Bool := if tripB t = false then false else if t ∈ l then false else if 4096 ≤ l.length then false else true
def addE (l : List TripL) (t : TripL) : Int := if tripB t = false then 2 else if t ∈ l then 0 else if 4096 ≤ l.length then 3 else 0
/- taken out -/
def remL (l : List TripL) (t : TripL) : List TripL := l.filter (fun x => decide (x ≠ t))
theorem remL_none {l : List TripL} {t : TripL} (h : t ∉ l) : remL l t = l := List.filter_eq_self.2 fun _ hx => decide_eq_true fun e => h (e ▸ hx)
theorem mem_remL {l : List TripL} {t x : TripL} : x ∈ remL l t ↔ x ∈ l ∧ x ≠ t := by unfold remL; rw [List.mem_filter, decide_eq_true_eq]
theorem ord_remL {f : Nat} {l : List TripL} {t : TripL} (h : Ord f l) : Ord f (remL l t) := List.Pairwise.sublist List.filter_sublist h
theorem ord_delAt {f k : Nat} {l : List TripL} (h : Ord f l) : Ord f (delAt l k) := by
  unfold delAt
  refine List.Pairwise.sublist ?_ h
  conv => rhs; rw [← List.take_append_drop k l]
  refine List.Sublist.append (List.Sublist.refl _) ?_
  rw [← List.drop_drop]
  exact List.drop_sublist _ _

theorem addL_form {l : List TripL} {t : TripL} (h : tripB t = false) : addL l t = l ∧ addB l t = false ∧ addE l t = 2 := by unfold addL addB addE; rw [if_pos h, if_pos h, if_pos h]; exact ⟨rfl, rfl, rfl⟩
theorem addL_there {l : List TripL} {t : TripL} (h : tripB t = true) (h2 : t ∈ l) : addL l t = l ∧ addB l t = false ∧ addE l t = 0 := by
  unfold addL addB addE; rw [h]; simp [h2]
theorem addL_full {l : List TripL} {t : TripL} (h : tripB t = true) (h2 : t ∉ l) (h3 : 4096 ≤ l.length) : addL l t = l ∧ addB l t = false ∧ addE l t = 3 := by
  unfold addL addB addE; rw [h]; simp [h2, h3]
theorem addL_new {l : List TripL} {t : TripL} (h : tripB t = true) (h2 : t ∉ l) (h3 : ¬ 4096 ≤ l.length) : addL l t = putL l t ∧ addB l t = true ∧ addE l t = 0 := by
  unfold addL addB addE; rw [h]; simp [h2, h3]
theorem ord_addL {l : List TripL} {t : TripL} (h : Ord 0 l) : Ord 0 (addL l t) := by
  unfold addL
  split
  · exact h
  · split
    · exact h
    · rename_i h2
      split
      · exact h
      · exact ord_putL h h2
theorem addL_length {l : List TripL} {t : TripL} : (addL l t).length ≤ l.length + 1 := by
  unfold addL
  repeat' split
  all_goals first | omega | (rw [length_putL]; exact Nat.le_refl _)
theorem addL_most {l : List TripL} {t : TripL} (h : l.length ≤ 4096) : (addL l t).length ≤ 4096 := by
  unfold addL
  repeat' split
  all_goals first | exact h | (rw [length_putL]; omega)

end Go.Proofs.YtnojdchodmogbaaGreat
