/- What matches a pattern: the given places, the list that they choose, the terms of a row: in plain words. No program. -/
import Derived.Test.YtnojdchodmogbaaStoPlain
namespace Go.Proofs.Ytnojdchodmogbaa

/- where a pattern's terms that are no variables begin, going round, and how many they are, when i places have been looked at -/
def gv (p : TripL) : Nat → Nat × Nat
  | 0 => (0, 0)
  | i + 1 => if (at3 p i).k = 4 then gv p i else (if (at3 p ((i + 2) % 3)).k = 4 then i else (gv p i).1, (gv p i).2 + 1)
theorem gv_le (p : TripL) (i : Nat) (h : i ≤ 3) : (gv p i).1 ≤ 2 ∧ (gv p i).2 ≤ i := by
  induction i with
  | zero => exact ⟨Nat.zero_le _, Nat.le_refl _⟩
  | succ i ih =>
    have := ih (by omega)
    unfold gv
    split
    · omega
    · dsimp only; split <;> omega
/- one term where the pattern has one -/
def alikeB (x p : TripL) : Bool := decide (p.p = p.s → x.p = x.s) && (decide (p.o = p.s → x.o = x.s) && decide (p.o = p.p → x.o = x.p))
/- the document's words -/
def fitsB (p t : TermL) : Bool := p.k == 4 || decide (p = t)
def twiceB (a b x y : TermL) : Bool := a.k == 4 && (b.k == 4 && (decide (a.x = b.x) && decide (x ≠ y)))
def matchB (p t : TripL) : Bool := fitsB p.s t.s && (fitsB p.p t.p && fitsB p.o t.o) && (!twiceB p.s p.p t.s t.p && (!twiceB p.s p.o t.s t.o && !twiceB p.p p.o t.p t.o))

theorem right_var {t : TermL} (h : t.right = true) (hk : t.k = 4) : t.y = [] ∧ t.z = [] := by
  obtain ⟨k, x, y, z⟩ := t
  dsimp only at hk
  subst hk
  unfold TermL.right rightL bareL at h
  simp at h
  exact h.1
theorem pat_vars {p : TripL} (h : patB p = true) : (p.s.k = 4 → p.s.y = [] ∧ p.s.z = []) ∧ (p.p.k = 4 → p.p.y = [] ∧ p.p.z = []) ∧ (p.o.k = 4 → p.o.y = [] ∧ p.o.z = []) := by
  unfold patB checkB placeB at h
  simp only [Bool.and_eq_true] at h
  exact ⟨right_var h.1.2, right_var h.2.1.2, right_var h.2.2.2⟩
theorem var_eq {a b : TermL} (ha : a.k = 4) (hb : b.k = 4) (h1 : a.k = 4 → a.y = [] ∧ a.z = []) (h2 : b.k = 4 → b.y = [] ∧ b.z = []) : a = b ↔ a.x = b.x := by
  obtain ⟨k, x, y, z⟩ := a
  obtain ⟨k', x', y', z'⟩ := b
  have e1 := h1 ha; have e2 := h2 hb
  dsimp only at *
  subst ha; subst hb
  rw [e1.1, e1.2, e2.1, e2.2]
  constructor
  · intro e; injection e
  · intro e; rw [e]
theorem var_ne {a b : TermL} (ha : a.k = 4) (hb : ¬ b.k = 4) : a ≠ b := fun e => hb (by rw [← e]; exact ha)

theorem all_one {P : Nat → Prop} : (∀ i, i < 1 → P i) ↔ P 0 := ⟨fun h => h 0 (by omega), fun h i hi => by obtain rfl : i = 0 := (by omega); exact h⟩
theorem all_two {P : Nat → Prop} : (∀ i, i < 2 → P i) ↔ P 0 ∧ P 1 := ⟨fun h => ⟨h 0 (by omega), h 1 (by omega)⟩, fun h i hi => by
  rcases (by omega : i = 0 ∨ i = 1) with rfl | rfl
  · exact h.1
  · exact h.2⟩
theorem all_three {P : Nat → Prop} : (∀ i, i < 3 → P i) ↔ P 0 ∧ P 1 ∧ P 2 := ⟨fun h => ⟨h 0 (by omega), h 1 (by omega), h 2 (by omega)⟩, fun h i hi => by
  rcases (by omega : i = 0 ∨ i = 1 ∨ i = 2) with rfl | rfl | rfl
  · exact h.1
  · exact h.2.1
  · exact h.2.2⟩
theorem all_none {P : Nat → Prop} : (∀ i, i < 0 → P i) ↔ True := ⟨fun _ => trivial, fun _ _ hi => absurd hi (Nat.not_lt_zero _)⟩
theorem eqv {α β : Type} {a b : α} {x y : β} : (¬ a = b ∨ x = y) ↔ (b = a → y = x) := by
  by_cases h : a = b
  · subst h; simp [eq_comm]
  · have : ¬ b = a := fun e => h e.symm
    simp [h, this]

theorem match_iff {p : TripL} (hp : patB p = true) (t : TripL) : matchB p t = (decide (cmpK t p (gv p 3).1 (gv p 3).2 = 0) && alikeB t p) := by
  obtain ⟨v0, v1, v2⟩ := pat_vars hp
  obtain ⟨a, b, c⟩ := p
  obtain ⟨x, y, z⟩ := t
  dsimp only at v0 v1 v2
  rw [Bool.eq_iff_iff, Bool.and_eq_true, decide_eq_true_eq, cmpK_zero]
  unfold matchB fitsB twiceB alikeB
  simp only [Bool.and_eq_true, Bool.or_eq_true, beq_iff_eq, decide_eq_true_eq, Bool.not_eq_true', Bool.and_eq_false_iff, beq_eq_false_iff_ne, decide_eq_false_iff_not, ne_eq, Decidable.not_not]
  by_cases h0 : a.k = 4 <;> by_cases h1 : b.k = 4 <;> by_cases h2 : c.k = 4
  · have e : gv ⟨a, b, c⟩ 3 = (0, 0) := by simp [gv, at3, h0, h1, h2]
    rw [e, all_none]
    simp only [h0, h1, h2, true_or, true_and, not_true_eq_false, false_or]
    rw [var_eq h1 h0 v1 v0, var_eq h2 h0 v2 v0, var_eq h2 h1 v2 v1]
    exact and_congr eqv (and_congr eqv eqv)
  · have e : gv ⟨a, b, c⟩ 3 = (2, 1) := by simp [gv, at3, h0, h1, h2]
    rw [e, all_one]
    have n20 : ¬ c = a := fun e => h2 (by rw [e]; exact h0)
    have n21 : ¬ c = b := fun e => h2 (by rw [e]; exact h1)
    (try simp only [h0, h1, h2, true_or, true_and, not_true_eq_false, false_or, not_false_eq_true, n20, n21, false_implies, and_true, at3, Nat.add_zero, Nat.reduceMod, if_false, Nat.reduceEqDiff])
    rw [var_eq h1 h0 v1 v0]
    (try simp only [eqv])
    constructor <;> intro h <;> simp_all
  · have e : gv ⟨a, b, c⟩ 3 = (1, 1) := by simp [gv, at3, h0, h1, h2]
    rw [e, all_one]
    have n10 : ¬ b = a := fun e => h1 (by rw [e]; exact h0)
    have n21 : ¬ c = b := fun e => h1 (by rw [← e]; exact h2)
    (try simp only [h0, h1, h2, true_or, true_and, not_true_eq_false, false_or, not_false_eq_true, n10, n21, false_implies, and_true, at3, Nat.add_zero, Nat.reduceMod, if_true, if_false, Nat.one_ne_zero])
    rw [var_eq h2 h0 v2 v0]
    (try simp only [eqv])
    constructor <;> intro h <;> simp_all
  · have e : gv ⟨a, b, c⟩ 3 = (1, 2) := by simp [gv, at3, h0, h1, h2]
    rw [e, all_two]
    have n10 : ¬ b = a := fun e => h1 (by rw [e]; exact h0)
    have n20 : ¬ c = a := fun e => h2 (by rw [e]; exact h0)
    (try simp only [h0, h1, h2, true_or, true_and, not_true_eq_false, false_or, not_false_eq_true, n10, n20, false_implies, and_true, at3, Nat.add_zero, Nat.reduceMod, Nat.reduceAdd, if_true, if_false, Nat.one_ne_zero, Nat.reduceEqDiff])
    (try simp only [eqv])
    constructor <;> intro h <;> simp_all
  · have e : gv ⟨a, b, c⟩ 3 = (0, 1) := by simp [gv, at3, h0, h1, h2]
    rw [e, all_one]
    have n10 : ¬ b = a := fun e => h0 (by rw [← e]; exact h1)
    have n20 : ¬ c = a := fun e => h0 (by rw [← e]; exact h2)
    (try simp only [h0, h1, h2, true_or, true_and, not_true_eq_false, false_or, not_false_eq_true, n10, n20, false_implies, and_true, at3, Nat.add_zero, Nat.reduceMod, if_true, if_false, Nat.reduceEqDiff])
    rw [var_eq h2 h1 v2 v1]
    (try simp only [eqv])
    constructor <;> intro h <;> simp_all
  · have e : gv ⟨a, b, c⟩ 3 = (2, 2) := by simp [gv, at3, h0, h1, h2]
    rw [e, all_two]
    have n10 : ¬ b = a := fun e => h0 (by rw [← e]; exact h1)
    have n21 : ¬ c = b := fun e => h2 (by rw [e]; exact h1)
    (try simp only [h0, h1, h2, true_or, true_and, not_true_eq_false, false_or, not_false_eq_true, n10, n21, false_implies, and_true, at3, Nat.add_zero, Nat.reduceMod, Nat.reduceAdd, if_true, if_false, Nat.reduceEqDiff])
    (try simp only [eqv])
    constructor <;> intro h <;> simp_all
  · have e : gv ⟨a, b, c⟩ 3 = (0, 2) := by simp [gv, at3, h0, h1, h2]
    rw [e, all_two]
    have n20 : ¬ c = a := fun e => h0 (by rw [← e]; exact h2)
    have n21 : ¬ c = b := fun e => h1 (by rw [← e]; exact h2)
    (try simp only [h0, h1, h2, true_or, not_true_eq_false, false_or, not_false_eq_true, n20, n21, false_implies, and_true, at3, Nat.add_zero, Nat.reduceMod, Nat.reduceAdd, if_true, if_false, Nat.one_ne_zero, Nat.reduceEqDiff])
    (try simp only [eqv])
    constructor <;> intro h <;> simp_all
  · have e : gv ⟨a, b, c⟩ 3 = (0, 3) := by simp [gv, at3, h0, h1, h2]
    rw [e, all_three]
    (try simp only [h0, h1, h2, true_or, false_or, not_false_eq_true, and_true, at3, Nat.add_zero, Nat.reduceMod, Nat.reduceAdd, if_true, if_false, Nat.one_ne_zero, Nat.reduceEqDiff])
    (try simp only [eqv])
    constructor <;> intro h <;> simp_all

end Go.Proofs.Ytnojdchodmogbaa
