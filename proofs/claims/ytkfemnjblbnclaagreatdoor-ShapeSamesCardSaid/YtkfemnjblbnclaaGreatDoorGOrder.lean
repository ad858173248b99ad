/- TermOrderPlain, ShpPlain, ShpSort, put together. -/
import Derived.Test.YtkfemnjblbnclaaGreatDoorGPlain
import Derived.Lib.Bytealg

/- The order of terms as a plain function on bytes, and that it is an order (no program). -/
namespace Go.Proofs.YtkfemnjblbnclaaGreatDoor
open Go.Lib (compareBytes)

theorem cb_range : ∀ a b : List UInt8, compareBytes a b = -1 ∨ compareBytes a b = 0 ∨ compareBytes a b = 1
  | [], [] => by simp [compareBytes]
  | [], _ :: _ => by simp [compareBytes]
  | _ :: _, [] => by simp [compareBytes]
  | a :: ar, b :: bs => by
    have := cb_range ar bs
    simp only [compareBytes]
    by_cases h1 : a < b
    · simp [h1]
    · by_cases h2 : b < a <;> simp [h1, h2, this]

theorem cb_zero : ∀ a b : List UInt8, compareBytes a b = 0 ↔ a = b
  | [], [] => by simp [compareBytes]
  | [], _ :: _ => by simp [compareBytes]
  | _ :: _, [] => by simp [compareBytes]
  | a :: ar, b :: bs => by
    have := cb_zero ar bs
    simp only [compareBytes, List.cons.injEq]
    split
    · rename_i h; simp; intro e; subst e; exact absurd h (UInt8.lt_irrefl a)
    · split
      · rename_i h; simp; intro e; subst e; exact absurd h (UInt8.lt_irrefl a)
      · rename_i h1 h2
        have e : a = b := UInt8.le_antisymm (UInt8.not_lt.1 h2) (UInt8.not_lt.1 h1)
        simp [e, this]

theorem cb_anti : ∀ a b : List UInt8, compareBytes b a = - compareBytes a b
  | [], [] => by simp [compareBytes]
  | [], _ :: _ => by simp [compareBytes]
  | _ :: _, [] => by simp [compareBytes]
  | a :: ar, b :: bs => by
    have := cb_anti ar bs
    simp only [compareBytes]
    by_cases h1 : a < b
    · have h2 : ¬ b < a := UInt8.not_lt.2 (UInt8.le_of_lt h1)
      simp [h1, h2]
    · by_cases h2 : b < a <;> simp [h1, h2, this]

theorem cb_trans : ∀ a b c : List UInt8, compareBytes a b ≤ 0 → compareBytes b c ≤ 0 → compareBytes a c ≤ 0
  | [], _, [] => by simp [compareBytes]
  | [], _, _ :: _ => by simp [compareBytes]
  | _ :: _, [], _ => by simp [compareBytes]
  | _ :: _, _ :: _, [] => by simp [compareBytes]
  | a :: ar, b :: bs, c :: cs => by
    have ih := cb_trans ar bs cs
    simp only [compareBytes]
    by_cases h1 : a < b
    · by_cases h2 : b < c
      · simp [h1, h2, UInt8.lt_trans h1 h2]
      · by_cases h3 : c < b
        · simp [h2, h3]
        · have e : b = c := UInt8.le_antisymm (UInt8.not_lt.1 h3) (UInt8.not_lt.1 h2)
          subst e; simp [h1]
    · by_cases h2 : b < a
      · simp [h1, h2]
      · have e : a = b := UInt8.le_antisymm (UInt8.not_lt.1 h2) (UInt8.not_lt.1 h1)
        subst e
        by_cases h3 : a < c
        · simp [h3]
        · by_cases h4 : c < a
          · simp [h3, h4]
          · simpa [h3, h4, h1] using ih

/- the order of terms: by kind, text, type, language -/
def termCmp (k : Int) (x y z : List UInt8) (k' : Int) (x' y' z' : List UInt8) : Int :=
  if k < k' then -1 else if k' < k then 1 else if compareBytes x x' ≠ 0 then compareBytes x x' else if compareBytes y y' ≠ 0 then compareBytes y y' else compareBytes z z'

theorem tc_range (k : Int) (x y z : List UInt8) (k' : Int) (x' y' z' : List UInt8) : termCmp k x y z k' x' y' z' = -1 ∨ termCmp k x y z k' x' y' z' = 0 ∨ termCmp k x y z k' x' y' z' = 1 := by
  have h1 := cb_range x x'; have h2 := cb_range y y'; have h3 := cb_range z z'
  unfold termCmp
  repeat' split
  all_goals first | omega | assumption | simp

theorem tc_zero (k : Int) (x y z : List UInt8) (k' : Int) (x' y' z' : List UInt8) : termCmp k x y z k' x' y' z' = 0 ↔ k = k' ∧ x = x' ∧ y = y' ∧ z = z' := by
  rw [← cb_zero x x', ← cb_zero y y', ← cb_zero z z']
  unfold termCmp
  repeat' split
  all_goals omega

theorem tc_anti (k : Int) (x y z : List UInt8) (k' : Int) (x' y' z' : List UInt8) : termCmp k' x' y' z' k x y z = - termCmp k x y z k' x' y' z' := by
  have h1 := cb_anti x x'; have h2 := cb_anti y y'; have h3 := cb_anti z z'
  unfold termCmp
  repeat' split
  all_goals omega

theorem tc_trans (k : Int) (x y z : List UInt8) (k' : Int) (x' y' z' : List UInt8) (k'' : Int) (x'' y'' z'' : List UInt8) (h : termCmp k x y z k' x' y' z' ≤ 0) (g : termCmp k' x' y' z' k'' x'' y'' z'' ≤ 0) : termCmp k x y z k'' x'' y'' z'' ≤ 0 := by
  have a1 := cb_trans x x' x''; have a2 := cb_trans y y' y''; have a3 := cb_trans z z' z''
  have b1 := cb_trans x' x'' x; have b2 := cb_trans y' y'' y; have b3 := cb_trans z' z'' z
  have c1 := cb_trans x'' x x'; have c2 := cb_trans y'' y y'; have c3 := cb_trans z'' z z'
  have d1 := cb_anti x x'; have d2 := cb_anti y y'; have d3 := cb_anti z z'
  have e1 := cb_anti x' x''; have e2 := cb_anti y' y''; have e3 := cb_anti z' z''
  have f1 := cb_anti x x''; have f2 := cb_anti y y''; have f3 := cb_anti z z''
  unfold termCmp at *
  repeat' split at h
  all_goals repeat' split at g
  all_goals repeat' split
  all_goals omega

end Go.Proofs.YtkfemnjblbnclaaGreatDoor

/- The order of values and of rows, in plain words (no program): that it is one; ranks of columns, each once. -/
namespace Go.Proofs.YtkfemnjblbnclaaGreatDoor

theorem cmpZ_anti (a b : Int) : cmpZ b a = - cmpZ a b := by
  unfold cmpZ
  repeat' split
  all_goals omega
theorem cmpZ_range (a b : Int) : cmpZ a b = -1 ∨ cmpZ a b = 0 ∨ cmpZ a b = 1 := by
  unfold cmpZ
  repeat' split
  all_goals omega
theorem cmpZ_zero (a b : Int) : cmpZ a b = 0 ↔ a = b := by
  unfold cmpZ
  repeat' split
  all_goals omega
theorem cmpZ_le (a b : Int) : cmpZ a b ≤ 0 ↔ a ≤ b := by
  unfold cmpZ
  repeat' split
  all_goals omega

/- the order of terms -/
def tcmp (a b : TermL) : Int := termCmp a.k a.x a.y a.z b.k b.x b.y b.z
theorem tcmp_range (a b : TermL) : tcmp a b = -1 ∨ tcmp a b = 0 ∨ tcmp a b = 1 := tc_range _ _ _ _ _ _ _ _
theorem tcmp_anti (a b : TermL) : tcmp b a = - tcmp a b := tc_anti _ _ _ _ _ _ _ _
theorem tcmp_zero (a b : TermL) : tcmp a b = 0 ↔ a = b := by
  unfold tcmp
  rw [tc_zero]
  constructor
  · rintro ⟨h1, h2, h3, h4⟩
    cases a; cases b
    simp_all
  · rintro rfl; exact ⟨rfl, rfl, rfl, rfl⟩
theorem tcmp_trans (a b c : TermL) (h1 : tcmp a b ≤ 0) (h2 : tcmp b c ≤ 0) : tcmp a c ≤ 0 := tc_trans _ _ _ _ _ _ _ _ _ _ _ _ h1 h2

/- the order of values -/
def sortP (t : TermL) : Int := if t.k = 0 then 0 else if t.k = 3 then 1 else if t.k = 1 then 2 else if (ofP t).2 = true then 3 else 4
def amtP (t : TermL) : Int := amtZ (ofP t).1.v (ofP t).1.s.toNat
def valP (a b : TermL) : Int :=
  if sortP a ≠ sortP b then cmpZ (sortP a) (sortP b) else if sortP a = 3 ∧ cmpZ (amtP a) (amtP b) ≠ 0 then cmpZ (amtP a) (amtP b) else tcmp a b
theorem valP_range (a b : TermL) : valP a b = -1 ∨ valP a b = 0 ∨ valP a b = 1 := by
  unfold valP
  split
  · exact cmpZ_range _ _
  · split
    · exact cmpZ_range _ _
    · exact tcmp_range _ _
theorem valP_anti (a b : TermL) : valP b a = - valP a b := by
  unfold valP
  by_cases h : sortP a = sortP b
  · rw [if_neg (show ¬ (sortP b ≠ sortP a) from fun c => c h.symm), if_neg (show ¬ (sortP a ≠ sortP b) from fun c => c h), cmpZ_anti (amtP a) (amtP b), h]
    by_cases h2 : sortP b = 3 ∧ cmpZ (amtP a) (amtP b) ≠ 0
    · rw [if_pos ⟨h2.1, by have := h2.2; omega⟩, if_pos h2]
    · rw [if_neg (fun c => h2 ⟨c.1, by have := c.2; omega⟩), if_neg h2, tcmp_anti]
  · rw [if_pos (fun c => h c.symm), if_pos h, cmpZ_anti]
theorem valP_zero (a b : TermL) : valP a b = 0 ↔ a = b := by
  constructor
  · intro h
    unfold valP at h
    split at h
    · rename_i k; exact absurd ((cmpZ_zero _ _).1 h) k
    · split at h
      · rename_i k; exact absurd h k.2
      · exact (tcmp_zero _ _).1 h
  · rintro rfl
    unfold valP
    rw [if_neg (by simp), if_neg (fun c => c.2 ((cmpZ_zero _ _).2 rfl))]
    exact (tcmp_zero _ _).2 rfl
theorem valP_self (a : TermL) : valP a a = 0 := (valP_zero a a).2 rfl
theorem valP_trans (a b c : TermL) (h1 : valP a b ≤ 0) (h2 : valP b c ≤ 0) : valP a c ≤ 0 := by
  unfold valP at *
  by_cases s1 : sortP a = sortP b
  · rw [if_neg (by simp [s1])] at h1
    by_cases s2 : sortP b = sortP c
    · rw [if_neg (by simp [s2])] at h2
      rw [if_neg (by simp [s1, s2])]
      rw [s1] at h1 ⊢
      by_cases k3 : sortP b = 3
      · by_cases e1 : amtP a = amtP b
        · rw [if_neg (fun c => c.2 ((cmpZ_zero _ _).2 e1))] at h1
          rw [e1]
          by_cases e2 : amtP b = amtP c
          · rw [if_neg (fun c => c.2 ((cmpZ_zero _ _).2 e2))] at h2
            rw [if_neg (fun c => c.2 ((cmpZ_zero _ _).2 e2))]
            exact tcmp_trans _ _ _ h1 h2
          · rw [if_pos ⟨k3, fun c => e2 ((cmpZ_zero _ _).1 c)⟩] at h2
            rw [if_pos ⟨k3, fun c => e2 ((cmpZ_zero _ _).1 c)⟩]
            exact h2
        · rw [if_pos ⟨k3, fun c => e1 ((cmpZ_zero _ _).1 c)⟩] at h1
          have l1 := (cmpZ_le _ _).1 h1
          have l2 : amtP b ≤ amtP c := by
            by_cases e2 : amtP b = amtP c
            · omega
            · rw [if_pos ⟨k3, fun c => e2 ((cmpZ_zero _ _).1 c)⟩] at h2
              exact (cmpZ_le _ _).1 h2
          rw [if_pos ⟨k3, fun c => by have := (cmpZ_zero _ _).1 c; omega⟩]
          exact (cmpZ_le _ _).2 (by omega)
      · rw [if_neg (fun c => k3 c.1)] at h1 h2 ⊢
        exact tcmp_trans _ _ _ h1 h2
    · rw [if_pos s2] at h2
      rw [s1, if_pos s2]; exact h2
  · rw [if_pos s1] at h1
    have l1 := (cmpZ_le _ _).1 h1
    have l2 : sortP b ≤ sortP c := by
      by_cases s2 : sortP b = sortP c
      · omega
      · rw [if_pos s2] at h2; exact (cmpZ_le _ _).1 h2
    rw [if_pos (show sortP a ≠ sortP c by omega)]
    exact (cmpZ_le _ _).2 (by omega)

/- rows held against each other by columns -/
def nilT : TermL := ⟨0, [], [], []⟩
def turnZ (d : Bool) (n : Int) : Int := if d then - n else n
def rowP : List (Nat × Bool) → List TermL → List TermL → Int
  | [], _, _ => 0
  | x :: r, a, b => if valP (a.getD x.1 nilT) (b.getD x.1 nilT) = 0 then rowP r a b else turnZ x.2 (valP (a.getD x.1 nilT) (b.getD x.1 nilT))
theorem turn_zero {d : Bool} {n : Int} : turnZ d n = 0 ↔ n = 0 := by cases d <;> simp [turnZ]
theorem turn_range {d : Bool} {n : Int} (h : n = -1 ∨ n = 0 ∨ n = 1) : turnZ d n = -1 ∨ turnZ d n = 0 ∨ turnZ d n = 1 := by
  cases d <;> simp only [turnZ, if_true, if_false, Bool.false_eq_true] <;> omega
theorem turn_neg (d : Bool) (n : Int) : turnZ d (- n) = - turnZ d n := by cases d <;> simp [turnZ]
theorem rowP_nil (a b : List TermL) : rowP [] a b = 0 := rfl
theorem rowP_cons (x : Nat × Bool) (r : List (Nat × Bool)) (a b : List TermL) : rowP (x :: r) a b = if valP (a.getD x.1 nilT) (b.getD x.1 nilT) = 0 then rowP r a b else turnZ x.2 (valP (a.getD x.1 nilT) (b.getD x.1 nilT)) := rfl
theorem rowP_self (l : List (Nat × Bool)) (a : List TermL) : rowP l a a = 0 := by
  induction l with
  | nil => rfl
  | cons x r ih => rw [rowP_cons, valP_self, if_pos rfl, ih]
theorem rowP_range (l : List (Nat × Bool)) (a b : List TermL) : rowP l a b = -1 ∨ rowP l a b = 0 ∨ rowP l a b = 1 := by
  induction l with
  | nil => exact .inr (.inl rfl)
  | cons x r ih =>
    rw [rowP_cons]
    split
    · exact ih
    · exact turn_range (valP_range _ _)
theorem rowP_anti (l : List (Nat × Bool)) (a b : List TermL) : rowP l b a = - rowP l a b := by
  induction l with
  | nil => rfl
  | cons x r ih =>
    rw [rowP_cons, rowP_cons, valP_anti (a.getD x.1 nilT) (b.getD x.1 nilT), ih, turn_neg]
    by_cases h : valP (a.getD x.1 nilT) (b.getD x.1 nilT) = 0
    · rw [if_pos (by omega), if_pos h]
    · rw [if_neg (by omega), if_neg h]
theorem rowP_zero {l : List (Nat × Bool)} {a b : List TermL} : rowP l a b = 0 ↔ ∀ x ∈ l, a.getD x.1 nilT = b.getD x.1 nilT := by
  induction l with
  | nil => exact ⟨fun _ x hx => absurd hx List.not_mem_nil, fun _ => rfl⟩
  | cons x r ih =>
    rw [rowP_cons]
    by_cases h : valP (a.getD x.1 nilT) (b.getD x.1 nilT) = 0
    · rw [if_pos h, ih]
      have e := (valP_zero _ _).1 h
      exact ⟨fun k y hy => by
        rcases List.mem_cons.1 hy with rfl | hy
        · exact e
        · exact k y hy, fun k y hy => k y (List.mem_cons_of_mem _ hy)⟩
    · rw [if_neg h]
      constructor
      · intro k; exact absurd (turn_zero.1 k) h
      · intro k; exact absurd ((valP_zero _ _).2 (k x List.mem_cons_self)) h
theorem turn_le {d : Bool} {a b c : TermL} (h1 : turnZ d (valP a b) ≤ 0) (h2 : turnZ d (valP b c) ≤ 0) : turnZ d (valP a c) ≤ 0 := by
  have t1 := valP_trans a b c
  have t2 := valP_trans c b a
  have a1 := valP_anti a b
  have a2 := valP_anti b c
  have a3 := valP_anti a c
  cases d
  · simp only [turnZ, if_false, Bool.false_eq_true] at *; exact t1 h1 h2
  · simp only [turnZ, if_true] at *
    have := t2 (by omega) (by omega)
    omega
theorem rowP_trans (l : List (Nat × Bool)) (a b c : List TermL) (h1 : rowP l a b ≤ 0) (h2 : rowP l b c ≤ 0) : rowP l a c ≤ 0 := by
  induction l with
  | nil => exact Int.le_refl _
  | cons x r ih =>
    rw [rowP_cons] at *
    generalize a.getD x.1 nilT = ta at *
    generalize b.getD x.1 nilT = tb at *
    generalize c.getD x.1 nilT = tc at *
    by_cases e1 : ta = tb
    · subst e1
      rw [valP_self, if_pos rfl] at h1
      by_cases e2 : ta = tc
      · subst e2
        rw [valP_self, if_pos rfl] at h2 ⊢
        exact ih h1 h2
      · have z : ¬ valP ta tc = 0 := fun k => e2 ((valP_zero _ _).1 k)
        rw [if_neg z] at h2 ⊢
        exact h2
    · have z : ¬ valP ta tb = 0 := fun k => e1 ((valP_zero _ _).1 k)
      rw [if_neg z] at h1
      by_cases e2 : tb = tc
      · subst e2; rw [if_neg z]; exact h1
      · have z2 : ¬ valP tb tc = 0 := fun k => e2 ((valP_zero _ _).1 k)
        rw [if_neg z2] at h2
        have h3 := turn_le h1 h2
        by_cases z3 : valP ta tc = 0
        · have := (valP_zero _ _).1 z3
          subst this
          exfalso
          rw [valP_anti ta tb, turn_neg] at h2
          have q : turnZ x.2 (valP ta tb) = 0 := by omega
          exact z (turn_zero.1 q)
        · rw [if_neg z3]; exact h3

/- of columns that come twice the first one alone -/
theorem snoc_ind {α : Type} {P : List α → Prop} (h0 : P []) (h1 : ∀ l x, P l → P (l ++ [x])) (l : List α) : P l := by
  have : ∀ r : List α, P r.reverse := fun r => by
    induction r with
    | nil => exact h0
    | cons x r ih => rw [List.reverse_cons]; exact h1 _ _ ih
  have h := this l.reverse
  rwa [List.reverse_reverse] at h
def onceC (l : List (Nat × Bool)) : List (Nat × Bool) := l.foldl (fun m x => if x.1 ∈ m.map (·.1) then m else m ++ [x]) []
theorem once_snoc (l : List (Nat × Bool)) (x : Nat × Bool) : onceC (l ++ [x]) = if x.1 ∈ (onceC l).map (·.1) then onceC l else onceC l ++ [x] := by unfold onceC; rw [List.foldl_append]; rfl
theorem once_cols (l : List (Nat × Bool)) (c : Nat) : c ∈ (onceC l).map (·.1) ↔ c ∈ l.map (·.1) := by
  refine snoc_ind (P := fun l => c ∈ (onceC l).map (·.1) ↔ c ∈ l.map (·.1)) Iff.rfl (fun r x ih => ?_) l
  rw [once_snoc]
  split
  · rename_i h
    rw [ih, List.map_append, List.mem_append]
    constructor
    · intro k; exact .inl k
    · rintro (k | k)
      · exact k
      · have e : c = x.1 := by simpa using k
        rw [← e] at h
        exact ih.1 h
  · rw [List.map_append, List.mem_append, List.map_append, List.mem_append, ih]
theorem rowP_app (l r : List (Nat × Bool)) (a b : List TermL) : rowP (l ++ r) a b = if rowP l a b = 0 then rowP r a b else rowP l a b := by
  induction l with
  | nil => rfl
  | cons x l ih =>
    rw [List.cons_append, rowP_cons, rowP_cons, ih]
    by_cases h : valP (a.getD x.1 nilT) (b.getD x.1 nilT) = 0
    · rw [if_pos h, if_pos h]
    · rw [if_neg h, if_neg h, if_neg (fun k => h (turn_zero.1 k))]
theorem rowP_once (l : List (Nat × Bool)) (a b : List TermL) : rowP (onceC l) a b = rowP l a b := by
  refine snoc_ind (P := fun l => rowP (onceC l) a b = rowP l a b) rfl (fun r x ih => ?_) l
  rw [once_snoc, rowP_app r]
  split
  · rename_i h
    rw [← ih]
    by_cases h0 : rowP (onceC r) a b = 0
    · rw [if_pos h0, h0, rowP_cons]
      obtain ⟨y, hy, e⟩ := List.mem_map.1 h
      have := rowP_zero.1 h0 y hy
      rw [e] at this
      rw [(valP_zero _ _).2 this, if_pos rfl]; rfl
    · rw [if_neg h0]
  · rw [rowP_app, ih]

end Go.Proofs.YtkfemnjblbnclaaGreatDoor

/- Rows put in order, one by one, in plain words (no program): what is sorted has one order alone; keys and columns. -/
namespace Go.Proofs.YtkfemnjblbnclaaGreatDoor

abbrev RowL := List TermL
/- a row put to its place -/
def putP (c : RowL → RowL → Int) (x : RowL) : List RowL → List RowL
  | [] => [x]
  | y :: r => if c x y < 0 then x :: y :: r else y :: putP c x r
def orderP (c : RowL → RowL → Int) (R : List RowL) : List RowL := R.foldl (fun m x => putP c x m) []
def Risen (c : RowL → RowL → Int) (l : List RowL) : Prop := l.Pairwise fun a b => c a b ≤ 0

theorem putP_perm (c : RowL → RowL → Int) (x : RowL) : ∀ l, (putP c x l).Perm (x :: l)
  | [] => .refl _
  | y :: r => by
    unfold putP
    split
    · exact .refl _
    · exact ((putP_perm c x r).cons y).trans (.swap _ _ _)
theorem putP_risen {c : RowL → RowL → Int} (ha : ∀ a b, c b a = - c a b) (ht : ∀ a b d, c a b ≤ 0 → c b d ≤ 0 → c a d ≤ 0) (x : RowL) : ∀ {l}, Risen c l → Risen c (putP c x l)
  | [], _ => by unfold putP Risen; exact List.pairwise_singleton _ _
  | y :: r, h => by
    obtain ⟨h1, h2⟩ := List.pairwise_cons.1 h
    unfold putP
    split
    · rename_i k
      refine List.pairwise_cons.2 ⟨fun z hz => ?_, h⟩
      rcases List.mem_cons.1 hz with rfl | hz
      · omega
      · exact ht _ _ _ (by omega) (h1 z hz)
    · rename_i k
      refine List.pairwise_cons.2 ⟨fun z hz => ?_, putP_risen ha ht x h2⟩
      rcases List.mem_cons.1 ((putP_perm c x r).mem_iff.1 hz) with rfl | hz
      · have := ha z y; omega
      · exact h1 z hz
theorem order_snoc (c : RowL → RowL → Int) (R : List RowL) (x : RowL) : orderP c (R ++ [x]) = putP c x (orderP c R) := by unfold orderP; rw [List.foldl_append]; rfl
theorem order_perm (c : RowL → RowL → Int) (R : List RowL) : (orderP c R).Perm R := by
  refine snoc_ind (P := fun R => (orderP c R).Perm R) (.refl _) (fun l x ih => ?_) R
  rw [order_snoc]
  exact (putP_perm c x _).trans ((ih.cons x).trans (List.perm_append_singleton x l).symm)
theorem order_risen {c : RowL → RowL → Int} (ha : ∀ a b, c b a = - c a b) (ht : ∀ a b d, c a b ≤ 0 → c b d ≤ 0 → c a d ≤ 0) (R : List RowL) : Risen c (orderP c R) := by
  refine snoc_ind (P := fun R => Risen c (orderP c R)) List.Pairwise.nil (fun l x ih => ?_) R
  rw [order_snoc]
  exact putP_risen ha ht x ih
/- one order alone -/
theorem risen_one {c : RowL → RowL → Int} (ha : ∀ a b, c b a = - c a b) {l m : List RowL} (hz : ∀ a ∈ l, ∀ b ∈ m, c a b = 0 → a = b) (hl : Risen c l) (hm : Risen c m) (hp : l.Perm m) : l = m := by
  refine List.Perm.eq_of_pairwise (le := fun a b => c a b ≤ 0) (fun a b h1 h2 h3 h4 => ?_) hl hm hp
  have := ha a b
  exact hz a h1 b h2 (by omega)
theorem order_one {c : RowL → RowL → Int} (ha : ∀ a b, c b a = - c a b) (ht : ∀ a b d, c a b ≤ 0 → c b d ≤ 0 → c a d ≤ 0) {R S : List RowL} (hz : ∀ a ∈ R, ∀ b ∈ R, c a b = 0 → a = b) (hS : Risen c S) (hp : S.Perm R) : S = orderP c R := by
  refine risen_one ha (fun a h1 b h2 h3 => hz a (hp.mem_iff.1 h1) b ((order_perm c R).mem_iff.1 h2) h3) hS (order_risen ha ht R) (hp.trans (order_perm c R).symm)
theorem order_same {c : RowL → RowL → Int} (ha : ∀ a b, c b a = - c a b) (ht : ∀ a b d, c a b ≤ 0 → c b d ≤ 0 → c a d ≤ 0) {R S : List RowL} (hz : ∀ a ∈ R, ∀ b ∈ R, c a b = 0 → a = b) (hp : S.Perm R) : orderP c S = orderP c R :=
  order_one ha ht hz (order_risen ha ht S) ((order_perm c S).trans hp)
theorem risen_pair {c : RowL → RowL → Int} {l : List RowL} (h : Risen c l) {i : Nat} (hi : i + 1 < l.length) : c l[i] l[i + 1] ≤ 0 := List.pairwise_iff_getElem.1 h i (i + 1) (by omega) hi (by omega)

/- keys, and the columns that they are of -/
structure KeyL where
  n : List UInt8
  d : Bool
def placeP : List (List UInt8) → List UInt8 → Option Nat
  | [], _ => none
  | v :: V, x => if v = x then some 0 else (placeP V x).map (· + 1)
def colsP (V : List (List UInt8)) (K : List KeyL) : List (Nat × Bool) := K.filterMap fun k => (placeP V k.n).map fun i => (i, k.d)
def allC (n : Nat) : List (Nat × Bool) := (List.range n).map fun i => (i, false)
def rankP (V : List (List UInt8)) (K : List KeyL) : List (Nat × Bool) := colsP V K ++ allC V.length
/- which of two rows is ahead -/
def aheadP (V : List (List UInt8)) (K : List KeyL) (a b : RowL) : Int := rowP (rankP V K) a b
theorem ahead_anti (V : List (List UInt8)) (K : List KeyL) (a b : RowL) : aheadP V K b a = - aheadP V K a b := rowP_anti _ _ _
theorem ahead_trans (V : List (List UInt8)) (K : List KeyL) (a b d : RowL) (h1 : aheadP V K a b ≤ 0) (h2 : aheadP V K b d ≤ 0) : aheadP V K a d ≤ 0 := rowP_trans _ _ _ _ h1 h2
theorem ahead_zero {V : List (List UInt8)} {K : List KeyL} {a b : RowL} (ha : a.length = V.length) (hb : b.length = V.length) (h : aheadP V K a b = 0) : a = b := by
  refine List.ext_getElem (by omega) (fun i h1 h2 => ?_)
  have := rowP_zero.1 h (i, false) (List.mem_append.2 (.inr (List.mem_map.2 ⟨i, List.mem_range.2 (by omega), rfl⟩)))
  dsimp only at this
  rw [List.getD_eq_getElem?_getD, List.getD_eq_getElem?_getD, List.getElem?_eq_getElem h1, List.getElem?_eq_getElem h2] at this
  exact this
theorem ahead_range (V : List (List UInt8)) (K : List KeyL) (a b : RowL) : aheadP V K a b = -1 ∨ aheadP V K a b = 0 ∨ aheadP V K a b = 1 := rowP_range _ _ _

theorem place_lt {V : List (List UInt8)} {x : List UInt8} {i : Nat} (h : placeP V x = some i) : ∃ hi : i < V.length, V[i] = x := by
  induction V generalizing i with
  | nil => cases h
  | cons v V ih =>
    unfold placeP at h
    split at h
    · rename_i e; cases h; exact ⟨by simp, e⟩
    · cases hp : placeP V x with
      | none => rw [hp] at h; cases h
      | some j =>
        rw [hp] at h
        have e : i = j + 1 := by simpa using h.symm
        subst e
        obtain ⟨hj, e2⟩ := ih hp
        exact ⟨by simp; omega, by simpa using e2⟩
theorem place_none {V : List (List UInt8)} {x : List UInt8} : placeP V x = none ↔ x ∉ V := by
  induction V with
  | nil => exact ⟨fun _ => List.not_mem_nil, fun _ => rfl⟩
  | cons v V ih =>
    unfold placeP
    by_cases e : v = x
    · rw [if_pos e]; simp [e]
    · rw [if_neg e]
      have e' : ¬ x = v := fun h => e h.symm
      simp [ih, e']
theorem place_first {V : List (List UInt8)} {x : List UInt8} {i : Nat} (hi : i < V.length) (hx : V[i] = x) (hf : ∀ j, (h : j < i) → V[j]'(by omega) ≠ x) : placeP V x = some i := by
  induction V generalizing i with
  | nil => exact absurd hi (Nat.not_lt_zero _)
  | cons v V ih =>
    unfold placeP
    cases i with
    | zero => rw [if_pos (by simpa using hx)]
    | succ i =>
      rw [if_neg (by have := hf 0 (by omega); simpa using this), ih (i := i) (by simpa using hi) (by simpa using hx) (fun j h => by have := hf (j + 1) (by omega); simpa using this)]
      rfl
theorem place_nodup {V : List (List UInt8)} (hn : V.Nodup) {i : Nat} (hi : i < V.length) : placeP V V[i] = some i :=
  place_first hi rfl (fun j hj e => by
    have := (List.getElem_inj hn).1 e
    omega)

end Go.Proofs.YtkfemnjblbnclaaGreatDoor
