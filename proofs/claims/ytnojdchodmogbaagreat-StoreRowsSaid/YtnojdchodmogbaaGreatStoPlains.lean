/- What matches a pattern: the given places, the list that they choose, the terms of a row: in plain words. No program. The piece of a list that a pattern's given terms choose; what matches, in order; a row's terms: in plain words. No program. -/
import Derived.Test.YtnojdchodmogbaaGreatStoBlks
namespace Go.Proofs.YtnojdchodmogbaaGreat

/- where a pattern's terms that are no variables begin, going round, and how many they are, when i places have been looked at -/
def gv (p : TripL) : Nat → Nat × Nat
  | 0 => (0, 0)
  | i + 1 => if (at3 p i).k = 4 then gv p i else (if (at3 p ((i + 2) % 3)).k = 4 then i else (gv p i).1, (gv p i).2 + 1)
theorem gv_le (p : TripL) (i : Nat) (h : i ≤ 3) : (gv p i).1 ≤ 2 ∧ (gv p i).2 ≤ i := by
  induction i with
  | zero => exact ⟨Nat.zero_le _, Nat.le_refl _⟩
  | succ i ih =>
    have := ih (by omega)
    unfold gv
    split
    · omega
    · dsimp only; split <;> omega
/- one term where the pattern has one -/
def alikeB (x p : TripL) : Bool := decide (p.p = p.s → x.p = x.s) && (decide (p.o = p.s → x.o = x.s) && decide (p.o = p.p → x.o = x.p))
/- the document's words -/
def fitsB (p t : TermL) : Bool := p.k == 4 || decide (p = t)
def twiceB (a b x y : TermL) : Bool := a.k == 4 && (b.k == 4 && (decide (a.x = b.x) && decide (x ≠ y)))
def matchB (p t : TripL) : Bool := fitsB p.s t.s && (fitsB p.p t.p && fitsB p.o t.o) && (!twiceB p.s p.p t.s t.p && (!twiceB p.s p.o t.s t.o && !twiceB p.p p.o t.p t.o))

theorem right_var {t : TermL} (h : t.right = true) (hk : t.k = 4) : t.y = [] ∧ t.z = [] := by
  obtain ⟨k, x, y, z⟩ := t
  dsimp only at hk
  subst hk
  unfold TermL.right rightL bareL at h
  simp at h
  exact h.1
theorem pat_vars {p : TripL} (h : patB p = true) : (p.s.k = 4 → p.s.y = [] ∧ p.s.z = []) ∧ (p.p.k = 4 → p.p.y = [] ∧ p.p.z = []) ∧ (p.o.k = 4 → p.o.y = [] ∧ p.o.z = []) := by
  unfold patB checkB placeB at h
  simp only [Bool.and_eq_true] at h
  exact ⟨right_var h.1.2, right_var h.2.1.2, right_var h.2.2.2⟩
theorem var_eq {a b : TermL} (ha : a.k = 4) (hb : b.k = 4) (h1 : a.k = 4 → a.y = [] ∧ a.z = []) (h2 : b.k = 4 → b.y = [] ∧ b.z = []) : a = b ↔ a.x = b.x := by
  obtain ⟨k, x, y, z⟩ := a
  obtain ⟨k', x', y', z'⟩ := b
  have e1 := h1 ha; have e2 := h2 hb
  dsimp only at *
  subst ha; subst hb
  rw [e1.1, e1.2, e2.1, e2.2]
  constructor
  · intro e; injection e
  · intro e; rw [e]
theorem var_ne {a b : TermL} (ha : a.k = 4) (hb : ¬ b.k = 4) : a ≠ b := fun e => hb (by rw [← e]; exact ha)

theorem all_one {P : Nat → Prop} : (∀ i, i < 1 → P i) ↔ P 0 := ⟨fun h => h 0 (by omega), fun h i hi => by obtain rfl : i = 0 := (by omega); exact h⟩
theorem all_two {P : Nat → Prop} : (∀ i, i < 2 → P i) ↔ P 0 ∧ P 1 := ⟨fun h => ⟨h 0 (by omega), h 1 (by omega)⟩, fun h i hi => by
  rcases (by omega : i = 0 ∨ i = 1) with rfl | rfl
  · exact h.1
  · exact h.2⟩
theorem all_three {P : Nat → Prop} : (∀ i, i < 3 → P i) ↔ P 0 ∧ P 1 ∧ P 2 := ⟨fun h => ⟨h 0 (by omega), h 1 (by omega), h 2 (by omega)⟩, fun h i hi => by
  rcases (by omega : i = 0 ∨ i = 1 ∨ i = 2) with rfl | rfl | rfl
  · exact h.1
  · exact h.2.1
  · exact h.2.2⟩
theorem all_none {P : Nat → Prop} : (∀ i, i < 0 → P i) ↔ True := ⟨fun _ => trivial, fun _ _ hi => absurd hi (Nat.not_lt_zero _)⟩
theorem eqv {α β : Type} {a b : α} {x y : β} : (¬ a = b ∨ x = y) ↔ (b = a → y = x) := by
  by_cases h : a = b
  · subst h; simp [eq_comm]
  · have : ¬ b = a := fun e => h e.symm
    simp [h, this]

theorem match_iff {p : TripL} (hp : patB p = true) (t : TripL) : matchB p t = (decide (cmpK t p (gv p 3).1 (gv p 3).2 = 0) && alikeB t p) := by
  obtain ⟨v0, v1, v2⟩ := pat_vars hp
  obtain ⟨a, b, c⟩ := p
  obtain ⟨x, y, z⟩ := t
  dsimp only at v0 v1 v2
  rw [Bool.eq_iff_iff, Bool.and_eq_true, decide_eq_true_eq, cmpK_zero]
  unfold matchB fitsB twiceB alikeB
  simp only [Bool.and_eq_true, Bool.or_eq_true, beq_iff_eq, decide_eq_true_eq, Bool.not_eq_true', Bool.and_eq_false_iff, beq_eq_false_iff_ne, decide_eq_false_iff_not, ne_eq, Decidable.not_not]
  by_cases h0 : a.k = 4 <;> by_cases h1 : b.k = 4 <;> by_cases h2 : c.k = 4
  · have e : gv ⟨a, b, c⟩ 3 = (0, 0) := by simp [gv, at3, h0, h1, h2]
    rw [e, all_none]
    simp only [h0, h1, h2, true_or, true_and, not_true_eq_false, false_or]
    rw [var_eq h1 h0 v1 v0, var_eq h2 h0 v2 v0, var_eq h2 h1 v2 v1]
    exact and_congr eqv (and_congr eqv eqv)
  · have e : gv ⟨a, b, c⟩ 3 = (2, 1) := by simp [gv, at3, h0, h1, h2]
    rw [e, all_one]
    have n20 : ¬ c = a := fun e => h2 (by rw [e]; exact h0)
    have n21 : ¬ c = b := fun e => h2 (by rw [e]; exact h1)
    (try simp only [h0, h1, h2, true_or, true_and, not_true_eq_false, false_or, not_false_eq_true, n20, n21, false_implies, and_true, at3, Nat.add_zero, Nat.reduceMod, if_false, Nat.reduceEqDiff])
    rw [var_eq h1 h0 v1 v0]
    (try simp only [eqv])
    constructor <;> intro h <;> simp_all
  · have e : gv ⟨a, b, c⟩ 3 = (1, 1) := by simp [gv, at3, h0, h1, h2]
    rw [e, all_one]
    have n10 : ¬ b = a := fun e => h1 (by rw [e]; exact h0)
    have n21 : ¬ c = b := fun e => h1 (by rw [← e]; exact h2)
    (try simp only [h0, h1, h2, true_or, true_and, not_true_eq_false, false_or, not_false_eq_true, n10, n21, false_implies, and_true, at3, Nat.add_zero, Nat.reduceMod, if_true, if_false, Nat.one_ne_zero])
    rw [var_eq h2 h0 v2 v0]
    (try simp only [eqv])
    constructor <;> intro h <;> simp_all
  · have e : gv ⟨a, b, c⟩ 3 = (1, 2) := by simp [gv, at3, h0, h1, h2]
    rw [e, all_two]
    have n10 : ¬ b = a := fun e => h1 (by rw [e]; exact h0)
    have n20 : ¬ c = a := fun e => h2 (by rw [e]; exact h0)
    (try simp only [h0, h1, h2, true_or, true_and, not_true_eq_false, false_or, not_false_eq_true, n10, n20, false_implies, and_true, at3, Nat.add_zero, Nat.reduceMod, Nat.reduceAdd, if_true, if_false, Nat.one_ne_zero, Nat.reduceEqDiff])
    (try simp only [eqv])
    constructor <;> intro h <;> simp_all
  · have e : gv ⟨a, b, c⟩ 3 = (0, 1) := by simp [gv, at3, h0, h1, h2]
    rw [e, all_one]
    have n10 : ¬ b = a := fun e => h0 (by rw [← e]; exact h1)
    have n20 : ¬ c = a := fun e => h0 (by rw [← e]; exact h2)
    (try simp only [h0, h1, h2, true_or, true_and, not_true_eq_false, false_or, not_false_eq_true, n10, n20, false_implies, and_true, at3, Nat.add_zero, Nat.reduceMod, if_true, if_false, Nat.reduceEqDiff])
    rw [var_eq h2 h1 v2 v1]
    (try simp only [eqv])
    constructor <;> intro h <;> simp_all
  · have e : gv ⟨a, b, c⟩ 3 = (2, 2) := by simp [gv, at3, h0, h1, h2]
    rw [e, all_two]
    have n10 : ¬ b = a := fun e => h0 (by rw [← e]; exact h1)
    have n21 : ¬ c = b := fun e => h2 (by rw [e]; exact h1)
    (try simp only [h0, h1, h2, true_or, true_and, not_true_eq_false, false_or, not_false_eq_true, n10, n21, false_implies, and_true, at3, Nat.add_zero, Nat.reduceMod, Nat.reduceAdd, if_true, if_false, Nat.reduceEqDiff])
    (try simp only [eqv])
    constructor <;> intro h <;> simp_all
  · have e : gv ⟨a, b, c⟩ 3 = (0, 2) := by simp [gv, at3, h0, h1, h2]
    rw [e, all_two]
    have n20 : ¬ c = a := fun e => h0 (by rw [← e]; exact h2)
    have n21 : ¬ c = b := fun e => h1 (by rw [← e]; exact h2)
    (try simp only [h0, h1, h2, true_or, not_true_eq_false, false_or, not_false_eq_true, n20, n21, false_implies, and_true, at3, Nat.add_zero, Nat.reduceMod, Nat.reduceAdd, if_true, if_false, Nat.one_ne_zero, Nat.reduceEqDiff])
    (try simp only [eqv])
    constructor <;> intro h <;> simp_all
  · have e : gv ⟨a, b, c⟩ 3 = (0, 3) := by simp [gv, at3, h0, h1, h2]
    rw [e, all_three]
    (try simp only [h0, h1, h2, true_or, false_or, not_false_eq_true, and_true, at3, Nat.add_zero, Nat.reduceMod, Nat.reduceAdd, if_true, if_false, Nat.one_ne_zero, Nat.reduceEqDiff])
    (try simp only [eqv])
    constructor <;> intro h <;> simp_all

end Go.Proofs.YtnojdchodmogbaaGreat

namespace Go.Proofs.YtnojdchodmogbaaGreat

theorem ord_le {f n : Nat} {l : List TripL} (h : Ord f l) (hn : n ≤ 3) {a b : Nat} (hab : a ≤ b) (hb : b < l.length) : cmpK (l[a]'(by omega)) l[b] f n ≤ 0 := by
  rcases (by omega : a = b ∨ a < b) with rfl | hlt
  · rw [cmpK_self]; exact Int.le_refl _
  · have := List.pairwise_iff_getElem.1 h a b (by omega) hb hlt
    refine cmpK_le (m := 3 - n) ?_
    rw [show n + (3 - n) = 3 by omega]; omega
theorem seg_ge {f n : Nat} {l : List TripL} {p : TripL} (h : Ord f l) (hn : n ≤ 3) {a b : Nat} (hab : a ≤ b) (hb : b < l.length) (hc : 0 ≤ cmpK (l[a]'(by omega)) p f n) : 0 ≤ cmpK l[b] p f n := by
  have h1 := ord_le h hn hab hb
  have h2 := cmpK_anti (l[a]'(by omega)) p f n
  have h3 := cmpK_trans p (l[a]'(by omega)) l[b] f n (by omega) h1
  have h4 := cmpK_anti p l[b] f n
  omega
theorem seg_gt {f n : Nat} {l : List TripL} {p : TripL} (h : Ord f l) (hn : n ≤ 3) {a b : Nat} (hab : a ≤ b) (hb : b < l.length) (hc : 0 < cmpK (l[a]'(by omega)) p f n) : 0 < cmpK l[b] p f n := by
  have h1 := ord_le h hn hab hb
  refine Int.not_le.1 fun c => ?_
  have := cmpK_trans (l[a]'(by omega)) l[b] p f n h1 c
  omega

/- from the first place that says yes on, all do -/
def Edge (P : Nat → Bool) (N k : Nat) : Prop := k ≤ N ∧ (∀ j, j < k → P j = false) ∧ (∀ j, k ≤ j → j < N → P j = true)
theorem seg_filter {f n b e : Nat} {l : List TripL} {p : TripL} (hb : Edge (fun j => decide (0 ≤ cmpK (l.getD j default) p f n)) l.length b) (he : Edge (fun j => decide (0 < cmpK (l.getD j default) p f n)) l.length e) :
    b ≤ e ∧ (l.drop b).take (e - b) = l.filter (fun x => decide (cmpK x p f n = 0)) := by
  obtain ⟨b0, b1, b2⟩ := hb
  obtain ⟨e0, e1, e2⟩ := he
  have hbe : b ≤ e := by
    refine Nat.not_lt.1 fun hlt => ?_
    have h1 := of_decide_eq_false (b1 e hlt)
    have h2 := of_decide_eq_true (e2 e (Nat.le_refl _) (by omega))
    omega
  refine ⟨hbe, ?_⟩
  have split : l = l.take b ++ ((l.drop b).take (e - b) ++ l.drop e) := by
    conv => lhs; rw [← List.take_append_drop b l, ← List.take_append_drop (e - b) (l.drop b), List.drop_drop, show b + (e - b) = e by omega]
  have getD : ∀ j (h : j < l.length), l.getD j default = l[j] := fun j h => by simp [List.getD, h]
  conv => rhs; rw [split, List.filter_append, List.filter_append]
  rw [List.filter_eq_nil_iff.2, List.filter_eq_self.2, List.filter_eq_nil_iff.2]
  · simp
  · intro x hx
    obtain ⟨j, hj, rfl⟩ := List.getElem_of_mem hx
    rw [List.length_drop] at hj
    rw [List.getElem_drop]
    have h2 := of_decide_eq_true (e2 (e + j) (by omega) (by omega))
    rw [getD _ (by omega)] at h2
    simp; omega
  · intro x hx
    obtain ⟨j, hj, rfl⟩ := List.getElem_of_mem hx
    rw [List.length_take, List.length_drop] at hj
    rw [List.getElem_take, List.getElem_drop]
    have h1 := of_decide_eq_true (b2 (b + j) (by omega) (by omega))
    have h2 := of_decide_eq_false (e1 (b + j) (by omega))
    rw [getD _ (by omega)] at h1 h2
    simp; omega
  · intro x hx
    obtain ⟨j, hj, rfl⟩ := List.getElem_of_mem hx
    rw [List.length_take] at hj
    rw [List.getElem_take]
    have h1 := of_decide_eq_false (b1 j (by omega))
    rw [getD _ (by omega)] at h1
    simp; omega
theorem edge_mono {P : Nat → Bool} {N k : Nat} (h : Edge P N k) : k ≤ N := h.1

/- what is found, in order -/
def le3 (x y : TripL) : Bool := !decide (tripCmp y x < 0)
theorem le3_iff {x y : TripL} : le3 x y = true ↔ cmpK x y 0 3 ≤ 0 := by
  unfold le3
  rw [← cmpK_trip]
  have := cmpK_anti x y 0 3
  simp; omega
theorem sorted_ord {M : List TripL} (h : M.Nodup) : Ord 0 (M.mergeSort le3) := by
  have p := List.pairwise_mergeSort (le := le3) (fun a b c h1 h2 => le3_iff.2 (cmpK_trans _ _ _ _ _ (le3_iff.1 h1) (le3_iff.1 h2))) (fun a b => by
    have := cmpK_anti a b 0 3
    by_cases hc : cmpK a b 0 3 ≤ 0
    · rw [le3_iff.2 hc]; rfl
    · rw [Bool.or_eq_true]; exact .inr (le3_iff.2 (by omega))) M
  have n : (M.mergeSort le3).Nodup := (List.mergeSort_perm M le3).nodup_iff.2 h
  refine (List.Pairwise.and p n).imp fun {a b} hab => ?_
  have h1 := le3_iff.1 hab.1
  by_cases h0 : cmpK a b 0 3 = 0
  · exact absurd (cmpK3_zero h0) hab.2
  · omega
theorem found_eq {f : Nat} {L lf : List TripL} {p : TripL} (hp : patB p = true) (h0 : Ord 0 L) (hf : Ord f lf) (hm : ∀ t, t ∈ lf ↔ t ∈ L) (hfe : f = (gv p 3).1) :
    ((lf.filter (fun x => decide (cmpK x p f (gv p 3).2 = 0))).filter (fun x => alikeB x p)).mergeSort le3 = L.filter (matchB p) := by
  refine ord_unique (sorted_ord ((List.Pairwise.sublist (List.filter_sublist.trans List.filter_sublist) hf.nodup))) (List.Pairwise.sublist List.filter_sublist h0) fun t => ?_
  rw [(List.mergeSort_perm _ _).mem_iff, List.mem_filter, List.mem_filter, List.mem_filter, hm, match_iff hp, Bool.and_eq_true, hfe, and_assoc]

/- where the variables stand first -/
def fpN (p : TripL) : Nat → List Nat
  | 0 => []
  | i + 1 => if (at3 p i).k = 4 ∧ ∀ j, j < i → at3 p j ≠ at3 p i then fpN p i ++ [i] else fpN p i
theorem fpN_length (p : TripL) (i : Nat) : (fpN p i).length ≤ i := by
  induction i with
  | zero => exact Nat.le_refl _
  | succ i ih =>
    unfold fpN
    split
    · simp; omega
    · omega
theorem fpN_lt (p : TripL) (i : Nat) : ∀ j ∈ fpN p i, j < i := by
  induction i with
  | zero => intro j hj; exact absurd hj List.not_mem_nil
  | succ i ih =>
    intro j hj
    unfold fpN at hj
    split at hj
    · rcases List.mem_append.1 hj with h | h
      · have := ih j h; omega
      · simp at h; omega
    · have := ih j hj; omega
def rowP (p t : TripL) : List TermL := (fpN p 3).map (at3 t)
/- the document's words -/
def atName (p t : TripL) (name : List UInt8) : TermL := if p.s.k = 4 ∧ p.s.x = name then t.s else if p.p.k = 4 ∧ p.p.x = name then t.p else t.o

theorem fpN3 (p : TripL) : fpN p 3 = (if p.s.k = 4 then [0] else []) ++ ((if p.p.k = 4 ∧ p.s ≠ p.p then [1] else []) ++ (if p.o.k = 4 ∧ p.s ≠ p.o ∧ p.p ≠ p.o then [2] else [])) := by
  obtain ⟨a, b, c⟩ := p
  have e0 : fpN ⟨a, b, c⟩ 1 = if a.k = 4 then [0] else [] := by
    unfold fpN; unfold fpN; simp [at3]
  have e1 : fpN ⟨a, b, c⟩ 2 = (if a.k = 4 then [0] else []) ++ (if b.k = 4 ∧ a ≠ b then [1] else []) := by
    rw [← e0]; conv => lhs; unfold fpN
    simp only [all_one, at3, if_true, Nat.one_ne_zero, if_false]
    by_cases h : b.k = 4 ∧ a ≠ b
    · rw [if_pos h, if_pos h]
    · rw [if_neg h, if_neg h, List.append_nil]
  rw [← List.append_assoc]
  dsimp only
  rw [← e1]
  conv => lhs; unfold fpN
  simp only [all_two, at3, if_true, Nat.one_ne_zero, if_false]
  by_cases h : c.k = 4 ∧ a ≠ c ∧ b ≠ c
  · rw [if_pos h, if_pos (by simpa using h)]
  · rw [if_neg h, if_neg (by simpa using h), List.append_nil]
theorem var_eq' {a b : TermL} (ha : a.k = 4) (hb : b.k = 4) (h1 : a.k = 4 → a.y = [] ∧ a.z = []) (h2 : b.k = 4 → b.y = [] ∧ b.z = []) : a ≠ b ↔ ¬ a.x = b.x := not_congr (var_eq ha hb h1 h2)

theorem row_eq {p : TripL} (hp : patB p = true) (t : TripL) : rowP p t = (varsL p).map (atName p t) := by
  obtain ⟨v0, v1, v2⟩ := pat_vars hp
  unfold rowP
  rw [fpN3]
  obtain ⟨⟨ak, ax, ay, az⟩, ⟨bk, bx, by', bz⟩, ⟨ck, cx, cy, cz⟩⟩ := p
  obtain ⟨x, y, z⟩ := t
  dsimp only at v0 v1 v2 ⊢
  unfold varsL moreL
  dsimp only
  by_cases h0 : ak = 4
  · obtain ⟨rfl, rfl⟩ := v0 h0
    subst h0
    by_cases h1 : bk = 4
    · obtain ⟨rfl, rfl⟩ := v1 h1
      subst h1
      by_cases h2 : ck = 4
      · obtain ⟨rfl, rfl⟩ := v2 h2
        subst h2
        by_cases e01 : ax = bx
        · subst e01
          by_cases e02 : ax = cx
          · subst e02; simp [at3, atName]
          · have e20 : ¬ cx = ax := fun c => e02 c.symm
            simp [at3, atName, e02, e20]
        · have e10 : ¬ bx = ax := fun c => e01 c.symm
          by_cases e02 : ax = cx
          · subst e02; simp [at3, atName, e01, e10]
          · have e20 : ¬ cx = ax := fun c => e02 c.symm
            by_cases e12 : bx = cx
            · subst e12; simp [at3, atName, e01, e10]
            · have e21 : ¬ cx = bx := fun c => e12 c.symm
              simp [at3, atName, e01, e10, e02, e20, e12, e21]
      · by_cases e01 : ax = bx
        · subst e01; simp [at3, atName, h2]
        · have e10 : ¬ bx = ax := fun c => e01 c.symm
          simp [at3, atName, h2, e01, e10]
    · by_cases h2 : ck = 4
      · obtain ⟨rfl, rfl⟩ := v2 h2
        subst h2
        by_cases e02 : ax = cx
        · subst e02; simp [at3, atName, h1]
        · have e20 : ¬ cx = ax := fun c => e02 c.symm
          simp [at3, atName, h1, e02, e20]
      · simp [at3, atName, h1, h2]
  · by_cases h1 : bk = 4
    · obtain ⟨rfl, rfl⟩ := v1 h1
      subst h1
      by_cases h2 : ck = 4
      · obtain ⟨rfl, rfl⟩ := v2 h2
        subst h2
        by_cases e12 : bx = cx
        · subst e12; simp [at3, atName, h0]
        · have e21 : ¬ cx = bx := fun c => e12 c.symm
          simp [at3, atName, h0, e12, e21]
      · simp [at3, atName, h0, h2]
    · by_cases h2 : ck = 4
      · obtain ⟨rfl, rfl⟩ := v2 h2
        subst h2
        simp [at3, atName, h0, h1]
      · simp [h0, h1, h2]

end Go.Proofs.YtnojdchodmogbaaGreat
