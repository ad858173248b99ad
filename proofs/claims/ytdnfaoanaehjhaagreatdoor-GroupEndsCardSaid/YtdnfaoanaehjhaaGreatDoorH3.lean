/- EvalOf, TermOrderPlain, ShpPlain, ShpSort, TripPlain, put together. -/
import Derived.Test.YtdnfaoanaehjhaaGreatDoorH2
import Derived.Test.YtdnfaoanaehjhaaGreatDoorH1
import Derived.Lib.Bytealg

/- What number a literal is (no program): a text that has one is a right literal's text; so whether the term is right says nothing more. -/
namespace Go.Proofs.YtdnfaoanaehjhaaGreatDoor

theorem made_no {v : Int} {s : Nat} {d : Bool} (h : (Nm.madeL v s d).2 = false) : Nm.madeL v s d = (Nm.noNum, false) := by
  unfold Nm.madeL at h ⊢
  split at h
  · cases h
  · rename_i g; rw [if_neg g]
theorem cutZ_le (v : Int) (s : Nat) : (Nm.cutZ v s).2 ≤ 4 := Nat.le_trans (Nm.strip_le _ _) (Nat.min_le_right _ _)
theorem read_no {l : List UInt8} {d : Bool} (h : (Nm.readL l d).2 = false) : Nm.readL l d = (Nm.noNum, false) := by
  unfold Nm.readL Nm.readB at h ⊢
  split at h
  · rename_i k; rw [if_pos k]
  · rename_i k
    rw [if_neg k]
    split at h
    · rename_i k; rw [if_pos k]
    · rename_i k
      rw [if_neg k]
      split at h
      · rename_i k; rw [if_pos k]
      · rename_i k; rw [if_neg k]; exact made_no h
theorem of_no {t : TermL} (h : (ofP t).2 = false) : ofP t = (Nm.noNum, false) := by
  unfold ofP at h ⊢
  split
  · rename_i k
    rw [if_pos k] at h
    split
    · rename_i k; rw [if_pos k] at h; exact read_no h
    · rename_i k2
      rw [if_neg k2] at h
      split
      · rename_i k; rw [if_pos k] at h; exact read_no h
      · rfl
  · rfl

/- the bytes of a text that has a number -/
theorem amt_digits : ∀ (l : List UInt8) (a : Int), (Nm.amt13 a l).2 = true → ∀ c ∈ l, Nm.digitB c = true
  | [], _, _, _, h => absurd h List.not_mem_nil
  | b :: r, a, h, c, hc => by
    unfold Nm.amt13 at h
    by_cases hd : Nm.digitB b = true
    · rw [if_pos hd] at h
      rcases List.mem_cons.1 hc with rfl | hc
      · exact hd
      · exact amt_digits r _ h c hc
    · rw [if_neg hd] at h; cases h
theorem dots_mem : ∀ (l : List UInt8) (c : UInt8), c ∈ l → c = 46 ∨ c ∈ Nm.dotAhead l ++ Nm.dotBehind l
  | [], _, h => absurd h List.not_mem_nil
  | b :: r, c, hc => by
    unfold Nm.dotAhead Nm.dotBehind
    by_cases h : b = 46
    · rw [if_pos h, if_pos h]
      rcases List.mem_cons.1 hc with rfl | hc
      · exact .inl h
      · exact .inr (by simpa using hc)
    · rw [if_neg h, if_neg h]
      rcases List.mem_cons.1 hc with rfl | hc
      · exact .inr (by simp)
      · rcases dots_mem r c hc with h | h
        · exact .inl h
        · exact .inr (List.mem_cons_of_mem _ h)
theorem dots_len : ∀ (l : List UInt8), l.length ≤ (Nm.dotAhead l).length + (Nm.dotBehind l).length + 1
  | [] => by simp
  | b :: r => by
    unfold Nm.dotAhead Nm.dotBehind
    by_cases h : b = 46
    · rw [if_pos h, if_pos h]; simp
    · rw [if_neg h, if_neg h]
      have := dots_len r
      simp only [List.length_cons]
      omega
theorem unsigned_mem : ∀ (l : List UInt8) (c : UInt8), c ∈ l → c = 45 ∨ c = 43 ∨ c ∈ Nm.unsigned l
  | [], _, h => absurd h List.not_mem_nil
  | b :: r, c, hc => by
    show c = 45 ∨ c = 43 ∨ c ∈ (if b = 45 then r else if b = 43 then r else b :: r)
    by_cases h : b = 45
    · rw [if_pos h]
      rcases List.mem_cons.1 hc with rfl | hc
      · exact .inl h
      · exact .inr (.inr hc)
    · rw [if_neg h]
      by_cases h : b = 43
      · rw [if_pos h]
        rcases List.mem_cons.1 hc with rfl | hc
        · exact .inr (.inl h)
        · exact .inr (.inr hc)
      · rw [if_neg h]; exact .inr (.inr hc)
theorem unsigned_len (l : List UInt8) : l.length ≤ (Nm.unsigned l).length + 1 := by
  unfold Nm.unsigned
  split
  · simp
  · split
    · simp
    · split <;> simp
theorem digit_lit {c : UInt8} (h : Nm.digitB c = true) : litZ (c.toNat : Int) = true := by
  unfold Nm.digitB at h
  unfold litZ
  simp only [decide_eq_true_eq] at h
  simp only [Bool.or_eq_true, decide_eq_true_eq]
  omega
theorem read_lit {l : List UInt8} {d : Bool} (h : (Nm.readL l d).2 = true) : litL l = true := by
  unfold Nm.readL Nm.readB at h
  split at h
  · cases h
  split at h
  · cases h
  rename_i hc
  split at h
  · cases h
  rename_i ha
  replace hc : Nm.countZ (Nm.dotAhead (Nm.unsigned l)).length (Nm.dotBehind (Nm.unsigned l)).length d = true := by simpa using hc
  replace ha : (Nm.amt13 0 (Nm.dotAhead (Nm.unsigned l) ++ Nm.dotBehind (Nm.unsigned l))).2 = true := by simpa using ha
  have h13 : ((Nm.dotAhead (Nm.unsigned l)).length : Int) + (Nm.dotBehind (Nm.unsigned l)).length ≤ 13 := by
    unfold Nm.countZ at hc
    simp at hc
    exact hc.1
  have l1 := unsigned_len l
  have l2 := dots_len (Nm.unsigned l)
  unfold litL
  simp only [Bool.and_eq_true, decide_eq_true_eq, List.all_eq_true]
  refine ⟨by omega, fun c hm => ?_⟩
  rcases unsigned_mem l c hm with h | h | h
  · subst h; rfl
  · subst h; rfl
  · rcases dots_mem _ c h with h | h
    · subst h; rfl
    · exact digit_lit (amt_digits _ _ ha c h)

/- what the program asks: is the term right, and what is its type -/
def ofQ (t : TermL) : Nm.NumL × Bool :=
  if rightL t.k t.x t.y t.z = true then (if t.y = tyIL then Nm.readL t.x false else if t.y = tyDL then Nm.readL t.x true else (Nm.noNum, false)) else (Nm.noNum, false)
theorem right_typed {k : Int} {x y z : List UInt8} (hy : y ≠ []) (h : rightL k x y z = true) : k = 2 ∧ z = [] := by
  have hb : bareL y z = false := by
    unfold bareL
    cases y with
    | nil => exact absurd rfl hy
    | cons a r => rfl
  unfold rightL at h
  split at h
  · rw [hb] at h; cases h
  split at h
  · rw [hb] at h; cases h
  split at h
  · rename_i hk
    refine ⟨hk, ?_⟩
    unfold tagL at h
    cases z with
    | nil => rfl
    | cons a r =>
      cases y with
      | nil => exact absurd rfl hy
      | cons b s => simp at h
  · rw [hb] at h; simp at h
theorem lit_right {x y : List UInt8} (hy : y = tyIL ∨ y = tyDL) : rightL 2 x y [] = litL x := by
  unfold rightL
  rw [if_neg (by decide), if_neg (by decide), if_pos rfl]
  have : tagL y [] = true := by
    rcases hy with rfl | rfl
    · decide
    · decide
  rw [this, Bool.and_true]
theorem of_is (t : TermL) : ofQ t = ofP t := by
  obtain ⟨k, x, y, z⟩ := t
  unfold ofQ ofP
  dsimp only
  by_cases hy : y = tyIL ∨ y = tyDL
  · have hne : y ≠ [] := by rcases hy with rfl | rfl <;> decide
    by_cases hc : k = 2 ∧ z = []
    · obtain ⟨rfl, rfl⟩ := hc
      rw [if_pos (show (2 : Int) = 2 ∧ ([] : List UInt8) = [] from ⟨rfl, rfl⟩), lit_right hy]
      by_cases hl : litL x = true
      · rw [if_pos hl]
      · rw [if_neg hl]
        have hno : ∀ d, Nm.readL x d = (Nm.noNum, false) := fun d => read_no (by
          cases h : (Nm.readL x d).2 with
          | false => rfl
          | true => exact absurd (read_lit h) hl)
        rw [hno, hno]
        split
        · rfl
        · split <;> rfl
    · rw [if_neg hc, if_neg (fun h => hc (right_typed hne h))]
  · have h1 : ¬ y = tyIL := fun h => hy (.inl h)
    have h2 : ¬ y = tyDL := fun h => hy (.inr h)
    rw [if_neg h1, if_neg h2]
    split <;> split <;> rfl

/- a number that was made, or read, is right -/
theorem strip_right : ∀ (k : Nat) (v : Int), (Nm.strip k v).2 = 0 ∨ (Nm.strip k v).1.tmod 10 ≠ 0
  | 0, _ => .inl rfl
  | k + 1, v => by
    unfold Nm.strip
    split
    · exact strip_right k _
    · rename_i h; exact .inr h
/- what every contract on numbers asks -/
structure NumR (n : Nm.NumL) : Prop where
  s : ∃ j : Nat, n.s = j ∧ j ≤ 4
  lo : -999999999 ≤ n.v
  hi : n.v ≤ 999999999
  r : Nm.rightZ n.v n.s n.d = true
theorem made_numR {v : Int} {s : Nat} {d : Bool} (hd : d = false → s = 0) (h : (Nm.madeL v s d).2 = true) : NumR (Nm.madeL v s d).1 := by
  unfold Nm.madeL at h ⊢
  split at h
  · rename_i hb
    rw [if_pos hb]
    have hb2 : -999999999 ≤ (Nm.cutZ v s).1 ∧ (Nm.cutZ v s).1 ≤ 999999999 := by simpa [Nm.boundZ] using hb
    refine ⟨⟨_, rfl, cutZ_le v s⟩, hb2.1, hb2.2, ?_⟩
    rw [Nm.rightZ_iff]
    refine ⟨hb2, ⟨by dsimp only; omega, by have := cutZ_le v s; dsimp only; omega⟩, ?_⟩
    dsimp only
    cases d with
    | true =>
      rcases strip_right (min s 4) (v.tdiv (Nm.ten (s - 4))) with h | h
      · exact .inl (by show (((Nm.strip _ _).2 : Nat) : Int) = 0; rw [h]; rfl)
      · exact .inr ⟨rfl, h⟩
    | false =>
      obtain rfl := hd rfl
      exact .inl rfl
  · cases h
theorem read_numR {l : List UInt8} {d : Bool} (h : (Nm.readL l d).2 = true) : NumR (Nm.readL l d).1 := by
  unfold Nm.readL Nm.readB at h ⊢
  split at h
  · cases h
  rename_i k
  rw [if_neg k]
  split at h
  · cases h
  rename_i k1
  rw [if_neg k1]
  split at h
  · cases h
  rename_i k2
  rw [if_neg k2]
  refine made_numR (fun hd => ?_) h
  subst hd
  rcases Nm.dot_cases (Nm.unsigned l) with ⟨k3, _⟩ | ⟨_, _, _, k3⟩
  · rw [k3] at k; simp at k
  · rw [k3]; rfl
theorem of_numR {t : TermL} (h : (ofP t).2 = true) : NumR (ofP t).1 := by
  unfold ofP at h ⊢
  split
  · rename_i k
    rw [if_pos k] at h
    split
    · rename_i k; rw [if_pos k] at h; exact read_numR h
    · rename_i k2
      rw [if_neg k2] at h
      split
      · rename_i k; rw [if_pos k] at h; exact read_numR h
      · rename_i k3; rw [if_neg k3] at h; cases h
  · rename_i k; rw [if_neg k] at h; cases h

end Go.Proofs.YtdnfaoanaehjhaaGreatDoor

/- The order of terms as a plain function on bytes, and that it is an order (no program). -/
namespace Go.Proofs.YtdnfaoanaehjhaaGreatDoor
open Go.Lib (compareBytes)

theorem cb_range : ∀ a b : List UInt8, compareBytes a b = -1 ∨ compareBytes a b = 0 ∨ compareBytes a b = 1
  | [], [] => by simp [compareBytes]
  | [], _ :: _ => by simp [compareBytes]
  | _ :: _, [] => by simp [compareBytes]
  | a :: ar, b :: bs => by
    have := cb_range ar bs
    simp only [compareBytes]
    by_cases h1 : a < b
    · simp [h1]
    · by_cases h2 : b < a <;> simp [h1, h2, this]

theorem cb_zero : ∀ a b : List UInt8, compareBytes a b = 0 ↔ a = b
  | [], [] => by simp [compareBytes]
  | [], _ :: _ => by simp [compareBytes]
  | _ :: _, [] => by simp [compareBytes]
  | a :: ar, b :: bs => by
    have := cb_zero ar bs
    simp only [compareBytes, List.cons.injEq]
    split
    · rename_i h; simp; intro e; subst e; exact absurd h (UInt8.lt_irrefl a)
    · split
      · rename_i h; simp; intro e; subst e; exact absurd h (UInt8.lt_irrefl a)
      · rename_i h1 h2
        have e : a = b := UInt8.le_antisymm (UInt8.not_lt.1 h2) (UInt8.not_lt.1 h1)
        simp [e, this]

theorem cb_anti : ∀ a b : List UInt8, compareBytes b a = - compareBytes a b
  | [], [] => by simp [compareBytes]
  | [], _ :: _ => by simp [compareBytes]
  | _ :: _, [] => by simp [compareBytes]
  | a :: ar, b :: bs => by
    have := cb_anti ar bs
    simp only [compareBytes]
    by_cases h1 : a < b
    · have h2 : ¬ b < a := UInt8.not_lt.2 (UInt8.le_of_lt h1)
      simp [h1, h2]
    · by_cases h2 : b < a <;> simp [h1, h2, this]

theorem cb_trans : ∀ a b c : List UInt8, compareBytes a b ≤ 0 → compareBytes b c ≤ 0 → compareBytes a c ≤ 0
  | [], _, [] => by simp [compareBytes]
  | [], _, _ :: _ => by simp [compareBytes]
  | _ :: _, [], _ => by simp [compareBytes]
  | _ :: _, _ :: _, [] => by simp [compareBytes]
  | a :: ar, b :: bs, c :: cs => by
    have ih := cb_trans ar bs cs
    simp only [compareBytes]
    by_cases h1 : a < b
    · by_cases h2 : b < c
      · simp [h1, h2, UInt8.lt_trans h1 h2]
      · by_cases h3 : c < b
        · simp [h2, h3]
        · have e : b = c := UInt8.le_antisymm (UInt8.not_lt.1 h3) (UInt8.not_lt.1 h2)
          subst e; simp [h1]
    · by_cases h2 : b < a
      · simp [h1, h2]
      · have e : a = b := UInt8.le_antisymm (UInt8.not_lt.1 h2) (UInt8.not_lt.1 h1)
        subst e
        by_cases h3 : a < c
        · simp [h3]
        · by_cases h4 : c < a
          · simp [h3, h4]
          · simpa [h3, h4, h1] using ih

/- the order of terms: by kind, text, type, language -/
def termCmp (k : Int) (x y z : List UInt8) (k' : Int) (x' y' z' : List UInt8) : Int :=
  if k < k' then -1 else if k' < k then 1 else if compareBytes x x' ≠ 0 then compareBytes x x' else if compareBytes y y' ≠ 0 then compareBytes y y' else compareBytes z z'

theorem tc_range (k : Int) (x y z : List UInt8) (k' : Int) (x' y' z' : List UInt8) : termCmp k x y z k' x' y' z' = -1 ∨ termCmp k x y z k' x' y' z' = 0 ∨ termCmp k x y z k' x' y' z' = 1 := by
  have h1 := cb_range x x'; have h2 := cb_range y y'; have h3 := cb_range z z'
  unfold termCmp
  repeat' split
  all_goals first | omega | assumption | simp

theorem tc_zero (k : Int) (x y z : List UInt8) (k' : Int) (x' y' z' : List UInt8) : termCmp k x y z k' x' y' z' = 0 ↔ k = k' ∧ x = x' ∧ y = y' ∧ z = z' := by
  rw [← cb_zero x x', ← cb_zero y y', ← cb_zero z z']
  unfold termCmp
  repeat' split
  all_goals omega

theorem tc_anti (k : Int) (x y z : List UInt8) (k' : Int) (x' y' z' : List UInt8) : termCmp k' x' y' z' k x y z = - termCmp k x y z k' x' y' z' := by
  have h1 := cb_anti x x'; have h2 := cb_anti y y'; have h3 := cb_anti z z'
  unfold termCmp
  repeat' split
  all_goals omega

theorem tc_trans (k : Int) (x y z : List UInt8) (k' : Int) (x' y' z' : List UInt8) (k'' : Int) (x'' y'' z'' : List UInt8) (h : termCmp k x y z k' x' y' z' ≤ 0) (g : termCmp k' x' y' z' k'' x'' y'' z'' ≤ 0) : termCmp k x y z k'' x'' y'' z'' ≤ 0 := by
  have a1 := cb_trans x x' x''; have a2 := cb_trans y y' y''; have a3 := cb_trans z z' z''
  have b1 := cb_trans x' x'' x; have b2 := cb_trans y' y'' y; have b3 := cb_trans z' z'' z
  have c1 := cb_trans x'' x x'; have c2 := cb_trans y'' y y'; have c3 := cb_trans z'' z z'
  have d1 := cb_anti x x'; have d2 := cb_anti y y'; have d3 := cb_anti z z'
  have e1 := cb_anti x' x''; have e2 := cb_anti y' y''; have e3 := cb_anti z' z''
  have f1 := cb_anti x x''; have f2 := cb_anti y y''; have f3 := cb_anti z z''
  unfold termCmp at *
  repeat' split at h
  all_goals repeat' split at g
  all_goals repeat' split
  all_goals omega

end Go.Proofs.YtdnfaoanaehjhaaGreatDoor

/- The order of values and of rows, in plain words (no program): that it is one; ranks of columns, each once. -/
namespace Go.Proofs.YtdnfaoanaehjhaaGreatDoor

theorem cmpZ_anti (a b : Int) : cmpZ b a = - cmpZ a b := by
  unfold cmpZ
  repeat' split
  all_goals omega
theorem cmpZ_range (a b : Int) : cmpZ a b = -1 ∨ cmpZ a b = 0 ∨ cmpZ a b = 1 := by
  unfold cmpZ
  repeat' split
  all_goals omega
theorem cmpZ_zero (a b : Int) : cmpZ a b = 0 ↔ a = b := by
  unfold cmpZ
  repeat' split
  all_goals omega
theorem cmpZ_le (a b : Int) : cmpZ a b ≤ 0 ↔ a ≤ b := by
  unfold cmpZ
  repeat' split
  all_goals omega

/- the order of terms -/
def tcmp (a b : TermL) : Int := termCmp a.k a.x a.y a.z b.k b.x b.y b.z
theorem tcmp_range (a b : TermL) : tcmp a b = -1 ∨ tcmp a b = 0 ∨ tcmp a b = 1 := tc_range _ _ _ _ _ _ _ _
theorem tcmp_anti (a b : TermL) : tcmp b a = - tcmp a b := tc_anti _ _ _ _ _ _ _ _
theorem tcmp_zero (a b : TermL) : tcmp a b = 0 ↔ a = b := by
  unfold tcmp
  rw [tc_zero]
  constructor
  · rintro ⟨h1, h2, h3, h4⟩
    cases a; cases b
    simp_all
  · rintro rfl; exact ⟨rfl, rfl, rfl, rfl⟩
theorem tcmp_trans (a b c : TermL) (h1 : tcmp a b ≤ 0) (h2 : tcmp b c ≤ 0) : tcmp a c ≤ 0 := tc_trans _ _ _ _ _ _ _ _ _ _ _ _ h1 h2

/- the order of values -/
def sortP (t : TermL) : Int := if t.k = 0 then 0 else if t.k = 3 then 1 else if t.k = 1 then 2 else if (ofP t).2 = true then 3 else 4
def amtP (t : TermL) : Int := amtZ (ofP t).1.v (ofP t).1.s.toNat
def valP (a b : TermL) : Int :=
  if sortP a ≠ sortP b then cmpZ (sortP a) (sortP b) else if sortP a = 3 ∧ cmpZ (amtP a) (amtP b) ≠ 0 then cmpZ (amtP a) (amtP b) else tcmp a b
theorem valP_range (a b : TermL) : valP a b = -1 ∨ valP a b = 0 ∨ valP a b = 1 := by
  unfold valP
  split
  · exact cmpZ_range _ _
  · split
    · exact cmpZ_range _ _
    · exact tcmp_range _ _
theorem valP_anti (a b : TermL) : valP b a = - valP a b := by
  unfold valP
  by_cases h : sortP a = sortP b
  · rw [if_neg (show ¬ (sortP b ≠ sortP a) from fun c => c h.symm), if_neg (show ¬ (sortP a ≠ sortP b) from fun c => c h), cmpZ_anti (amtP a) (amtP b), h]
    by_cases h2 : sortP b = 3 ∧ cmpZ (amtP a) (amtP b) ≠ 0
    · rw [if_pos ⟨h2.1, by have := h2.2; omega⟩, if_pos h2]
    · rw [if_neg (fun c => h2 ⟨c.1, by have := c.2; omega⟩), if_neg h2, tcmp_anti]
  · rw [if_pos (fun c => h c.symm), if_pos h, cmpZ_anti]
theorem valP_zero (a b : TermL) : valP a b = 0 ↔ a = b := by
  constructor
  · intro h
    unfold valP at h
    split at h
    · rename_i k; exact absurd ((cmpZ_zero _ _).1 h) k
    · split at h
      · rename_i k; exact absurd h k.2
      · exact (tcmp_zero _ _).1 h
  · rintro rfl
    unfold valP
    rw [if_neg (by simp), if_neg (fun c => c.2 ((cmpZ_zero _ _).2 rfl))]
    exact (tcmp_zero _ _).2 rfl
theorem valP_self (a : TermL) : valP a a = 0 := (valP_zero a a).2 rfl
theorem valP_trans (a b c : TermL) (h1 : valP a b ≤ 0) (h2 : valP b c ≤ 0) : valP a c ≤ 0 := by
  unfold valP at *
  by_cases s1 : sortP a = sortP b
  · rw [if_neg (by simp [s1])] at h1
    by_cases s2 : sortP b = sortP c
    · rw [if_neg (by simp [s2])] at h2
      rw [if_neg (by simp [s1, s2])]
      rw [s1] at h1 ⊢
      by_cases k3 : sortP b = 3
      · by_cases e1 : amtP a = amtP b
        · rw [if_neg (fun c => c.2 ((cmpZ_zero _ _).2 e1))] at h1
          rw [e1]
          by_cases e2 : amtP b = amtP c
          · rw [if_neg (fun c => c.2 ((cmpZ_zero _ _).2 e2))] at h2
            rw [if_neg (fun c => c.2 ((cmpZ_zero _ _).2 e2))]
            exact tcmp_trans _ _ _ h1 h2
          · rw [if_pos ⟨k3, fun c => e2 ((cmpZ_zero _ _).1 c)⟩] at h2
            rw [if_pos ⟨k3, fun c => e2 ((cmpZ_zero _ _).1 c)⟩]
            exact h2
        · rw [if_pos ⟨k3, fun c => e1 ((cmpZ_zero _ _).1 c)⟩] at h1
          have l1 := (cmpZ_le _ _).1 h1
          have l2 : amtP b ≤ amtP c := by
            by_cases e2 : amtP b = amtP c
            · omega
            · rw [if_pos ⟨k3, fun c => e2 ((cmpZ_zero _ _).1 c)⟩] at h2
              exact (cmpZ_le _ _).1 h2
          rw [if_pos ⟨k3, fun c => by have := (cmpZ_zero _ _).1 c; omega⟩]
          exact (cmpZ_le _ _).2 (by omega)
      · rw [if_neg (fun c => k3 c.1)] at h1 h2 ⊢
        exact tcmp_trans _ _ _ h1 h2
    · rw [if_pos s2] at h2
      rw [s1, if_pos s2]; exact h2
  · rw [if_pos s1] at h1
    have l1 := (cmpZ_le _ _).1 h1
    have l2 : sortP b ≤ sortP c := by
      by_cases s2 : sortP b = sortP c
      · omega
      · rw [if_pos s2] at h2; exact (cmpZ_le _ _).1 h2
    rw [if_pos (show sortP a ≠ sortP c by omega)]
    exact (cmpZ_le _ _).2 (by omega)

/- rows held against each other by columns -/
def nilT : TermL := ⟨0, [], [], []⟩
def turnZ (d : Bool) (n : Int) : Int := if d then - n else n
def rowP : List (Nat × Bool) → List TermL → List TermL → Int
  | [], _, _ => 0
  | x :: r, a, b => if valP (a.getD x.1 nilT) (b.getD x.1 nilT) = 0 then rowP r a b else turnZ x.2 (valP (a.getD x.1 nilT) (b.getD x.1 nilT))
theorem turn_zero {d : Bool} {n : Int} : turnZ d n = 0 ↔ n = 0 := by cases d <;> simp [turnZ]
theorem turn_range {d : Bool} {n : Int} (h : n = -1 ∨ n = 0 ∨ n = 1) : turnZ d n = -1 ∨ turnZ d n = 0 ∨ turnZ d n = 1 := by
  cases d <;> simp only [turnZ, if_true, if_false, Bool.false_eq_true] <;> omega
theorem turn_neg (d : Bool) (n : Int) : turnZ d (- n) = - turnZ d n := by cases d <;> simp [turnZ]
theorem rowP_nil (a b : List TermL) : rowP [] a b = 0 := rfl
theorem rowP_cons (x : Nat × Bool) (r : List (Nat × Bool)) (a b : List TermL) : rowP (x :: r) a b = if valP (a.getD x.1 nilT) (b.getD x.1 nilT) = 0 then rowP r a b else turnZ x.2 (valP (a.getD x.1 nilT) (b.getD x.1 nilT)) := rfl
theorem rowP_self (l : List (Nat × Bool)) (a : List TermL) : rowP l a a = 0 := by
  induction l with
  | nil => rfl
  | cons x r ih => rw [rowP_cons, valP_self, if_pos rfl, ih]
theorem rowP_range (l : List (Nat × Bool)) (a b : List TermL) : rowP l a b = -1 ∨ rowP l a b = 0 ∨ rowP l a b = 1 := by
  induction l with
  | nil => exact .inr (.inl rfl)
  | cons x r ih =>
    rw [rowP_cons]
    split
    · exact ih
    · exact turn_range (valP_range _ _)
theorem rowP_anti (l : List (Nat × Bool)) (a b : List TermL) : rowP l b a = - rowP l a b := by
  induction l with
  | nil => rfl
  | cons x r ih =>
    rw [rowP_cons, rowP_cons, valP_anti (a.getD x.1 nilT) (b.getD x.1 nilT), ih, turn_neg]
    by_cases h : valP (a.getD x.1 nilT) (b.getD x.1 nilT) = 0
    · rw [if_pos (by omega), if_pos h]
    · rw [if_neg (by omega), if_neg h]
theorem rowP_zero {l : List (Nat × Bool)} {a b : List TermL} : rowP l a b = 0 ↔ ∀ x ∈ l, a.getD x.1 nilT = b.getD x.1 nilT := by
  induction l with
  | nil => exact ⟨fun _ x hx => absurd hx List.not_mem_nil, fun _ => rfl⟩
  | cons x r ih =>
    rw [rowP_cons]
    by_cases h : valP (a.getD x.1 nilT) (b.getD x.1 nilT) = 0
    · rw [if_pos h, ih]
      have e := (valP_zero _ _).1 h
      exact ⟨fun k y hy => by
        rcases List.mem_cons.1 hy with rfl | hy
        · exact e
        · exact k y hy, fun k y hy => k y (List.mem_cons_of_mem _ hy)⟩
    · rw [if_neg h]
      constructor
      · intro k; exact absurd (turn_zero.1 k) h
      · intro k; exact absurd ((valP_zero _ _).2 (k x List.mem_cons_self)) h
theorem turn_le {d : Bool} {a b c : TermL} (h1 : turnZ d (valP a b) ≤ 0) (h2 : turnZ d (valP b c) ≤ 0) : turnZ d (valP a c) ≤ 0 := by
  have t1 := valP_trans a b c
  have t2 := valP_trans c b a
  have a1 := valP_anti a b
  have a2 := valP_anti b c
  have a3 := valP_anti a c
  cases d
  · simp only [turnZ, if_false, Bool.false_eq_true] at *; exact t1 h1 h2
  · simp only [turnZ, if_true] at *
    have := t2 (by omega) (by omega)
    omega
theorem rowP_trans (l : List (Nat × Bool)) (a b c : List TermL) (h1 : rowP l a b ≤ 0) (h2 : rowP l b c ≤ 0) : rowP l a c ≤ 0 := by
  induction l with
  | nil => exact Int.le_refl _
  | cons x r ih =>
    rw [rowP_cons] at *
    generalize a.getD x.1 nilT = ta at *
    generalize b.getD x.1 nilT = tb at *
    generalize c.getD x.1 nilT = tc at *
    by_cases e1 : ta = tb
    · subst e1
      rw [valP_self, if_pos rfl] at h1
      by_cases e2 : ta = tc
      · subst e2
        rw [valP_self, if_pos rfl] at h2 ⊢
        exact ih h1 h2
      · have z : ¬ valP ta tc = 0 := fun k => e2 ((valP_zero _ _).1 k)
        rw [if_neg z] at h2 ⊢
        exact h2
    · have z : ¬ valP ta tb = 0 := fun k => e1 ((valP_zero _ _).1 k)
      rw [if_neg z] at h1
      by_cases e2 : tb = tc
      · subst e2; rw [if_neg z]; exact h1
      · have z2 : ¬ valP tb tc = 0 := fun k => e2 ((valP_zero _ _).1 k)
        rw [if_neg z2] at h2
        have h3 := turn_le h1 h2
        by_cases z3 : valP ta tc = 0
        · have := (valP_zero _ _).1 z3
          subst this
          exfalso
          rw [valP_anti ta tb, turn_neg] at h2
          have q : turnZ x.2 (valP ta tb) = 0 := by omega
          exact z (turn_zero.1 q)
        · rw [if_neg z3]; exact h3

/- of columns that come twice the first one alone -/
theorem snoc_ind {α : Type} {P : List α → Prop} (h0 : P []) (h1 : ∀ l x, P l → P (l ++ [x])) (l : List α) : P l := by
  have : ∀ r : List α, P r.reverse := fun r => by
    induction r with
    | nil => exact h0
    | cons x r ih => rw [List.reverse_cons]; exact h1 _ _ ih
  have h := this l.reverse
  rwa [List.reverse_reverse] at h
def onceC (l : List (Nat × Bool)) : List (Nat × Bool) := l.foldl (fun m x => if x.1 ∈ m.map (·.1) then m else m ++ [x]) []
theorem once_snoc (l : List (Nat × Bool)) (x : Nat × Bool) : onceC (l ++ [x]) = if x.1 ∈ (onceC l).map (·.1) then onceC l else onceC l ++ [x] := by unfold onceC; rw [List.foldl_append]; rfl
theorem once_cols (l : List (Nat × Bool)) (c : Nat) : c ∈ (onceC l).map (·.1) ↔ c ∈ l.map (·.1) := by
  refine snoc_ind (P := fun l => c ∈ (onceC l).map (·.1) ↔ c ∈ l.map (·.1)) Iff.rfl (fun r x ih => ?_) l
  rw [once_snoc]
  split
  · rename_i h
    rw [ih, List.map_append, List.mem_append]
    constructor
    · intro k; exact .inl k
    · rintro (k | k)
      · exact k
      · have e : c = x.1 := by simpa using k
        rw [← e] at h
        exact ih.1 h
  · rw [List.map_append, List.mem_append, List.map_append, List.mem_append, ih]
theorem rowP_app (l r : List (Nat × Bool)) (a b : List TermL) : rowP (l ++ r) a b = if rowP l a b = 0 then rowP r a b else rowP l a b := by
  induction l with
  | nil => rfl
  | cons x l ih =>
    rw [List.cons_append, rowP_cons, rowP_cons, ih]
    by_cases h : valP (a.getD x.1 nilT) (b.getD x.1 nilT) = 0
    · rw [if_pos h, if_pos h]
    · rw [if_neg h, if_neg h, if_neg (fun k => h (turn_zero.1 k))]
theorem rowP_once (l : List (Nat × Bool)) (a b : List TermL) : rowP (onceC l) a b = rowP l a b := by
  refine snoc_ind (P := fun l => rowP (onceC l) a b = rowP l a b) rfl (fun r x ih => ?_) l
  rw [once_snoc, rowP_app r]
  split
  · rename_i h
    rw [← ih]
    by_cases h0 : rowP (onceC r) a b = 0
    · rw [if_pos h0, h0, rowP_cons]
      obtain ⟨y, hy, e⟩ := List.mem_map.1 h
      have := rowP_zero.1 h0 y hy
      rw [e] at this
      rw [(valP_zero _ _).2 this, if_pos rfl]; rfl
    · rw [if_neg h0]
  · rw [rowP_app, ih]

end Go.Proofs.YtdnfaoanaehjhaaGreatDoor

/- Rows put in order, one by one, in plain words (no program): what is sorted has one order alone; keys and columns. -/
namespace Go.Proofs.YtdnfaoanaehjhaaGreatDoor

abbrev RowL := List TermL
/- a row put to its place -/
def putP (c : RowL → RowL → Int) (x : RowL) : List RowL → List RowL
  | [] => [x]
  | y :: r => if c x y < 0 then x :: y :: r else y :: putP c x r
def orderP (c : RowL → RowL → Int) (R : List RowL) : List RowL := R.foldl (fun m x => putP c x m) []
def Risen (c : RowL → RowL → Int) (l : List RowL) : Prop := l.Pairwise fun a b => c a b ≤ 0

theorem putP_perm (c : RowL → RowL → Int) (x : RowL) : ∀ l, (putP c x l).Perm (x :: l)
  | [] => .refl _
  | y :: r => by
    unfold putP
    split
    · exact .refl _
    · exact ((putP_perm c x r).cons y).trans (.swap _ _ _)
theorem putP_risen {c : RowL → RowL → Int} (ha : ∀ a b, c b a = - c a b) (ht : ∀ a b d, c a b ≤ 0 → c b d ≤ 0 → c a d ≤ 0) (x : RowL) : ∀ {l}, Risen c l → Risen c (putP c x l)
  | [], _ => by unfold putP Risen; exact List.pairwise_singleton _ _
  | y :: r, h => by
    obtain ⟨h1, h2⟩ := List.pairwise_cons.1 h
    unfold putP
    split
    · rename_i k
      refine List.pairwise_cons.2 ⟨fun z hz => ?_, h⟩
      rcases List.mem_cons.1 hz with rfl | hz
      · omega
      · exact ht _ _ _ (by omega) (h1 z hz)
    · rename_i k
      refine List.pairwise_cons.2 ⟨fun z hz => ?_, putP_risen ha ht x h2⟩
      rcases List.mem_cons.1 ((putP_perm c x r).mem_iff.1 hz) with rfl | hz
      · have := ha z y; omega
      · exact h1 z hz
theorem order_snoc (c : RowL → RowL → Int) (R : List RowL) (x : RowL) : orderP c (R ++ [x]) = putP c x (orderP c R) := by unfold orderP; rw [List.foldl_append]; rfl
theorem order_perm (c : RowL → RowL → Int) (R : List RowL) : (orderP c R).Perm R := by
  refine snoc_ind (P := fun R => (orderP c R).Perm R) (.refl _) (fun l x ih => ?_) R
  rw [order_snoc]
  exact (putP_perm c x _).trans ((ih.cons x).trans (List.perm_append_singleton x l).symm)
theorem order_risen {c : RowL → RowL → Int} (ha : ∀ a b, c b a = - c a b) (ht : ∀ a b d, c a b ≤ 0 → c b d ≤ 0 → c a d ≤ 0) (R : List RowL) : Risen c (orderP c R) := by
  refine snoc_ind (P := fun R => Risen c (orderP c R)) List.Pairwise.nil (fun l x ih => ?_) R
  rw [order_snoc]
  exact putP_risen ha ht x ih
/- one order alone -/
theorem risen_one {c : RowL → RowL → Int} (ha : ∀ a b, c b a = - c a b) {l m : List RowL} (hz : ∀ a ∈ l, ∀ b ∈ m, c a b = 0 → a = b) (hl : Risen c l) (hm : Risen c m) (hp : l.Perm m) : l = m := by
  refine List.Perm.eq_of_pairwise (le := fun a b => c a b ≤ 0) (fun a b h1 h2 h3 h4 => ?_) hl hm hp
  have := ha a b
  exact hz a h1 b h2 (by omega)
theorem order_one {c : RowL → RowL → Int} (ha : ∀ a b, c b a = - c a b) (ht : ∀ a b d, c a b ≤ 0 → c b d ≤ 0 → c a d ≤ 0) {R S : List RowL} (hz : ∀ a ∈ R, ∀ b ∈ R, c a b = 0 → a = b) (hS : Risen c S) (hp : S.Perm R) : S = orderP c R := by
  refine risen_one ha (fun a h1 b h2 h3 => hz a (hp.mem_iff.1 h1) b ((order_perm c R).mem_iff.1 h2) h3) hS (order_risen ha ht R) (hp.trans (order_perm c R).symm)
theorem order_same {c : RowL → RowL → Int} (ha : ∀ a b, c b a = - c a b) (ht : ∀ a b d, c a b ≤ 0 → c b d ≤ 0 → c a d ≤ 0) {R S : List RowL} (hz : ∀ a ∈ R, ∀ b ∈ R, c a b = 0 → a = b) (hp : S.Perm R) : orderP c S = orderP c R :=
  order_one ha ht hz (order_risen ha ht S) ((order_perm c S).trans hp)
theorem risen_pair {c : RowL → RowL → Int} {l : List RowL} (h : Risen c l) {i : Nat} (hi : i + 1 < l.length) : c l[i] l[i + 1] ≤ 0 := List.pairwise_iff_getElem.1 h i (i + 1) (by omega) hi (by omega)

/- keys, and the columns that they are of -/
structure KeyL where
  n : List UInt8
  d : Bool
def placeP : List (List UInt8) → List UInt8 → Option Nat
  | [], _ => none
  | v :: V, x => if v = x then some 0 else (placeP V x).map (· + 1)
def colsP (V : List (List UInt8)) (K : List KeyL) : List (Nat × Bool) := K.filterMap fun k => (placeP V k.n).map fun i => (i, k.d)
def allC (n : Nat) : List (Nat × Bool) := (List.range n).map fun i => (i, false)
def rankP (V : List (List UInt8)) (K : List KeyL) : List (Nat × Bool) := colsP V K ++ allC V.length
/- which of two rows is ahead -/
def aheadP (V : List (List UInt8)) (K : List KeyL) (a b : RowL) : Int := rowP (rankP V K) a b
theorem ahead_anti (V : List (List UInt8)) (K : List KeyL) (a b : RowL) : aheadP V K b a = - aheadP V K a b := rowP_anti _ _ _
theorem ahead_trans (V : List (List UInt8)) (K : List KeyL) (a b d : RowL) (h1 : aheadP V K a b ≤ 0) (h2 : aheadP V K b d ≤ 0) : aheadP V K a d ≤ 0 := rowP_trans _ _ _ _ h1 h2
theorem ahead_zero {V : List (List UInt8)} {K : List KeyL} {a b : RowL} (ha : a.length = V.length) (hb : b.length = V.length) (h : aheadP V K a b = 0) : a = b := by
  refine List.ext_getElem (by omega) (fun i h1 h2 => ?_)
  have := rowP_zero.1 h (i, false) (List.mem_append.2 (.inr (List.mem_map.2 ⟨i, List.mem_range.2 (by omega), rfl⟩)))
  dsimp only at this
  rw [List.getD_eq_getElem?_getD, List.getD_eq_getElem?_getD, List.getElem?_eq_getElem h1, List.getElem?_eq_getElem h2] at this
  exact this
theorem ahead_range (V : List (List UInt8)) (K : List KeyL) (a b : RowL) : aheadP V K a b = -1 ∨ aheadP V K a b = 0 ∨ aheadP V K a b = 1 := rowP_range _ _ _

theorem place_lt {V : List (List UInt8)} {x : List UInt8} {i : Nat} (h : placeP V x = some i) : ∃ hi : i < V.length, V[i] = x := by
  induction V generalizing i with
  | nil => cases h
  | cons v V ih =>
    unfold placeP at h
    split at h
    · rename_i e; cases h; exact ⟨by simp, e⟩
    · cases hp : placeP V x with
      | none => rw [hp] at h; cases h
      | some j =>
        rw [hp] at h
        have e : i = j + 1 := by simpa using h.symm
        subst e
        obtain ⟨hj, e2⟩ := ih hp
        exact ⟨by simp; omega, by simpa using e2⟩
theorem place_none {V : List (List UInt8)} {x : List UInt8} : placeP V x = none ↔ x ∉ V := by
  induction V with
  | nil => exact ⟨fun _ => List.not_mem_nil, fun _ => rfl⟩
  | cons v V ih =>
    unfold placeP
    by_cases e : v = x
    · rw [if_pos e]; simp [e]
    · rw [if_neg e]
      have e' : ¬ x = v := fun h => e h.symm
      simp [ih, e']
theorem place_first {V : List (List UInt8)} {x : List UInt8} {i : Nat} (hi : i < V.length) (hx : V[i] = x) (hf : ∀ j, (h : j < i) → V[j]'(by omega) ≠ x) : placeP V x = some i := by
  induction V generalizing i with
  | nil => exact absurd hi (Nat.not_lt_zero _)
  | cons v V ih =>
    unfold placeP
    cases i with
    | zero => rw [if_pos (by simpa using hx)]
    | succ i =>
      rw [if_neg (by have := hf 0 (by omega); simpa using this), ih (i := i) (by simpa using hi) (by simpa using hx) (fun j h => by have := hf (j + 1) (by omega); simpa using this)]
      rfl
theorem place_nodup {V : List (List UInt8)} (hn : V.Nodup) {i : Nat} (hi : i < V.length) : placeP V V[i] = some i :=
  place_first hi rfl (fun j hj e => by
    have := (List.getElem_inj hn).1 e
    omega)

end Go.Proofs.YtdnfaoanaehjhaaGreatDoor

/- A triple in plain words: when it is right, as a triple and as a pattern; the names of its variables. No program. -/
namespace Go.Proofs.YtdnfaoanaehjhaaGreatDoor

def TermL.right (t : TermL) : Bool := rightL t.k t.x t.y t.z
def TermL.ok (t : TermL) : Prop := (bs t.x).size ≤ maxLen ∧ (bs t.y).size ≤ maxLen ∧ (bs t.z).size ≤ maxLen

structure TripL where
  s : TermL
  p : TermL
  o : TermL
/- its cells, side by side -/
def TripL.v (t : TripL) : Value := .agg #[.int .i64 t.s.k, .string (bs t.s.x), .string (bs t.s.y), .string (bs t.s.z), .int .i64 t.p.k, .string (bs t.p.x), .string (bs t.p.y), .string (bs t.p.z), .int .i64 t.o.k, .string (bs t.o.x), .string (bs t.o.y), .string (bs t.o.z)]
def TripL.ok (t : TripL) : Prop := t.s.ok ∧ t.p.ok ∧ t.o.ok

/- a term of one of the kinds, that is right -/
def placeB (K : List Int) (t : TermL) : Bool := K.contains t.k && t.right
def checkB (K0 K1 K2 : List Int) (t : TripL) : Bool := placeB K0 t.s && (placeB K1 t.p && placeB K2 t.o)
def tripB (t : TripL) : Bool := checkB [1, 3] [1] [1, 3, 2] t
def patB (t : TripL) : Bool := checkB [1, 4] [1, 4] [1, 2, 4] t

/- a name more, if the term is a variable that is not among them -/
def moreL (l : List (List UInt8)) (t : TermL) : List (List UInt8) := if t.k = 4 ∧ ¬ t.x ∈ l then l ++ [t.x] else l
def varsL (t : TripL) : List (List UInt8) := moreL (moreL (moreL [] t.s) t.p) t.o

theorem moreL_length (l : List (List UInt8)) (t : TermL) : (moreL l t).length ≤ l.length + 1 := by
  unfold moreL; split <;> simp
theorem varsL_length (t : TripL) : (varsL t).length ≤ 3 := by
  unfold varsL
  have h1 := moreL_length [] t.s
  have h2 := moreL_length (moreL [] t.s) t.p
  have h3 := moreL_length (moreL (moreL [] t.s) t.p) t.o
  simp at h1; omega

/- the texts' cells -/
def textCells (l : List (List UInt8)) : List Value := l.map fun x => .string (bs x)
theorem textCells_length (l : List (List UInt8)) : (textCells l).length = l.length := by simp [textCells]
theorem textCells_append (l r : List (List UInt8)) : textCells (l ++ r) = textCells l ++ textCells r := by simp [textCells]

end Go.Proofs.YtdnfaoanaehjhaaGreatDoor
