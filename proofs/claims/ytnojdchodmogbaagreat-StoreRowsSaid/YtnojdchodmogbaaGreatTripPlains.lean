/- A triple in plain words: when it is right, as a triple and as a pattern; the names of its variables. No program. A line's end is no part of a term: what stands behind a line feed says nothing of the term that a text begins with. No program. The triples whose text a text is, line by line: taken off its head, and by its line feeds. No program. -/
import Derived.Test.YtnojdchodmogbaaGreatTermPlains
namespace Go.Proofs.YtnojdchodmogbaaGreat

def TermL.right (t : TermL) : Bool := rightL t.k t.x t.y t.z
def TermL.ok (t : TermL) : Prop := (bs t.x).size ≤ maxLen ∧ (bs t.y).size ≤ maxLen ∧ (bs t.z).size ≤ maxLen

structure TripL where
  s : TermL
  p : TermL
  o : TermL
/- its cells, side by side -/
def TripL.v (t : TripL) : Value := .agg #[.int .i64 t.s.k, .string (bs t.s.x), .string (bs t.s.y), .string (bs t.s.z), .int .i64 t.p.k, .string (bs t.p.x), .string (bs t.p.y), .string (bs t.p.z), .int .i64 t.o.k, .string (bs t.o.x), .string (bs t.o.y), .string (bs t.o.z)]
def TripL.ok (t : TripL) : Prop := t.s.ok ∧ t.p.ok ∧ t.o.ok

/- a term of one of the kinds, that is right -/
def placeB (K : List Int) (t : TermL) : Bool := K.contains t.k && t.right
def checkB (K0 K1 K2 : List Int) (t : TripL) : Bool := placeB K0 t.s && (placeB K1 t.p && placeB K2 t.o)
def tripB (t : TripL) : Bool := checkB [1, 3] [1] [1, 3, 2] t
def patB (t : TripL) : Bool := checkB [1, 4] [1, 4] [1, 2, 4] t

/- a name more, if the term is a variable that is not among them -/
def moreL (l : List (List UInt8)) (t : TermL) : List (List UInt8) := if t.k = 4 ∧ ¬ t.x ∈ l then l ++ [t.x] else l
def varsL (t : TripL) : List (List UInt8) := moreL (moreL (moreL [] t.s) t.p) t.o

theorem moreL_length (l : List (List UInt8)) (t : TermL) : (moreL l t).length ≤ l.length + 1 := by
  unfold moreL; split <;> simp
theorem varsL_length (t : TripL) : (varsL t).length ≤ 3 := by
  unfold varsL
  have h1 := moreL_length [] t.s
  have h2 := moreL_length (moreL [] t.s) t.p
  have h3 := moreL_length (moreL (moreL [] t.s) t.p) t.o
  simp at h1; omega

/- the texts' cells -/
def textCells (l : List (List UInt8)) : List Value := l.map fun x => .string (bs x)
theorem textCells_length (l : List (List UInt8)) : (textCells l).length = l.length := by simp [textCells]
theorem textCells_append (l r : List (List UInt8)) : textCells (l ++ r) = textCells l ++ textCells r := by simp [textCells]

end Go.Proofs.YtnojdchodmogbaaGreat

namespace Go.Proofs.YtnojdchodmogbaaGreat

theorem hp_one (l r : List UInt8) (c : UInt8) (hc : c ≠ 10) : Lib.hasPrefix (l ++ 10 :: r) [c] = Lib.hasPrefix l [c] := by
  cases l with
  | nil => simp [Lib.hasPrefix, List.isPrefixOf, hc]
  | cons a t => simp [Lib.hasPrefix, List.isPrefixOf]
theorem hp_two (l r : List UInt8) (c d : UInt8) (hc : c ≠ 10) (hd : d ≠ 10) : Lib.hasPrefix (l ++ 10 :: r) [c, d] = Lib.hasPrefix l [c, d] := by
  match l with
  | [] => simp [Lib.hasPrefix, List.isPrefixOf, hc]
  | [a] => simp [Lib.hasPrefix, List.isPrefixOf, hd]
  | a :: b :: t => simp [Lib.hasPrefix, List.isPrefixOf]

theorem lead_end (p : Nat → Int → Bool) (hp : ∀ k, p k 10 = false) (r : List UInt8) : ∀ (l : List UInt8) (k : Nat), lead p k (l ++ 10 :: r) = lead p k l
  | [], k => by
    show (if p k ((10 : UInt8).toNat : Int) = true then _ else 0) = 0
    rw [show ((10 : UInt8).toNat : Int) = 10 from rfl, hp k]; rfl
  | b :: t, k => by
    show (if p k (b.toNat : Int) = true then lead p (k + 1) (t ++ 10 :: r) + 1 else 0) = (if p k (b.toNat : Int) = true then lead p (k + 1) t + 1 else 0)
    rw [lead_end p hp r t (k + 1)]
theorem iriLead_end (l r : List UInt8) : iriLead (l ++ 10 :: r) = iriLead l := lead_end _ (fun k => by simp [iriZ]) r l 0
theorem nameLead_end (l r : List UInt8) : nameLead (l ++ 10 :: r) = nameLead l := lead_end _ (fun k => by simp [nameZ, letterZ, smallZ, bigZ, digitZ]) r l 0
theorem langLead_end (l r : List UInt8) : langLead (l ++ 10 :: r) = langLead l := lead_end _ (fun k => by simp [smallZ]) r l 0
theorem iriLead_le (l : List UInt8) : iriLead l ≤ l.length := lead_le _ _ _
theorem nameLead_le (l : List UInt8) : nameLead l ≤ l.length := lead_le _ _ _
theorem langLead_le (l : List UInt8) : langLead l ≤ l.length := lead_le _ _ _

theorem hp_cons1 (l : List UInt8) (c : UInt8) (h : Lib.hasPrefix l [c] = true) : ∃ t, l = c :: t := by
  match l with
  | [] => simp [Lib.hasPrefix, List.isPrefixOf] at h
  | a :: t => simp [Lib.hasPrefix, List.isPrefixOf] at h; exact ⟨t, by rw [h]⟩
theorem hp_cons2 (l : List UInt8) (c d : UInt8) (h : Lib.hasPrefix l [c, d] = true) : ∃ t, l = c :: d :: t := by
  match l with
  | [] => simp [Lib.hasPrefix, List.isPrefixOf] at h
  | [a] => simp [Lib.hasPrefix, List.isPrefixOf] at h
  | a :: b :: t => simp [Lib.hasPrefix, List.isPrefixOf] at h; exact ⟨t, by rw [h.1, h.2]⟩

theorem bracketS_end (l r : List UInt8) : bracketS (l ++ 10 :: r) = bracketS l := by
  unfold bracketS
  rw [hp_one l r 60 (by decide)]
  by_cases h : Lib.hasPrefix l [60] = true
  · rw [if_pos h, if_pos h]
    obtain ⟨t, rfl⟩ := hp_cons1 l 60 h
    have e : iriLead t ≤ t.length := iriLead_le t
    simp only [List.cons_append, List.drop_succ_cons, List.drop_zero, iriLead_end]
    rw [List.drop_append_of_le_length e, hp_one _ r 62 (by decide), List.take_append_of_le_length e]
  · rw [if_neg h, if_neg h]

theorem typeS_end (l r : List UInt8) (h : 2 ≤ l.length) : typeS (l ++ 10 :: r) = typeS l := by
  unfold typeS
  rw [List.drop_append_of_le_length h, bracketS_end]
theorem langS_end (l r : List UInt8) (h : 1 ≤ l.length) : langS (l ++ 10 :: r) = langS l := by
  have e := langLead_le (l.drop 1)
  unfold langS
  rw [List.drop_append_of_le_length h, langLead_end, List.take_append_of_le_length e]
theorem tagS_end (l r : List UInt8) : tagS (l ++ 10 :: r) = tagS l := by
  unfold tagS
  rw [hp_two l r 94 94 (by decide) (by decide), hp_one l r 64 (by decide)]
  by_cases h : Lib.hasPrefix l [94, 94] = true
  · obtain ⟨t, rfl⟩ := hp_cons2 l 94 94 h
    rw [if_pos h, if_pos h, typeS_end _ r (by simp)]
  · rw [if_neg h, if_neg h]
    by_cases h2 : Lib.hasPrefix l [64] = true
    · obtain ⟨t, rfl⟩ := hp_cons1 l 64 h2
      rw [if_pos h2, if_pos h2, langS_end _ r (by simp)]
    · rw [if_neg h2, if_neg h2]

theorem unq_end10 (r : List UInt8) : ∀ (l t : List UInt8) (o : Bool) (i : Nat), unq (l ++ 10 :: r) t o i = unq l t o i := by
  intro l
  induction l with
  | nil =>
    intro t o i
    cases o with
    | true => simp [unq, escB]
    | false => simp [unq]
  | cons b l ih =>
    intro t o i
    cases o with
    | true => rw [List.cons_append]; simp only [unq, ih]
    | false => rw [List.cons_append, unq_cons, unq_cons, ih, ih]
theorem unquoteS_end (l r : List UInt8) (h : 1 ≤ l.length) : unquoteS (l ++ 10 :: r) = unquoteS l := by
  unfold unquoteS
  rw [List.drop_append_of_le_length h, unq_end10]
theorem unquoteS_length (l : List UInt8) (h : 1 ≤ l.length) : (unquoteS l).2 ≤ l.length := by
  have := unq_le (l.drop 1) [] false 0
  rw [List.length_drop] at this
  show (unq (l.drop 1) [] false 0).2 ≤ _
  omega
theorem literalS_end (l r : List UInt8) (h : 1 ≤ l.length) : literalS (l ++ 10 :: r) = literalS l := by
  have e := unquoteS_length l h
  unfold literalS
  rw [unquoteS_end l r h, List.drop_append_of_le_length e, tagS_end]
theorem namedS_end (k : Int) (l r : List UInt8) (n : Nat) (h : n ≤ l.length) : namedS k (l ++ 10 :: r) n = namedS k l n := by
  have e := nameLead_le (l.drop n)
  unfold namedS
  rw [List.drop_append_of_le_length h, nameLead_end, List.take_append_of_le_length e]
theorem iriS_end (l r : List UInt8) : iriS (l ++ 10 :: r) = iriS l := by unfold iriS; rw [bracketS_end]

theorem prefixS_end (l r : List UInt8) : prefixS (l ++ 10 :: r) = prefixS l := by
  unfold prefixS
  rw [hp_one l r 60 (by decide), hp_two l r 95 58 (by decide) (by decide), hp_one l r 63 (by decide), hp_one l r 34 (by decide), iriS_end]
  by_cases h1 : Lib.hasPrefix l [60] = true
  · rw [if_pos h1, if_pos h1]
  · rw [if_neg h1, if_neg h1]
    by_cases h2 : Lib.hasPrefix l [95, 58] = true
    · obtain ⟨t, rfl⟩ := hp_cons2 l 95 58 h2
      rw [if_pos h2, if_pos h2, namedS_end _ _ _ _ (by simp)]
    · rw [if_neg h2, if_neg h2]
      by_cases h3 : Lib.hasPrefix l [63] = true
      · obtain ⟨t, rfl⟩ := hp_cons1 l 63 h3
        rw [if_pos h3, if_pos h3, namedS_end _ _ _ _ (by simp)]
      · rw [if_neg h3, if_neg h3]
        by_cases h4 : Lib.hasPrefix l [34] = true
        · obtain ⟨t, rfl⟩ := hp_cons1 l 34 h4
          rw [if_pos h4, if_pos h4, literalS_end _ _ (by simp)]
        · rw [if_neg h4, if_neg h4]

/- how long a term's text is -/
theorem bracketS_length (l : List UInt8) : (bracketS l).2 ≤ l.length := by
  unfold bracketS
  split
  · rename_i h
    obtain ⟨t, rfl⟩ := hp_cons1 l 60 h
    split
    · exact Nat.zero_le _
    · rename_i h2
      have h3 := fun c => h2 (.inr c)
      simp only [List.drop_succ_cons, List.drop_zero] at h3
      obtain ⟨u, hu⟩ := hp_cons1 _ 62 (by simpa using h3)
      have := congrArg List.length hu
      simp at this
      simp only [List.drop_succ_cons, List.drop_zero, List.length_cons]
      omega
  · exact Nat.zero_le _
theorem tagS_length (l : List UInt8) : (tagS l).2.2 ≤ l.length := by
  unfold tagS
  split
  · rename_i h
    obtain ⟨t, rfl⟩ := hp_cons2 l 94 94 h
    have := bracketS_length t
    unfold typeS
    simp only [List.drop_succ_cons, List.drop_zero, List.length_cons]
    split <;> dsimp only <;> omega
  · split
    · rename_i h
      obtain ⟨t, rfl⟩ := hp_cons1 l 64 h
      have := langLead_le t
      unfold langS
      simp only [List.drop_succ_cons, List.drop_zero, List.length_cons]
      split <;> dsimp only <;> omega
    · exact Nat.zero_le _
theorem prefixS_length (l : List UInt8) : (prefixS l).2 ≤ l.length := by
  unfold prefixS
  split
  · have := bracketS_length l
    unfold iriS
    split
    · exact Nat.zero_le _
    · exact this
  · split
    · rename_i h
      obtain ⟨t, rfl⟩ := hp_cons2 l 95 58 h
      have := nameLead_le t
      unfold namedS
      simp only [List.drop_succ_cons, List.drop_zero, List.length_cons]
      split <;> dsimp only <;> omega
    · split
      · rename_i h
        obtain ⟨t, rfl⟩ := hp_cons1 l 63 h
        have := nameLead_le t
        unfold namedS
        simp only [List.drop_succ_cons, List.drop_zero, List.length_cons]
        split <;> dsimp only <;> omega
      · split
        · rename_i h
          obtain ⟨t, rfl⟩ := hp_cons1 l 34 h
          have h1 := unquoteS_length (34 :: t) (by simp)
          have h2 := tagS_length ((34 :: t).drop (unquoteS (34 :: t)).2)
          rw [List.length_drop] at h2
          unfold literalS
          split <;> dsimp only <;> omega
        · exact Nat.zero_le _

end Go.Proofs.YtnojdchodmogbaaGreat

namespace Go.Proofs.YtnojdchodmogbaaGreat

def noTrip : TripL := ⟨noTerm, noTerm, noTerm⟩

/- a term and the blank behind it, taken off a text's head -/
def takeS (l : List UInt8) : Option (TermL × List UInt8) :=
  if (prefixS l).2 = 0 then none
  else if Lib.hasPrefix (l.drop (prefixS l).2) [32] = false then none
  else some ((prefixS l).1, l.drop ((prefixS l).2 + 1))

/- a right triple's line, taken off a text's head -/
def lineS (l : List UInt8) : Option (TripL × List UInt8) :=
  match takeS l with
  | none => none
  | some (a, r) => match takeS r with
    | none => none
    | some (b, r2) => match takeS r2 with
      | none => none
      | some (c, r3) => if Lib.hasPrefix r3 [46, 10] = true then (if tripB ⟨a, b, c⟩ = true then some (⟨a, b, c⟩, r3.drop 2) else none) else none

/- all lines that can be taken off, and what is left -/
def rdS : Nat → List UInt8 → List TripL × List UInt8
  | 0, l => ([], l)
  | f + 1, l => match lineS l with
    | none => ([], l)
    | some (t, r) => (t :: (rdS f r).1, (rdS f r).2)

/- the triples, the line, the reason -/
def ansOf (p : List TripL × List UInt8) : List TripL × Int × Int :=
  if p.2 ≠ [] then ([], (p.1.length : Int) + 1, 2) else if 4096 < p.1.length then ([], 0, 3) else (p.1, 0, 0)
def ansS (l : List UInt8) : List TripL × Int × Int := ansOf (rdS l.length l)

theorem takeS_some {l : List UInt8} {a : TermL} {r : List UInt8} (h : takeS l = some (a, r)) :
    (prefixS l).1 = a ∧ 1 ≤ (prefixS l).2 ∧ (prefixS l).2 + 1 ≤ l.length ∧ r = l.drop ((prefixS l).2 + 1) ∧ l.drop (prefixS l).2 = 32 :: r := by
  unfold takeS at h
  split at h
  · cases h
  · split at h
    · cases h
    · rename_i h1 h2
      obtain ⟨t, ht⟩ := hp_cons1 _ 32 (by simpa using h2)
      have hl := congrArg List.length ht
      simp at hl
      have hd : l.drop ((prefixS l).2 + 1) = t := by rw [← List.drop_drop, ht]; rfl
      cases h
      exact ⟨rfl, by omega, by omega, rfl, by rw [ht, hd]⟩
theorem takeS_less {l : List UInt8} {a : TermL} {r : List UInt8} (h : takeS l = some (a, r)) : r.length + 2 ≤ l.length := by
  obtain ⟨_, h1, h2, rfl, _⟩ := takeS_some h
  rw [List.length_drop]; omega
theorem takeS_mem {l : List UInt8} {a : TermL} {r : List UInt8} (h : takeS l = some (a, r)) {x : UInt8} (hx : x ∈ r) : x ∈ l := by
  obtain ⟨_, _, _, rfl, _⟩ := takeS_some h
  exact List.mem_of_mem_drop hx
theorem takeS_end (l r : List UInt8) : takeS (l ++ 10 :: r) = (takeS l).map fun p => (p.1, p.2 ++ 10 :: r) := by
  have e := prefixS_length l
  unfold takeS
  rw [prefixS_end, List.drop_append_of_le_length e, hp_one _ r 32 (by decide)]
  by_cases h1 : (prefixS l).2 = 0
  · rw [if_pos h1, if_pos h1]; rfl
  · rw [if_neg h1, if_neg h1]
    by_cases h2 : Lib.hasPrefix (l.drop (prefixS l).2) [32] = false
    · rw [if_pos h2, if_pos h2]; rfl
    · rw [if_neg h2, if_neg h2]
      obtain ⟨t, ht⟩ := hp_cons1 _ 32 (by simpa using h2)
      have hl := congrArg List.length ht
      simp at hl
      rw [List.drop_append_of_le_length (by omega)]; rfl

theorem lineS_less {l : List UInt8} {t : TripL} {r : List UInt8} (h : lineS l = some (t, r)) : r.length < l.length := by
  unfold lineS at h
  split at h
  · cases h
  · rename_i h1
    split at h
    · cases h
    · rename_i h2
      split at h
      · cases h
      · rename_i h3
        split at h
        · split at h
          · cases h
            have := takeS_less h1; have := takeS_less h2; have := takeS_less h3
            rw [List.length_drop]; omega
          · cases h
        · cases h
theorem lineS_nil : lineS [] = none := by rfl

theorem rdS_more {f : Nat} {l : List UInt8} {t : TripL} {r : List UInt8} (h : lineS l = some (t, r)) : rdS (f + 1) l = (t :: (rdS f r).1, (rdS f r).2) := by simp [rdS, h]
theorem rdS_stop {l : List UInt8} (h : lineS l = none) (f : Nat) : rdS f l = ([], l) := by
  cases f with
  | zero => rfl
  | succ f => simp [rdS, h]

/- what is known when some lines are taken off: T are the triples, R is what is left -/
def Off (s : List UInt8) (T : List TripL) (R : List UInt8) : Prop := ∃ f, R.length ≤ f ∧ rdS s.length s = (T ++ (rdS f R).1, (rdS f R).2)
theorem off_start (s : List UInt8) : Off s [] s := ⟨s.length, Nat.le_refl _, rfl⟩
theorem off_more {s : List UInt8} {T : List TripL} {R : List UInt8} {t : TripL} {r : List UInt8} (h : Off s T R) (hl : lineS R = some (t, r)) : Off s (T ++ [t]) r := by
  obtain ⟨f, hf, e⟩ := h
  have := lineS_less hl
  cases f with
  | zero => omega
  | succ f => exact ⟨f, by omega, by rw [e, rdS_more hl]; simp⟩
theorem off_stop {s : List UInt8} {T : List TripL} {R : List UInt8} (h : Off s T R) (hl : lineS R = none) : ansS s = ansOf (T, R) := by
  obtain ⟨f, _, e⟩ := h
  unfold ansS
  rw [e, rdS_stop hl f]; simp
theorem off_len {s : List UInt8} {T : List TripL} {R : List UInt8} (h : Off s T R) (hl : lineS R = none) (hR : R ≠ []) : ansS s = ([], (T.length : Int) + 1, 2) := by
  rw [off_stop h hl]; unfold ansOf; rw [if_pos hR]
theorem off_all {s : List UInt8} {T : List TripL} (h : Off s T []) (hl : T.length ≤ 4096) : ansS s = (T, 0, 0) := by
  rw [off_stop h lineS_nil]; unfold ansOf; rw [if_neg (by simp), if_neg (by dsimp only; omega)]
theorem off_long {s : List UInt8} {T : List TripL} (h : Off s T []) (hl : 4096 < T.length) : ansS s = ([], 0, 3) := by
  rw [off_stop h lineS_nil]; unfold ansOf; rw [if_neg (by simp), if_pos hl]

/- the triple that a line without its line feed is -/
def oneV (l : List UInt8) : TripL × Bool :=
  match takeS l with
  | none => (noTrip, false)
  | some (a, r) => match takeS r with
    | none => (noTrip, false)
    | some (b, r2) => (⟨a, b, (prefixS r2).1⟩, decide (0 < (prefixS r2).2) && (r2.drop (prefixS r2).2 == [32, 46] && tripB ⟨a, b, (prefixS r2).1⟩))

theorem dot_end (r3 r : List UInt8) (hn : ¬ (10 : UInt8) ∈ r3) : Lib.hasPrefix (r3 ++ 10 :: r) [46, 10] = (r3 == [46]) := by
  match r3 with
  | [] => simp [Lib.hasPrefix, List.isPrefixOf]
  | [a] =>
    by_cases h : a = 46
    · subst h; rfl
    · have h' : ¬ (46 : UInt8) = a := fun c => h c.symm
      simp [Lib.hasPrefix, List.isPrefixOf]
      rw [show (a == 46) = false from beq_eq_false_iff_ne.2 h, show ((46 : UInt8) == a) = false from beq_eq_false_iff_ne.2 h']
  | a :: b :: t =>
    have hb : b ≠ 10 := fun c => hn (by simp [c])
    simp [Lib.hasPrefix, List.isPrefixOf, hb.symm]

theorem lineS_end (l r : List UInt8) (hn : ¬ (10 : UInt8) ∈ l) : lineS (l ++ 10 :: r) = if (oneV l).2 = true then some ((oneV l).1, r) else none := by
  unfold lineS oneV
  rw [takeS_end]
  cases h1 : takeS l with
  | none => rfl
  | some p =>
    obtain ⟨a, r1⟩ := p
    have n1 : ¬ (10 : UInt8) ∈ r1 := fun c => hn (takeS_mem h1 c)
    simp only [Option.map_some]
    rw [takeS_end]
    cases h2 : takeS r1 with
    | none => rfl
    | some p =>
      obtain ⟨b, r2⟩ := p
      have n2 : ¬ (10 : UInt8) ∈ r2 := fun c => n1 (takeS_mem h2 c)
      simp only [Option.map_some]
      rw [takeS_end]
      cases h3 : takeS r2 with
      | none =>
        have hb : (decide (0 < (prefixS r2).2) && (r2.drop (prefixS r2).2 == [32, 46] && tripB ⟨a, b, (prefixS r2).1⟩)) = false := by
          unfold takeS at h3
          split at h3
          · rename_i e; rw [e]; rfl
          · split at h3
            · rename_i e
              have : (r2.drop (prefixS r2).2 == [32, 46]) = false := by
                rw [Bool.eq_false_iff]; intro c
                rw [beq_iff_eq] at c
                rw [c] at e; simp [Lib.hasPrefix, List.isPrefixOf] at e
              rw [this]; simp
            · cases h3
        rw [hb]; rfl
      | some p =>
        obtain ⟨c, r3⟩ := p
        have n3 : ¬ (10 : UInt8) ∈ r3 := fun c => n2 (takeS_mem h3 c)
        obtain ⟨rfl, e1, _, _, e4⟩ := takeS_some h3
        simp only [Option.map_some]
        rw [dot_end r3 r n3, e4, show decide (0 < (prefixS r2).2) = true from decide_eq_true (by omega)]
        by_cases hd : r3 = [46]
        · subst hd
          by_cases ht : tripB ⟨a, b, (prefixS r2).1⟩ = true
          · simp [ht]
          · simp [ht]
        · have : ((32 :: r3) == [32, 46]) = false := by
            rw [Bool.eq_false_iff]; intro c; rw [beq_iff_eq] at c; exact hd (List.cons.inj c).2
          rw [if_neg (by simpa using hd), this]; simp
theorem lineS_none (l : List UInt8) (hn : ¬ (10 : UInt8) ∈ l) : lineS l = none := by
  unfold lineS
  split
  · rfl
  · rename_i h1
    split
    · rfl
    · rename_i h2
      split
      · rfl
      · rename_i h3
        split
        · rename_i h
          obtain ⟨t, ht⟩ := hp_cons2 _ 46 10 h
          exact absurd (takeS_mem h1 (takeS_mem h2 (takeS_mem h3 (by rw [ht]; simp)))) hn
        · rfl

/- a row of triples' cells -/
def TermL.cells (t : TermL) : List Value := [.int .i64 t.k, .string (bs t.x), .string (bs t.y), .string (bs t.z)]
def TripL.cells (t : TripL) : List Value := t.s.cells ++ (t.p.cells ++ t.o.cells)
def tripCells (l : List TripL) : List Value := l.flatMap TripL.cells
theorem TripL.cells_length (t : TripL) : t.cells.length = 12 := rfl
theorem tripCells_length (l : List TripL) : (tripCells l).length = l.length * 12 := by
  induction l with
  | nil => rfl
  | cons t r ih => unfold tripCells at *; rw [List.flatMap_cons, List.length_append, ih, TripL.cells_length, List.length_cons]; omega
theorem tripCells_append (l r : List TripL) : tripCells (l ++ r) = tripCells l ++ tripCells r := by unfold tripCells; exact List.flatMap_append
theorem tripCells_one (t : TripL) : tripCells [t] = t.cells := by unfold tripCells; simp

end Go.Proofs.YtnojdchodmogbaaGreat
