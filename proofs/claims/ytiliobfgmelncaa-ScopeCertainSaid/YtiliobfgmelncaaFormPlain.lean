/- Formulas in plain words (no program): parts, their cells; the kind whose mark a text is; what a chain of variables with signs between them comes to. -/
import Derived.Test.YtiliobfgmelncaaLexPlain
import Derived.KernelRfl
namespace Go.Proofs.Ytiliobfgmelncaa

structure PartL where
  k : Int
  t : TermL
  m : List UInt8
  c : Int
def noPart : PartL := ⟨0, noTerm, [], 0⟩
def signPart (k : Int) : PartL := ⟨k, noTerm, [], 0⟩
def varPart (x : List UInt8) : PartL := ⟨2, noTerm, x, 0⟩
/- its cells, side by side -/
def PartL.cells (p : PartL) : List Value := [.int .i64 p.k, .int .i64 p.t.k, .string (bs p.t.x), .string (bs p.t.y), .string (bs p.t.z), .string (bs p.m), .int .i64 p.c]
def PartL.v (p : PartL) : Value := .agg #[.int .i64 p.k, .int .i64 p.t.k, .string (bs p.t.x), .string (bs p.t.y), .string (bs p.t.z), .string (bs p.m), .int .i64 p.c]
def partCells (l : List PartL) : List Value := l.flatMap PartL.cells
theorem PartL.cells_length (p : PartL) : p.cells.length = 7 := rfl
theorem partCells_length (l : List PartL) : (partCells l).length = l.length * 7 := by
  induction l with
  | nil => rfl
  | cons t r ih => unfold partCells at *; rw [List.flatMap_cons, List.length_append, ih, PartL.cells_length, List.length_cons]; omega
theorem partCells_append (l r : List PartL) : partCells (l ++ r) = partCells l ++ partCells r := by unfold partCells; exact List.flatMap_append
theorem partCells_one (t : PartL) : partCells [t] = t.cells := by unfold partCells; simp
theorem partCells_at : ∀ (L : List PartL) (k : Nat) (hk : k < L.length) (i : Nat), i < 7 → (partCells L)[k * 7 + i]? = L[k].cells[i]?
  | [], k, hk, _, _ => absurd hk (Nat.not_lt_zero _)
  | t :: L, 0, _, i, hi => by
    show (t.cells ++ partCells L)[0 * 7 + i]? = _
    rw [List.getElem?_append_left (by rw [PartL.cells_length]; omega), Nat.zero_mul, Nat.zero_add]; rfl
  | t :: L, k + 1, hk, i, hi => by
    show (t.cells ++ partCells L)[(k + 1) * 7 + i]? = _
    rw [List.getElem?_append_right (by rw [PartL.cells_length]; omega), PartL.cells_length, show (k + 1) * 7 + i - 7 = k * 7 + i by omega, partCells_at L k (by simpa using hk) i hi]
    simp

/- the marks of all kinds; the levels: from, to, just once -/
def marksL : List (List UInt8) := [[], [], [], [66, 79, 85, 78, 68], [33], [45], [38, 38], [124, 124], [61], [33, 61], [60], [62], [60, 61], [62, 61], [43], [45], [42], [47], [83, 84, 82], [76, 65, 78, 71], [68, 65, 84, 65, 84, 89, 80, 69], [73, 83, 73, 82, 73], [73, 83, 76, 73, 84, 69, 82, 65, 76], [73, 83, 66, 76, 65, 78, 75], [83, 65, 77, 69, 84, 69, 82, 77], [73, 70], [67, 79, 65, 76, 69, 83, 67, 69]]
def markN (k : Nat) : List UInt8 := marksL.getD k []
def levelsL : List (Nat × Nat × Bool) := [(7, 7, false), (6, 6, false), (8, 13, true), (14, 15, false), (16, 17, false)]
def lev (i : Nat) : Nat × Nat × Bool := levelsL.getD i (0, 0, false)

/- the first one of c kinds from a on whose mark a text is; nought: none -/
def kindM (s : List UInt8) : Nat → Nat → Nat
  | _, 0 => 0
  | a, c + 1 => if markN a = s then a else kindM s (a + 1) c
/- the kind of the sign that a word is -/
def signK (L : List TokL) (a f t : Nat) : Nat :=
  match L[a]? with
  | none => 0
  | some w => if w.k = 5 then kindM w.x f (t + 1 - f) else 0
/- the place, the parts so far -/
abbrev StL := Nat × List PartL
/- a variable is read (of all else nothing is said here) -/
def signedM (L : List TokL) (q : StL) : Option StL :=
  match L[q.1]? with
  | none => none
  | some w => if w.k = 2 ∧ nameL w.x = true then some (q.1 + 1, q.2 ++ [varPart w.x]) else none
def levsM (gath : Nat → StL → Option StL) (n : Nat) : Nat → StL → Option StL
  | 0, q => some q
  | k + 1, q => (gath (n + k) q).bind (levsM gath n k)
def chainOf (gath : Nat → StL → Option StL) (L : List TokL) (n : Nat) (q : StL) : Option StL := (signedM L q).bind (levsM gath n (5 - n))
def gatherM (L : List TokL) : Nat → Nat → StL → Option StL
  | 0, _, _ => none
  | f + 1, i, q =>
    if signK L q.1 (lev i).1 (lev i).2.1 = 0 then some q
    else (chainOf (gatherM L f) L (i + 1) (q.1 + 1, q.2)).bind fun r =>
      if (lev i).2.2 = true then some (r.1, r.2 ++ [signPart (signK L q.1 (lev i).1 (lev i).2.1)])
      else gatherM L f i (r.1, r.2 ++ [signPart (signK L q.1 (lev i).1 (lev i).2.1)])
def chainM (L : List TokL) (f n : Nat) (q : StL) : Option StL := chainOf (gatherM L f) L n q

theorem kindM_range (s : List UInt8) : ∀ c a, kindM s a c = 0 ∨ (a ≤ kindM s a c ∧ kindM s a c < a + c) := by
  intro c
  induction c with
  | zero => intro a; exact .inl rfl
  | succ c ih =>
    intro a
    unfold kindM
    split
    · exact .inr ⟨Nat.le_refl _, by omega⟩
    · rcases ih (a + 1) with h | h
      · exact .inl h
      · exact .inr (by omega)
theorem signK_at {L : List TokL} {a f t : Nat} (h : a < L.length) : signK L a f t = if (L[a]).k = 5 then kindM (L[a]).x f (t + 1 - f) else 0 := by unfold signK; rw [List.getElem?_eq_getElem h]
theorem signK_le {L : List TokL} {a f t : Nat} (h : signK L a f t ≠ 0) : a < L.length ∧ f ≤ signK L a f t ∧ signK L a f t ≤ t := by
  have ha : a < L.length := by
    by_cases hc : a < L.length
    · exact hc
    · exact absurd (by unfold signK; rw [List.getElem?_eq_none (by omega)]) h
  refine ⟨ha, ?_⟩
  have e : signK L a f t = if (L[a]).k = 5 then kindM (L[a]).x f (t + 1 - f) else 0 := by unfold signK; rw [List.getElem?_eq_getElem ha]
  rw [e] at h ⊢
  split at h
  · rename_i h5
    rw [if_pos h5]
    rcases kindM_range (L[a]).x (t + 1 - f) f with hz | hz
    · exact absurd hz h
    · omega
  · exact absurd rfl h
/- how far a reading that ends comes: no more parts than words -/
def StIn (L : List TokL) (q : StL) : Prop := q.2.length ≤ q.1 ∧ q.1 ≤ L.length
theorem signed_in {L : List TokL} {q r : StL} (h : signedM L q = some r) (hq : StIn L q) : StIn L r ∧ q.1 < L.length := by
  have ha : q.1 < L.length := by
    by_cases hc : q.1 < L.length
    · exact hc
    · exact absurd h (by unfold signedM; rw [List.getElem?_eq_none (by omega)]; simp)
  unfold signedM at h
  rw [List.getElem?_eq_getElem ha] at h
  simp only at h
  split at h
  · simp only [Option.some.injEq] at h
    subst h
    exact ⟨⟨by rw [List.length_append]; exact Nat.add_le_add_right hq.1 1, ha⟩, ha⟩
  · cases h

/- what the five words come to: of two signs the closer one first, of two as close the first one -/
def noTok5 (k : Int) (x : List UInt8) : TokL := ⟨k, x, noTerm, 0⟩
def bindsL (a b : Nat) : List TokL := [noTok5 2 [97], noTok5 5 (markN a), noTok5 2 [98], noTok5 5 (markN b), noTok5 2 [99]]
def closeN (k : Nat) : Nat := if k = 7 then 0 else if k = 6 then 1 else if k ≤ 13 then 2 else if k ≤ 15 then 3 else 4
def bindsR (a b : Nat) : StL :=
  if closeN a = 2 ∧ closeN b = 2 then (3, [varPart [97], varPart [98], signPart a])
  else if closeN b ≤ closeN a then (5, [varPart [97], varPart [98], signPart a, varPart [99], signPart b])
  else (5, [varPart [97], varPart [98], varPart [99], signPart b, signPart a])
theorem binds_all : ((List.range 12).map fun a => (List.range 12).map fun b => chainM (bindsL (a + 6) (b + 6)) 6 0 (0, [])) = ((List.range 12).map fun a => (List.range 12).map fun b => some (bindsR (a + 6) (b + 6))) := by kernel_rfl
theorem binds_ans (a b : Nat) (ha : 6 ≤ a) (ha' : a < 18) (hb : 6 ≤ b) (hb' : b < 18) : chainM (bindsL a b) 6 0 (0, []) = some (bindsR a b) := by
  have h := congrArg (fun l => (l[a - 6]?.getD [])[b - 6]?) binds_all
  simp only [List.getElem?_map, List.getElem?_range (show a - 6 < 12 by omega), Option.map_some, Option.getD_some, List.getElem?_range (show b - 6 < 12 by omega), Nat.sub_add_cancel ha, Nat.sub_add_cancel hb, Option.some.injEq] at h
  exact h

end Go.Proofs.Ytiliobfgmelncaa
