/- Signs, blanks and digits in the steps of package lex and of the document's own answer (no program). -/
import Derived.Test.YtgkpdcjkobieiaaDoorLexPlain
import Derived.Lib.SlTrimSet
namespace Go.Proofs.YtgkpdcjkobieiaaDoor

/- a byte as a number -/
theorem byteZ (c n : UInt8) : ((c.toNat : Int) = (n.toNat : Int)) ↔ c = n := ⟨fun h => UInt8.toNat_inj.1 (by omega), fun h => by rw [h]⟩
theorem z9 (c : UInt8) : ((c.toNat : Int) = 9) ↔ c = 9 := byteZ c 9
theorem z10 (c : UInt8) : ((c.toNat : Int) = 10) ↔ c = 10 := byteZ c 10
theorem z32 (c : UInt8) : ((c.toNat : Int) = 32) ↔ c = 32 := byteZ c 32
theorem z33 (c : UInt8) : ((c.toNat : Int) = 33) ↔ c = 33 := byteZ c 33
theorem z40 (c : UInt8) : ((c.toNat : Int) = 40) ↔ c = 40 := byteZ c 40
theorem z41 (c : UInt8) : ((c.toNat : Int) = 41) ↔ c = 41 := byteZ c 41
theorem z42 (c : UInt8) : ((c.toNat : Int) = 42) ↔ c = 42 := byteZ c 42
theorem z43 (c : UInt8) : ((c.toNat : Int) = 43) ↔ c = 43 := byteZ c 43
theorem z44 (c : UInt8) : ((c.toNat : Int) = 44) ↔ c = 44 := byteZ c 44
theorem z45 (c : UInt8) : ((c.toNat : Int) = 45) ↔ c = 45 := byteZ c 45
theorem z46 (c : UInt8) : ((c.toNat : Int) = 46) ↔ c = 46 := byteZ c 46
theorem z47 (c : UInt8) : ((c.toNat : Int) = 47) ↔ c = 47 := byteZ c 47
theorem z60 (c : UInt8) : ((c.toNat : Int) = 60) ↔ c = 60 := byteZ c 60
theorem z61 (c : UInt8) : ((c.toNat : Int) = 61) ↔ c = 61 := byteZ c 61
theorem z62 (c : UInt8) : ((c.toNat : Int) = 62) ↔ c = 62 := byteZ c 62
theorem z123 (c : UInt8) : ((c.toNat : Int) = 123) ↔ c = 123 := byteZ c 123
theorem z125 (c : UInt8) : ((c.toNat : Int) = 125) ↔ c = 125 := byteZ c 125
theorem pre_head (c : UInt8) (r : List UInt8) (a : UInt8) : Lib.hasPrefix (c :: r) [a] = (c == a) := by
  unfold Lib.hasPrefix
  show (a == c && List.isPrefixOf [] r) = (c == a)
  rw [Bool.eq_iff_iff]
  simp only [Bool.and_eq_true, beq_iff_eq, List.isPrefixOf_nil_left, and_true]
  exact eq_comm
/- which piece of n bytes of a row a list begins with: from place k on, f places are left -/
def pickS (row : List UInt8) (n : Nat) (l : List UInt8) : Nat → Nat → List UInt8
  | 0, _ => []
  | f + 1, k => if k % n = 0 ∧ Lib.hasPrefix l ((row.drop k).take n) = true then (row.drop k).take n else pickS row n l f (k + 1)
def doubleT : List UInt8 := [60, 61, 62, 61, 33, 61, 38, 38, 124, 124]
def singleT : List UInt8 := [123, 125, 40, 41, 46, 44, 42, 43, 45, 47, 61, 60, 62, 33]
theorem pick_yes {row : List UInt8} {n : Nat} {l : List UInt8} {f k : Nat} (h : k % n = 0) (h2 : Lib.hasPrefix l ((row.drop k).take n) = true) : pickS row n l (f + 1) k = (row.drop k).take n := by unfold pickS; rw [if_pos ⟨h, h2⟩]
theorem pick_no {row : List UInt8} {n : Nat} {l : List UInt8} {f k : Nat} (h : k % n = 0 → Lib.hasPrefix l ((row.drop k).take n) = false) : pickS row n l (f + 1) k = pickS row n l f (k + 1) := by
  conv => lhs; unfold pickS
  rw [if_neg]
  rintro ⟨a, b⟩; rw [h a] at b; cases b

theorem pre_two (l : List UInt8) (a b : UInt8) (h : Lib.hasPrefix l [a, b] = true) : l.take 2 = [a, b] := by
  match l with
  | [] => cases h
  | [c] => simp [Lib.hasPrefix] at h
  | c :: d :: r => simp [Lib.hasPrefix] at h; simp [h.1, h.2]
theorem pre_one (l : List UInt8) (a : UInt8) (h : Lib.hasPrefix l [a] = true) : l.take 1 = [a] := by
  match l with
  | [] => cases h
  | c :: r => simp [Lib.hasPrefix] at h; simp [h]

/- the row's sign is the list's own piece -/
def twoT (l : List UInt8) : List UInt8 := if twoB l then l.take 2 else []
def oneT (l : List UInt8) : List UInt8 := if oneB l then l.take 1 else []
theorem pick_two (l : List UInt8) : pickS doubleT 2 l 10 0 = twoT l := by
  unfold twoT twoB
  simp only [pickS, doubleT]
  simp only [List.drop_zero, List.drop_succ_cons, List.take_succ_cons, List.take_zero, Nat.reduceMod, Nat.reduceAdd, true_and, false_and, if_false, Nat.reduceEqDiff, List.take_nil]
  cases h1 : Lib.hasPrefix l [60, 61] with
  | true => simp [pre_two _ _ _ h1]
  | false =>
    cases h2 : Lib.hasPrefix l [62, 61] with
    | true => simp [pre_two _ _ _ h2]
    | false =>
      cases h3 : Lib.hasPrefix l [33, 61] with
      | true => simp [pre_two _ _ _ h3]
      | false =>
        cases h4 : Lib.hasPrefix l [38, 38] with
        | true => simp [pre_two _ _ _ h4]
        | false =>
          cases h5 : Lib.hasPrefix l [124, 124] with
          | true => simp [pre_two _ _ _ h5]
          | false => simp
theorem pick_single (l : List UInt8) : ∀ row : List UInt8, ∀ k f, f + k = row.length → pickS row 1 l f k = if (row.drop k).any (fun c => Lib.hasPrefix l [c]) then l.take 1 else [] := by
  intro row k f
  induction f generalizing k with
  | zero => intro h; rw [List.drop_eq_nil_of_le (by omega)]; simp [pickS]
  | succ f ih =>
    intro h
    have hk : k < row.length := by omega
    rw [List.drop_eq_getElem_cons hk, List.any_cons]
    unfold pickS
    rw [List.drop_eq_getElem_cons hk, List.take_succ_cons, List.take_zero, Nat.mod_one]
    cases h1 : Lib.hasPrefix l [row[k]] with
    | true => simp [pre_one _ _ h1]
    | false => rw [if_neg (by simp), ih (k + 1) (by omega), Bool.false_or]
theorem pick_one (l : List UInt8) : pickS singleT 1 l 14 0 = oneT l := by
  rw [pick_single l singleT 0 14 rfl]
  unfold oneT
  congr 1
  rw [eq_iff_iff, List.drop_zero]
  match l with
  | [] => simp [Lib.hasPrefix, oneB]
  | c :: r =>
    have e : ∀ a : UInt8, Lib.hasPrefix (c :: r) [a] = (c == a) := fun a => pre_head c r a
    simp only [e, singleT, oneB, oneZ, List.any_cons, List.any_nil, z123 c, z125 c, z40 c, z41 c, z46 c, z44 c, z42 c, z43 c, z45 c, z47 c, z61 c, z60 c, z62 c, z33 c]
    simp only [Bool.or_eq_true, beq_iff_eq, decide_eq_true_iff, Bool.or_false]

/- the sign by its own text, as the program has it -/
theorem two_len (l : List UInt8) (h : twoB l = true) : 2 ≤ l.length := by
  unfold twoB at h
  simp only [Bool.or_eq_true] at h
  rcases h with (((h | h) | h) | h) | h <;> (have := Lib.hasPrefix_le h; simpa using this)
theorem one_len (l : List UInt8) (h : oneB l = true) : 1 ≤ l.length := by
  cases l with
  | nil => cases h
  | cons b r => simp
def signT (l : List UInt8) : List UInt8 := if twoT l ≠ [] then twoT l else oneT l
theorem signT_take (l : List UInt8) : signT l = l.take (signN l) ∧ (signT l).length = signN l := by
  have h2 := two_len l
  have h1 := one_len l
  unfold signT twoT oneT signN
  cases e2 : twoB l with
  | true =>
    have := h2 e2
    simp
    have hne : l ≠ [] := by rintro rfl; simp at this
    simp [hne]; omega
  | false =>
    cases e1 : oneB l with
    | true => have := h1 e1; simp; omega
    | false => simp

/- blanks cut off, as the shelf tells it -/
theorem trim_lead (l : List UInt8) : Lib.trimLeftS l [32, 9, 10] = l.drop (spaceLead l) := by
  unfold Lib.trimLeftS spaceLead
  have key : ∀ (l : List UInt8) (k : Nat), l.dropWhile ([32, 9, 10].contains ·) = l.drop (lead (fun _ c => spaceZ c) k l) := by
    intro l
    induction l with
    | nil => intro k; rfl
    | cons b r ih =>
      intro k
      have e : ([32, 9, 10].contains b) = spaceZ (b.toNat : Int) := by
        rw [Bool.eq_iff_iff]
        simp only [spaceZ, z32 b, z9 b, z10 b]
        simp
      rw [List.dropWhile_cons, e]
      simp only [lead]
      split
      · rw [ih (k + 1)]; rfl
      · rfl
  exact key l 0
theorem space_le (l : List UInt8) : spaceLead l ≤ l.length := lead_le _ 0 l

/- a full stop ahead, by the document's look at one byte -/
theorem stop_ahead (l : List UInt8) (n : Nat) (h : n < l.length) : Lib.hasPrefix (l.drop n) [46] = decide ((l[n].toNat : Int) = 46) := by
  rw [List.drop_eq_getElem_cons h, pre_head, Bool.eq_iff_iff, decide_eq_true_iff, z46]
  exact beq_iff_eq
theorem stop_none (l : List UInt8) (n : Nat) (h : l.length ≤ n) : Lib.hasPrefix (l.drop n) [46] = false := by
  rw [List.drop_eq_nil_of_le h]; rfl

end Go.Proofs.YtgkpdcjkobieiaaDoor
