/- The term that a list of bytes begins with, as a plain function (no program), in the steps of package term's own functions. -/
import Derived.Test.YtnfmjkinahbilaaDoorTermPlain
import Derived.Lib.Strings
import Derived.Lib.Bytes2
namespace Go.Proofs.YtnfmjkinahbilaaDoor

/- a list as a text -/
def bs (l : List UInt8) : ByteArray := ⟨l.toArray⟩
theorem bs_data (l : List UInt8) : (bs l).data.toList = l := rfl
theorem bs_size (l : List UInt8) : (bs l).size = l.length := rfl
theorem bs_toList (l : List UInt8) : (bs l).toList = l := by rw [Lib.toList_data]; rfl
theorem bs_of (s : ByteArray) : bs s.data.toList = s := rfl
theorem bs_eq {s : ByteArray} {l : List UInt8} (h : s.data.toList = l) : s = bs l := by subst h; rfl
theorem bs_nil : bs [] = ⟨#[]⟩ := rfl
theorem bs_inj {a b : List UInt8} : bs a = bs b ↔ a = b := ⟨fun h => by have := congrArg (fun s => s.data.toList) h; exact this, fun h => by rw [h]⟩
theorem data_inj {a b : ByteArray} : a.data.toList = b.data.toList ↔ a = b := ⟨fun h => by rw [bs_eq h]; rfl, fun h => by rw [h]⟩

/- an IRI with its brackets -/
def bracketS (l : List UInt8) : List UInt8 × Nat :=
  if Lib.hasPrefix l [60] then
    if iriLead (l.drop 1) = 0 ∨ Lib.hasPrefix (l.drop (iriLead (l.drop 1) + 1)) [62] = false then ([], 0)
    else ((l.drop 1).take (iriLead (l.drop 1)), iriLead (l.drop 1) + 2)
  else ([], 0)

def typeS (l : List UInt8) : List UInt8 × Nat :=
  if (bracketS (l.drop 2)).2 = 0 then ([], 0) else ((bracketS (l.drop 2)).1, (bracketS (l.drop 2)).2 + 2)

def langS (l : List UInt8) : List UInt8 × Nat :=
  if langLead (l.drop 1) = 0 ∨ 8 < langLead (l.drop 1) then ([], 0) else ((l.drop 1).take (langLead (l.drop 1)), langLead (l.drop 1) + 1)

/- the byte that is meant by a backslash and a byte -/
def escB (b : UInt8) : Option UInt8 := if b = 110 then some 10 else if b = 116 then some 9 else if b = 34 ∨ b = 92 then some b else none

/- a literal's text behind its first double quote: what is taken so far, is a backslash open, how many bytes are gone -/
def unq : List UInt8 → List UInt8 → Bool → Nat → List UInt8 × Nat
  | [], _, _, _ => ([], 0)
  | b :: r, t, true, i => match escB b with
    | none => ([], 0)
    | some c => if 4096 < t.length + 1 then ([], 0) else unq r (t ++ [c]) false (i + 1)
  | b :: r, t, false, i =>
    if b = 34 then (t, i + 2)
    else if b = 92 then unq r t true (i + 1)
    else if b < 32 ∨ litZ (b.toNat : Int) = false then ([], 0)
    else if 4096 < t.length + 1 then ([], 0) else unq r (t ++ [b]) false (i + 1)
def unquoteS (l : List UInt8) : List UInt8 × Nat := unq (l.drop 1) [] false 0

/- the Type or the Lang behind a literal -/
def tagS (r : List UInt8) : List UInt8 × List UInt8 × Nat :=
  if Lib.hasPrefix r [94, 94] then ((typeS r).1, [], (typeS r).2) else if Lib.hasPrefix r [64] then ([], (langS r).1, (langS r).2) else ([], [], 0)

structure TermL where
  k : Int
  x : List UInt8
  y : List UInt8
  z : List UInt8
def noTerm : TermL := ⟨0, [], [], []⟩
def TermL.v (t : TermL) : Value := .agg #[.int .i64 t.k, .string (bs t.x), .string (bs t.y), .string (bs t.z)]

def iriS (l : List UInt8) : TermL × Nat := if (bracketS l).2 = 0 then (noTerm, 0) else (⟨1, (bracketS l).1, [], []⟩, (bracketS l).2)
def namedS (k : Int) (l : List UInt8) (n : Nat) : TermL × Nat := if nameLead (l.drop n) = 0 then (noTerm, 0) else (⟨k, (l.drop n).take (nameLead (l.drop n)), [], []⟩, n + nameLead (l.drop n))
def literalS (l : List UInt8) : TermL × Nat :=
  if (unquoteS l).2 = 0 then (noTerm, 0)
  else (⟨2, (unquoteS l).1, (tagS (l.drop (unquoteS l).2)).1, (tagS (l.drop (unquoteS l).2)).2.1⟩, (unquoteS l).2 + (tagS (l.drop (unquoteS l).2)).2.2)
def prefixS (l : List UInt8) : TermL × Nat :=
  if Lib.hasPrefix l [60] then iriS l else if Lib.hasPrefix l [95, 58] then namedS 3 l 2 else if Lib.hasPrefix l [63] then namedS 4 l 1
  else if Lib.hasPrefix l [34] then literalS l else (noTerm, 0)

theorem lead_drop_le (p : Nat → Int → Bool) (l : List UInt8) (n : Nat) : lead p 0 (l.drop n) ≤ l.length - n := by
  have := lead_le p 0 (l.drop n); simpa using this

theorem unq_le : ∀ (l t : List UInt8) (o : Bool) (i : Nat), (unq l t o i).2 ≤ l.length + i + 1 := by
  intro l
  induction l with
  | nil => intro t o i; simp [unq]
  | cons b r ih =>
    intro t o i
    cases o with
    | true =>
      unfold unq
      cases escB b with
      | none => simp
      | some c =>
        have := ih (t ++ [c]) false (i + 1)
        simp only [List.length_cons]
        split <;> simp <;> omega
    | false =>
      unfold unq
      repeat' split
      all_goals first | (simp; done) | (simp; omega) | skip
      · have := ih t true (i + 1); simp; omega
      · have := ih (t ++ [b]) false (i + 1); simp; omega

theorem bracketS_le (l : List UInt8) : (bracketS l).2 ≤ l.length + 1 := by
  have := lead_drop_le (fun k c => decide (k < 4096) && iriZ c) l 1
  rw [show lead (fun k c => decide (k < 4096) && iriZ c) 0 (l.drop 1) = iriLead (l.drop 1) from rfl] at this
  unfold bracketS
  repeat' split
  all_goals dsimp only
  all_goals omega
theorem typeS_le (l : List UInt8) : (typeS l).2 ≤ l.length + 3 := by
  have := bracketS_le (l.drop 2)
  rw [List.length_drop] at this
  unfold typeS
  split <;> dsimp only <;> omega
theorem langS_le (l : List UInt8) : (langS l).2 ≤ 9 := by
  unfold langS
  split <;> dsimp only <;> omega

def escZ (r : Int) : Int × Bool := if r = 110 then (10, true) else if r = 116 then (9, true) else if r = 34 ∨ r = 92 then (r, true) else (0, false)

theorem u8_of {b : UInt8} {n : Nat} (hn : n < 256) : (b.toNat : Int) = n ↔ b = UInt8.ofNat n := by
  constructor
  · intro h
    have h' : b.toNat = n := by omega
    rw [← h']; simp
  · intro h; subst h; simp; omega

theorem escZ_some {b c : UInt8} (h : escB b = some c) : escZ (b.toNat : Int) = ((c.toNat : Int), true) ∧ b.toNat < 128 := by
  unfold escB at h
  by_cases h1 : b = 110
  · subst h1; simp at h; subst h; decide
  · by_cases h2 : b = 116
    · subst h2; simp at h; subst h; decide
    · by_cases h3 : b = 34
      · subst h3; simp at h; subst h; decide
      · by_cases h4 : b = 92
        · subst h4; simp at h; subst h; decide
        · simp [h1, h2, h3, h4] at h
theorem escZ_none {b : UInt8} (h : escB b = none) : escZ (b.toNat : Int) = (0, false) := by
  unfold escB at h
  by_cases h1 : b = 110
  · subst h1; simp at h
  · by_cases h2 : b = 116
    · subst h2; simp at h
    · by_cases h3 : b = 34
      · subst h3; simp at h
      · by_cases h4 : b = 92
        · subst h4; simp at h
        · have e1 : ¬ (b.toNat : Int) = 110 := fun e => h1 ((u8_of (n := 110) (by omega)).1 e)
          have e2 : ¬ (b.toNat : Int) = 116 := fun e => h2 ((u8_of (n := 116) (by omega)).1 e)
          have e3 : ¬ (b.toNat : Int) = 34 := fun e => h3 ((u8_of (n := 34) (by omega)).1 e)
          have e4 : ¬ (b.toNat : Int) = 92 := fun e => h4 ((u8_of (n := 92) (by omega)).1 e)
          simp [escZ, e1, e2, e3, e4]
theorem escZ_high {r : Int} (h : 128 ≤ r) : escZ r = (0, false) := by
  have e1 : ¬ r = 110 := by omega
  have e2 : ¬ r = 116 := by omega
  have e3 : ¬ r = 34 := by omega
  have e4 : ¬ r = 92 := by omega
  simp [escZ, e1, e2, e3, e4]
theorem escB_high {b : UInt8} (h : 128 ≤ b.toNat) : escB b = none := by
  cases e : escB b with
  | none => rfl
  | some c => have := (escZ_some e).2; omega

theorem unq_end (t : List UInt8) (o : Bool) (l : List UInt8) (k : Nat) (h : l.length ≤ k) : unq (l.drop k) t o k = ([], 0) := by
  rw [List.drop_eq_nil_of_le h]; simp [unq]
theorem unq_esc_no (l t : List UInt8) (k : Nat) (h : k < l.length) (e : escB l[k] = none) : unq (l.drop k) t true k = ([], 0) := by
  rw [List.drop_eq_getElem_cons h]; simp [unq, e]
theorem unq_esc (l t : List UInt8) (k : Nat) (h : k < l.length) {c : UInt8} (e : escB l[k] = some c) :
    unq (l.drop k) t true k = if 4096 < t.length + 1 then ([], 0) else unq (l.drop (k + 1)) (t ++ [c]) false (k + 1) := by
  rw [List.drop_eq_getElem_cons h]; simp [unq, e]
theorem unq_close (l t : List UInt8) (k : Nat) (h : k < l.length) (e : (l[k].toNat : Int) = 34) : unq (l.drop k) t false k = (t, k + 2) := by
  rw [List.drop_eq_getElem_cons h, (u8_of (n := 34) (by omega)).1 e]; simp [unq]
theorem unq_open (l t : List UInt8) (k : Nat) (h : k < l.length) (e : (l[k].toNat : Int) = 92) : unq (l.drop k) t false k = unq (l.drop (k + 1)) t true (k + 1) := by
  rw [List.drop_eq_getElem_cons h, (u8_of (n := 92) (by omega)).1 e]; simp [unq]
theorem u8_lt32 (b : UInt8) : b < 32 ↔ (b.toNat : Int) < 32 := by rw [UInt8.lt_iff_toNat_lt]; simp; omega
theorem unq_cons (b : UInt8) (r t : List UInt8) (i : Nat) : unq (b :: r) t false i =
    if b = 34 then (t, i + 2)
    else if b = 92 then unq r t true (i + 1)
    else if b < 32 ∨ litZ (b.toNat : Int) = false then ([], 0)
    else if 4096 < t.length + 1 then ([], 0) else unq r (t ++ [b]) false (i + 1) := by rw [unq]
theorem not34 {b : UInt8} (e : (b.toNat : Int) ≠ 34) : ¬ b = 34 := fun c => e (by rw [c]; rfl)
theorem not92 {b : UInt8} (e : (b.toNat : Int) ≠ 92) : ¬ b = 92 := fun c => e (by rw [c]; rfl)
theorem unq_bad (l t : List UInt8) (k : Nat) (h : k < l.length) (e1 : (l[k].toNat : Int) ≠ 34) (e2 : (l[k].toNat : Int) ≠ 92) (e : (l[k].toNat : Int) < 32 ∨ litZ (l[k].toNat : Int) = false) : unq (l.drop k) t false k = ([], 0) := by
  rw [List.drop_eq_getElem_cons h, unq_cons, if_neg (not34 e1), if_neg (not92 e2), if_pos (by rw [u8_lt32]; exact e)]
theorem unq_take (l t : List UInt8) (k : Nat) (h : k < l.length) (e1 : (l[k].toNat : Int) ≠ 34) (e2 : (l[k].toNat : Int) ≠ 92) (e3 : ¬ (l[k].toNat : Int) < 32) (e4 : litZ (l[k].toNat : Int) = true) :
    unq (l.drop k) t false k = if 4096 < t.length + 1 then ([], 0) else unq (l.drop (k + 1)) (t ++ [l[k]]) false (k + 1) := by
  rw [List.drop_eq_getElem_cons h, unq_cons, if_neg (not34 e1), if_neg (not92 e2), if_neg (by rw [u8_lt32, e4]; simp; omega)]

def readS (l : List UInt8) : TermL × Int := if (prefixS l).2 = l.length then ((prefixS l).1, 0) else (noTerm, 2)

end Go.Proofs.YtnfmjkinahbilaaDoor
