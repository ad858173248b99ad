/- TermPlain, TermAheadPlain, LexPlain, FormPlain, FormCheckPlain, NumPlain, NumReadPlain, NumDigits, EvalPlain, EvalOf, EvalLaws, EvalRel, put together. -/
import Derived.WalkKit
import Derived.Lib.Strings
import Derived.Lib.Bytes2
import Derived.KernelRfl
import Derived.Lib.Bytealg
import Derived.Lib.ItoaMem
import Derived.Lib.Repeat

/- Plain words on bytes and lists of bytes for terms (no program): which bytes a name, an IRI, a literal and a language may have, and how many of them a list begins with. -/
namespace Go.Proofs.YtkfemnjblbnclaaGreatDoor

/- tests on a byte or a rune, as a number -/
def smallZ (c : Int) : Bool := decide (97 ≤ c ∧ c ≤ 122)
def bigZ (c : Int) : Bool := decide (65 ≤ c ∧ c ≤ 90)
def digitZ (c : Int) : Bool := decide (48 ≤ c ∧ c ≤ 57)
def letterZ (c : Int) : Bool := smallZ c || bigZ c
def wordZ (c : Int) : Bool := letterZ c || digitZ c || decide (c = 95)
def nameZ (c k : Int) : Bool := letterZ c || (decide (0 < k) && (decide (c = 95) || digitZ c))
def litZ (c : Int) : Bool := decide (32 ≤ c ∧ c ≤ 126) || decide (c = 10) || decide (c = 9)
def markZ (c : Int) : Bool := decide (c = 60 ∨ c = 62 ∨ c = 34 ∨ c = 123 ∨ c = 125 ∨ c = 124 ∨ c = 94 ∨ c = 96 ∨ c = 92)
def iriZ (c : Int) : Bool := decide (33 ≤ c ∧ c ≤ 126) && !markZ c

theorem small_high {c : Int} (h : 128 ≤ c) : smallZ c = false := by simp [smallZ]; omega
theorem name_high {c k : Int} (h : 128 ≤ c) : nameZ c k = false := by
  simp [nameZ, letterZ, smallZ, bigZ, digitZ]; omega
theorem lit_high {c : Int} (h : 128 ≤ c) : litZ c = false := by simp [litZ]; omega
theorem iri_high {c : Int} (h : 128 ≤ c) : iriZ c = false := by
  simp [iriZ]; omega

/- how many elements a list begins with that meet a test which may ask for the place -/
def lead (p : Nat → Int → Bool) : Nat → List UInt8 → Nat
  | _, [] => 0
  | k, b :: r => if p k (b.toNat : Int) then lead p (k + 1) r + 1 else 0

theorem lead_le (p : Nat → Int → Bool) (k : Nat) (l : List UInt8) : lead p k l ≤ l.length := by
  induction l generalizing k with
  | nil => simp [lead]
  | cons b r ih => simp only [lead, List.length_cons]; split <;> have := ih (k + 1) <;> omega

theorem lead_drop_yes (p : Nat → Int → Bool) (l : List UInt8) (k : Nat) (h : k < l.length) (hp : p k (l[k].toNat : Int) = true) :
    lead p k (l.drop k) = lead p (k + 1) (l.drop (k + 1)) + 1 := by
  rw [List.drop_eq_getElem_cons h]; simp [lead, hp]
theorem lead_drop_no (p : Nat → Int → Bool) (l : List UInt8) (k : Nat) (h : k < l.length) (hp : p k (l[k].toNat : Int) = false) :
    lead p k (l.drop k) = 0 := by
  rw [List.drop_eq_getElem_cons h]; simp [lead, hp]
theorem lead_drop_end (p : Nat → Int → Bool) (l : List UInt8) (k : Nat) (h : l.length ≤ k) : lead p k (l.drop k) = 0 := by
  rw [List.drop_eq_nil_of_le h]; rfl

theorem ret_bool {a b : Bool} (h : a = b) : Ending.returned (.bool a) = .returned (.bool b) := by rw [h]
theorem ret_int {k : IntKind} {a b : Int} (h : a = b) : Ending.returned (.int k a) = .returned (.int k b) := by rw [h]

def nameLead (l : List UInt8) : Nat := lead (fun k c => decide (k < 32) && nameZ c k) 0 l
def iriLead (l : List UInt8) : Nat := lead (fun k c => decide (k < 4096) && iriZ c) 0 l
def langLead (l : List UInt8) : Nat := lead (fun k c => decide (k ≤ 8) && smallZ c) 0 l

def nameL (l : List UInt8) : Bool := !l.isEmpty && nameLead l == l.length
def iriL (l : List UInt8) : Bool := !l.isEmpty && iriLead l == l.length
def langL (l : List UInt8) : Bool := !l.isEmpty && langLead l == l.length && decide (l.length ≤ 8)
def litL (l : List UInt8) : Bool := decide (l.length ≤ 4096) && l.all fun b => litZ (b.toNat : Int)

def tagL (y z : List UInt8) : Bool := if z.isEmpty then y.isEmpty || iriL y else y.isEmpty && langL z
def bareL (y z : List UInt8) : Bool := y.isEmpty && z.isEmpty
def rightL (k : Int) (x y z : List UInt8) : Bool :=
  if k = 1 then bareL y z && iriL x else if k = 3 ∨ k = 4 then bareL y z && nameL x else if k = 2 then litL x && tagL y z else decide (k = 0) && x.isEmpty && bareL y z

end Go.Proofs.YtkfemnjblbnclaaGreatDoor

/- The term that a list of bytes begins with, as a plain function (no program), in the steps of package term's own functions. -/
namespace Go.Proofs.YtkfemnjblbnclaaGreatDoor

/- a list as a text -/
def bs (l : List UInt8) : ByteArray := ⟨l.toArray⟩
theorem bs_data (l : List UInt8) : (bs l).data.toList = l := rfl
theorem bs_size (l : List UInt8) : (bs l).size = l.length := rfl
theorem bs_toList (l : List UInt8) : (bs l).toList = l := by rw [Lib.toList_data]; rfl
theorem bs_of (s : ByteArray) : bs s.data.toList = s := rfl
theorem bs_eq {s : ByteArray} {l : List UInt8} (h : s.data.toList = l) : s = bs l := by subst h; rfl
theorem bs_nil : bs [] = ⟨#[]⟩ := rfl
theorem bs_inj {a b : List UInt8} : bs a = bs b ↔ a = b := ⟨fun h => by have := congrArg (fun s => s.data.toList) h; exact this, fun h => by rw [h]⟩
theorem data_inj {a b : ByteArray} : a.data.toList = b.data.toList ↔ a = b := ⟨fun h => by rw [bs_eq h]; rfl, fun h => by rw [h]⟩

/- an IRI with its brackets -/
def bracketS (l : List UInt8) : List UInt8 × Nat :=
  if Lib.hasPrefix l [60] then
    if iriLead (l.drop 1) = 0 ∨ Lib.hasPrefix (l.drop (iriLead (l.drop 1) + 1)) [62] = false then ([], 0)
    else ((l.drop 1).take (iriLead (l.drop 1)), iriLead (l.drop 1) + 2)
  else ([], 0)

def typeS (l : List UInt8) : List UInt8 × Nat :=
  if (bracketS (l.drop 2)).2 = 0 then ([], 0) else ((bracketS (l.drop 2)).1, (bracketS (l.drop 2)).2 + 2)

def langS (l : List UInt8) : List UInt8 × Nat :=
  if langLead (l.drop 1) = 0 ∨ 8 < langLead (l.drop 1) then ([], 0) else ((l.drop 1).take (langLead (l.drop 1)), langLead (l.drop 1) + 1)

/- the byte that is meant by a backslash and a byte -/
def escB (b : UInt8) : Option UInt8 := if b = 110 then some 10 else if b = 116 then some 9 else if b = 34 ∨ b = 92 then some b else none

/- a literal's text behind its first double quote: what is taken so far, is a backslash open, how many bytes are gone -/
def unq : List UInt8 → List UInt8 → Bool → Nat → List UInt8 × Nat
  | [], _, _, _ => ([], 0)
  | b :: r, t, true, i => match escB b with
    | none => ([], 0)
    | some c => if 4096 < t.length + 1 then ([], 0) else unq r (t ++ [c]) false (i + 1)
  | b :: r, t, false, i =>
    if b = 34 then (t, i + 2)
    else if b = 92 then unq r t true (i + 1)
    else if b < 32 ∨ litZ (b.toNat : Int) = false then ([], 0)
    else if 4096 < t.length + 1 then ([], 0) else unq r (t ++ [b]) false (i + 1)
def unquoteS (l : List UInt8) : List UInt8 × Nat := unq (l.drop 1) [] false 0

/- the Type or the Lang behind a literal -/
def tagS (r : List UInt8) : List UInt8 × List UInt8 × Nat :=
  if Lib.hasPrefix r [94, 94] then ((typeS r).1, [], (typeS r).2) else if Lib.hasPrefix r [64] then ([], (langS r).1, (langS r).2) else ([], [], 0)

structure TermL where
  k : Int
  x : List UInt8
  y : List UInt8
  z : List UInt8
def noTerm : TermL := ⟨0, [], [], []⟩
def TermL.v (t : TermL) : Value := .agg #[.int .i64 t.k, .string (bs t.x), .string (bs t.y), .string (bs t.z)]

def iriS (l : List UInt8) : TermL × Nat := if (bracketS l).2 = 0 then (noTerm, 0) else (⟨1, (bracketS l).1, [], []⟩, (bracketS l).2)
def namedS (k : Int) (l : List UInt8) (n : Nat) : TermL × Nat := if nameLead (l.drop n) = 0 then (noTerm, 0) else (⟨k, (l.drop n).take (nameLead (l.drop n)), [], []⟩, n + nameLead (l.drop n))
def literalS (l : List UInt8) : TermL × Nat :=
  if (unquoteS l).2 = 0 then (noTerm, 0)
  else (⟨2, (unquoteS l).1, (tagS (l.drop (unquoteS l).2)).1, (tagS (l.drop (unquoteS l).2)).2.1⟩, (unquoteS l).2 + (tagS (l.drop (unquoteS l).2)).2.2)
def prefixS (l : List UInt8) : TermL × Nat :=
  if Lib.hasPrefix l [60] then iriS l else if Lib.hasPrefix l [95, 58] then namedS 3 l 2 else if Lib.hasPrefix l [63] then namedS 4 l 1
  else if Lib.hasPrefix l [34] then literalS l else (noTerm, 0)

theorem lead_drop_le (p : Nat → Int → Bool) (l : List UInt8) (n : Nat) : lead p 0 (l.drop n) ≤ l.length - n := by
  have := lead_le p 0 (l.drop n); simpa using this

theorem unq_le : ∀ (l t : List UInt8) (o : Bool) (i : Nat), (unq l t o i).2 ≤ l.length + i + 1 := by
  intro l
  induction l with
  | nil => intro t o i; simp [unq]
  | cons b r ih =>
    intro t o i
    cases o with
    | true =>
      unfold unq
      cases escB b with
      | none => simp
      | some c =>
        have := ih (t ++ [c]) false (i + 1)
        simp only [List.length_cons]
        split <;> simp <;> omega
    | false =>
      unfold unq
      repeat' split
      all_goals first | (simp; done) | (simp; omega) | skip
      · have := ih t true (i + 1); simp; omega
      · have := ih (t ++ [b]) false (i + 1); simp; omega

theorem bracketS_le (l : List UInt8) : (bracketS l).2 ≤ l.length + 1 := by
  have := lead_drop_le (fun k c => decide (k < 4096) && iriZ c) l 1
  rw [show lead (fun k c => decide (k < 4096) && iriZ c) 0 (l.drop 1) = iriLead (l.drop 1) from rfl] at this
  unfold bracketS
  repeat' split
  all_goals dsimp only
  all_goals omega
theorem typeS_le (l : List UInt8) : (typeS l).2 ≤ l.length + 3 := by
  have := bracketS_le (l.drop 2)
  rw [List.length_drop] at this
  unfold typeS
  split <;> dsimp only <;> omega
theorem langS_le (l : List UInt8) : (langS l).2 ≤ 9 := by
  unfold langS
  split <;> dsimp only <;> omega

def escZ (r : Int) : Int × Bool := if r = 110 then (10, true) else if r = 116 then (9, true) else if r = 34 ∨ r = 92 then (r, true) else (0, false)

theorem u8_of {b : UInt8} {n : Nat} (hn : n < 256) : (b.toNat : Int) = n ↔ b = UInt8.ofNat n := by
  constructor
  · intro h
    have h' : b.toNat = n := by omega
    rw [← h']; simp
  · intro h; subst h; simp; omega

theorem escZ_some {b c : UInt8} (h : escB b = some c) : escZ (b.toNat : Int) = ((c.toNat : Int), true) ∧ b.toNat < 128 := by
  unfold escB at h
  by_cases h1 : b = 110
  · subst h1; simp at h; subst h; decide
  · by_cases h2 : b = 116
    · subst h2; simp at h; subst h; decide
    · by_cases h3 : b = 34
      · subst h3; simp at h; subst h; decide
      · by_cases h4 : b = 92
        · subst h4; simp at h; subst h; decide
        · simp [h1, h2, h3, h4] at h
theorem escZ_none {b : UInt8} (h : escB b = none) : escZ (b.toNat : Int) = (0, false) := by
  unfold escB at h
  by_cases h1 : b = 110
  · subst h1; simp at h
  · by_cases h2 : b = 116
    · subst h2; simp at h
    · by_cases h3 : b = 34
      · subst h3; simp at h
      · by_cases h4 : b = 92
        · subst h4; simp at h
        · have e1 : ¬ (b.toNat : Int) = 110 := fun e => h1 ((u8_of (n := 110) (by omega)).1 e)
          have e2 : ¬ (b.toNat : Int) = 116 := fun e => h2 ((u8_of (n := 116) (by omega)).1 e)
          have e3 : ¬ (b.toNat : Int) = 34 := fun e => h3 ((u8_of (n := 34) (by omega)).1 e)
          have e4 : ¬ (b.toNat : Int) = 92 := fun e => h4 ((u8_of (n := 92) (by omega)).1 e)
          simp [escZ, e1, e2, e3, e4]
theorem escZ_high {r : Int} (h : 128 ≤ r) : escZ r = (0, false) := by
  have e1 : ¬ r = 110 := by omega
  have e2 : ¬ r = 116 := by omega
  have e3 : ¬ r = 34 := by omega
  have e4 : ¬ r = 92 := by omega
  simp [escZ, e1, e2, e3, e4]
theorem escB_high {b : UInt8} (h : 128 ≤ b.toNat) : escB b = none := by
  cases e : escB b with
  | none => rfl
  | some c => have := (escZ_some e).2; omega

theorem unq_end (t : List UInt8) (o : Bool) (l : List UInt8) (k : Nat) (h : l.length ≤ k) : unq (l.drop k) t o k = ([], 0) := by
  rw [List.drop_eq_nil_of_le h]; simp [unq]
theorem unq_esc_no (l t : List UInt8) (k : Nat) (h : k < l.length) (e : escB l[k] = none) : unq (l.drop k) t true k = ([], 0) := by
  rw [List.drop_eq_getElem_cons h]; simp [unq, e]
theorem unq_esc (l t : List UInt8) (k : Nat) (h : k < l.length) {c : UInt8} (e : escB l[k] = some c) :
    unq (l.drop k) t true k = if 4096 < t.length + 1 then ([], 0) else unq (l.drop (k + 1)) (t ++ [c]) false (k + 1) := by
  rw [List.drop_eq_getElem_cons h]; simp [unq, e]
theorem unq_close (l t : List UInt8) (k : Nat) (h : k < l.length) (e : (l[k].toNat : Int) = 34) : unq (l.drop k) t false k = (t, k + 2) := by
  rw [List.drop_eq_getElem_cons h, (u8_of (n := 34) (by omega)).1 e]; simp [unq]
theorem unq_open (l t : List UInt8) (k : Nat) (h : k < l.length) (e : (l[k].toNat : Int) = 92) : unq (l.drop k) t false k = unq (l.drop (k + 1)) t true (k + 1) := by
  rw [List.drop_eq_getElem_cons h, (u8_of (n := 92) (by omega)).1 e]; simp [unq]
theorem u8_lt32 (b : UInt8) : b < 32 ↔ (b.toNat : Int) < 32 := by rw [UInt8.lt_iff_toNat_lt]; simp; omega
theorem unq_cons (b : UInt8) (r t : List UInt8) (i : Nat) : unq (b :: r) t false i =
    if b = 34 then (t, i + 2)
    else if b = 92 then unq r t true (i + 1)
    else if b < 32 ∨ litZ (b.toNat : Int) = false then ([], 0)
    else if 4096 < t.length + 1 then ([], 0) else unq r (t ++ [b]) false (i + 1) := by rw [unq]
theorem not34 {b : UInt8} (e : (b.toNat : Int) ≠ 34) : ¬ b = 34 := fun c => e (by rw [c]; rfl)
theorem not92 {b : UInt8} (e : (b.toNat : Int) ≠ 92) : ¬ b = 92 := fun c => e (by rw [c]; rfl)
theorem unq_bad (l t : List UInt8) (k : Nat) (h : k < l.length) (e1 : (l[k].toNat : Int) ≠ 34) (e2 : (l[k].toNat : Int) ≠ 92) (e : (l[k].toNat : Int) < 32 ∨ litZ (l[k].toNat : Int) = false) : unq (l.drop k) t false k = ([], 0) := by
  rw [List.drop_eq_getElem_cons h, unq_cons, if_neg (not34 e1), if_neg (not92 e2), if_pos (by rw [u8_lt32]; exact e)]
theorem unq_take (l t : List UInt8) (k : Nat) (h : k < l.length) (e1 : (l[k].toNat : Int) ≠ 34) (e2 : (l[k].toNat : Int) ≠ 92) (e3 : ¬ (l[k].toNat : Int) < 32) (e4 : litZ (l[k].toNat : Int) = true) :
    unq (l.drop k) t false k = if 4096 < t.length + 1 then ([], 0) else unq (l.drop (k + 1)) (t ++ [l[k]]) false (k + 1) := by
  rw [List.drop_eq_getElem_cons h, unq_cons, if_neg (not34 e1), if_neg (not92 e2), if_neg (by rw [u8_lt32, e4]; simp; omega)]

def readS (l : List UInt8) : TermL × Int := if (prefixS l).2 = l.length then ((prefixS l).1, 0) else (noTerm, 2)

end Go.Proofs.YtkfemnjblbnclaaGreatDoor

/- A query's text as words, in plain words (no program): the word that a list of bytes begins with, the first one from a place on, all of them. -/
namespace Go.Proofs.YtkfemnjblbnclaaGreatDoor

def spaceZ (c : Int) : Bool := decide (c = 32 ∨ c = 9 ∨ c = 10)
def spaceLead (l : List UInt8) : Nat := lead (fun _ c => spaceZ c) 0 l
def letterLead (l : List UInt8) : Nat := lead (fun _ c => letterZ c) 0 l
def digitLead (l : List UInt8) : Nat := lead (fun _ c => digitZ c) 0 l
theorem letter_high {c : Int} (h : 128 ≤ c) : letterZ c = false := by simp [letterZ, smallZ, bigZ]; omega
theorem digit_high {c : Int} (h : 128 ≤ c) : digitZ c = false := by simp [digitZ]; omega

/- a test that doesn't ask for the place: where the count begins says nothing -/
theorem lead_free (q : Int → Bool) : ∀ (j k : Nat) (l : List UInt8), lead (fun _ c => q c) j l = lead (fun _ c => q c) k l
  | _, _, [] => rfl
  | j, k, b :: r => by simp only [lead]; rw [lead_free q (j + 1) (k + 1) r]
theorem lead_drop (q : Int → Bool) (k : Nat) (l : List UInt8) : lead (fun _ c => q c) 0 (l.drop k) = lead (fun _ c => q c) k (l.drop k) := lead_free q 0 k _

structure TokL where
  k : Int
  x : List UInt8
  t : TermL
  a : Int
def noTok : TokL := ⟨0, [], noTerm, 0⟩
/- its cells, side by side -/
def TokL.v (t : TokL) : Value := .agg #[.int .i64 t.k, .string (bs t.x), .int .i64 t.t.k, .string (bs t.t.x), .string (bs t.t.y), .string (bs t.t.z), .int .i64 t.a]
def TokL.at (t : TokL) (a : Int) : TokL := ⟨t.k, t.x, t.t, a⟩

def decT : List UInt8 := [104, 116, 116, 112, 58, 47, 47, 119, 119, 119, 46, 119, 51, 46, 111, 114, 103, 47, 50, 48, 48, 49, 47, 88, 77, 76, 83, 99, 104, 101, 109, 97, 35, 100, 101, 99, 105, 109, 97, 108]

/- a term as a word -/
def termTok (t : TermL) : TokL := if t.k = 4 then ⟨2, t.x, noTerm, 0⟩ else ⟨3, [], t, 0⟩
/- a full stop and the digits behind it: how many bytes they have -/
def placesS (l : List UInt8) : Nat := if Lib.hasPrefix l [46] = true ∧ 0 < digitLead (l.drop 1) then digitLead (l.drop 1) + 1 else 0
/- the number that a list begins with n digits of -/
def digitsS (l : List UInt8) (n : Nat) : TokL × Nat :=
  if 0 < placesS (l.drop n) then (⟨3, [], ⟨2, l.take (n + placesS (l.drop n)), decT, []⟩, 0⟩, n + placesS (l.drop n)) else (⟨4, l.take n, noTerm, 0⟩, n)
/- how many bytes the sign has that a list begins with -/
def twoB (l : List UInt8) : Bool := Lib.hasPrefix l [60, 61] || Lib.hasPrefix l [62, 61] || Lib.hasPrefix l [33, 61] || Lib.hasPrefix l [38, 38] || Lib.hasPrefix l [124, 124]
def oneZ (c : Int) : Bool := decide (c = 123 ∨ c = 125 ∨ c = 40 ∨ c = 41 ∨ c = 46 ∨ c = 44 ∨ c = 42 ∨ c = 43 ∨ c = 45 ∨ c = 47 ∨ c = 61 ∨ c = 60 ∨ c = 62 ∨ c = 33)
def oneB : List UInt8 → Bool
  | [] => false
  | c :: _ => oneZ (c.toNat : Int)
def signN (l : List UInt8) : Nat := if twoB l then 2 else if oneB l then 1 else 0
def signS (l : List UInt8) : TokL × Nat := if signN l = 0 then (noTok, 0) else (⟨5, l.take (signN l), noTerm, 0⟩, signN l)
/- the word that a list begins with, and how many bytes it has -/
def wordS (l : List UInt8) : TokL × Nat :=
  if 0 < (prefixS l).2 then (termTok (prefixS l).1, (prefixS l).2)
  else if 0 < letterLead l then (⟨1, l.take (letterLead l), noTerm, 0⟩, letterLead l)
  else if 0 < digitLead l then digitsS l (digitLead l)
  else signS l
/- where the first word from a place on begins -/
def begS (l : List UInt8) (a : Nat) : Nat := a + spaceLead (l.drop a)
/- the first word from a place on, the place behind it, and the error's number -/
def nextS (l : List UInt8) (a : Nat) : TokL × Nat × Int :=
  if begS l a = l.length then (noTok, begS l a, 0)
  else if (wordS (l.drop (begS l a))).2 = 0 then (noTok, 0, 2)
  else ((wordS (l.drop (begS l a))).1.at (begS l a), begS l a + (wordS (l.drop (begS l a))).2, 0)
/- all words from a place on; or the place of what is none -/
def toksS (l : List UInt8) : Nat → Nat → List TokL × Nat × Int
  | 0, _ => ([], 0, 0)
  | f + 1, a =>
    if (nextS l a).2.2 ≠ 0 then ([], begS l a, 2)
    else if begS l a = l.length then ([], 0, 0)
    else if (toksS l f (nextS l a).2.1).2.2 = 0 then ((nextS l a).1 :: (toksS l f (nextS l a).2.1).1, 0, 0)
    else ([], (toksS l f (nextS l a).2.1).2.1, 2)
def lexS (l : List UInt8) : List TokL × Nat × Int := if 4096 < l.length then ([], 0, 3) else toksS l (l.length + 1) 0

theorem tok_at_k (t : TokL) (a : Int) : (t.at a).k = t.k := rfl

theorem begS_le {l : List UInt8} {a : Nat} (h : a ≤ l.length) : begS l a ≤ l.length := by
  have := lead_le (fun _ c => spaceZ c) 0 (l.drop a)
  rw [List.length_drop] at this
  unfold begS spaceLead; omega
theorem begS_ge (l : List UInt8) (a : Nat) : a ≤ begS l a := by unfold begS; omega

/- a word's length -/
theorem named_le (k : Int) (l : List UInt8) (n : Nat) (h : n ≤ l.length) : (namedS k l n).2 ≤ l.length := by
  have := lead_drop_le (fun k c => decide (k < 32) && nameZ c k) l n
  rw [show lead (fun k c => decide (k < 32) && nameZ c k) 0 (l.drop n) = nameLead (l.drop n) from rfl] at this
  unfold namedS
  split
  · exact Nat.zero_le _
  · dsimp only; omega
theorem hasPrefix_len {l p : List UInt8} (h : Lib.hasPrefix l p = true) : p.length ≤ l.length := Lib.hasPrefix_le h
theorem bracket_le' (l : List UInt8) : (bracketS l).2 ≤ l.length := by
  have h1 := lead_drop_le (fun k c => decide (k < 4096) && iriZ c) l 1
  rw [show lead (fun k c => decide (k < 4096) && iriZ c) 0 (l.drop 1) = iriLead (l.drop 1) from rfl] at h1
  unfold bracketS
  split
  · split
    · exact Nat.zero_le _
    · rename_i h
      have h2 : Lib.hasPrefix (l.drop (iriLead (l.drop 1) + 1)) [62] = true := by
        cases e : Lib.hasPrefix (l.drop (iriLead (l.drop 1) + 1)) [62] with
        | true => rfl
        | false => exact absurd (.inr e) h
      have h3 := Lib.hasPrefix_le h2
      rw [List.length_drop, List.length_singleton] at h3
      dsimp only; omega
  · exact Nat.zero_le _
theorem unq_le' : ∀ (l t : List UInt8) (o : Bool) (i : Nat), (unq l t o i).2 = 0 ∨ (unq l t o i).2 ≤ l.length + i + 1 := fun l t o i => .inr (unq_le l t o i)
theorem tag_le' (l : List UInt8) : (tagS l).2.2 ≤ l.length := by
  unfold tagS
  split
  · rename_i h
    have h0 := Lib.hasPrefix_le h
    have h1 := bracket_le' (l.drop 2)
    rw [List.length_drop] at h1
    unfold typeS
    split
    · exact Nat.zero_le _
    · simp at h0; dsimp only; omega
  · split
    · rename_i h
      have h0 := Lib.hasPrefix_le h
      have h1 := lead_drop_le (fun k c => decide (k ≤ 8) && smallZ c) l 1
      rw [show lead (fun k c => decide (k ≤ 8) && smallZ c) 0 (l.drop 1) = langLead (l.drop 1) from rfl] at h1
      unfold langS
      split
      · exact Nat.zero_le _
      · simp at h0; dsimp only; omega
    · exact Nat.zero_le _
theorem prefix_le (l : List UInt8) : (prefixS l).2 ≤ l.length := by
  unfold prefixS
  split
  · unfold iriS
    split
    · exact Nat.zero_le _
    · exact bracket_le' l
  · split
    · rename_i h; exact named_le 3 l 2 (by have := Lib.hasPrefix_le h; simpa using this)
    · split
      · rename_i h; exact named_le 4 l 1 (by have := Lib.hasPrefix_le h; simpa using this)
      · split
        · rename_i h
          have h0 := Lib.hasPrefix_le h
          have h1 := unq_le (l.drop 1) [] false 0
          rw [List.length_drop, Nat.add_zero] at h1
          unfold literalS
          split
          · exact Nat.zero_le _
          · have h2 := tag_le' (l.drop (unquoteS l).2)
            rw [List.length_drop] at h2
            have h3 : (unquoteS l).2 ≤ l.length := by unfold unquoteS; simp at h0; omega
            dsimp only; omega
        · exact Nat.zero_le _
theorem digits_le (l : List UInt8) (n : Nat) (h : n ≤ l.length) : (digitsS l n).2 ≤ l.length := by
  unfold digitsS
  split
  · unfold placesS
    split
    · rename_i h1
      have h2 := Lib.hasPrefix_le h1.1
      have h3 := lead_drop_le (fun _ c => digitZ c) (l.drop n) 1
      rw [show lead (fun _ c => digitZ c) 0 ((l.drop n).drop 1) = digitLead ((l.drop n).drop 1) from rfl] at h3
      rw [List.length_drop] at h2 h3
      simp at h2
      dsimp only; omega
    · exact h
  · exact h
theorem signN_le (l : List UInt8) : signN l ≤ l.length := by
  unfold signN
  split
  · rename_i h
    unfold twoB at h
    simp only [Bool.or_eq_true] at h
    rcases h with (((h | h) | h) | h) | h <;> (have := Lib.hasPrefix_le h; simpa using this)
  · split
    · rename_i h
      cases l with
      | nil => cases h
      | cons b r => simp
    · exact Nat.zero_le _
theorem word_le (l : List UInt8) : (wordS l).2 ≤ l.length := by
  unfold wordS
  split
  · exact prefix_le l
  · split
    · exact lead_le _ 0 l
    · split
      · exact digits_le l _ (lead_le _ 0 l)
      · unfold signS
        split
        · exact Nat.zero_le _
        · exact signN_le l
/- no word is of kind nought -/
theorem word_kind (l : List UInt8) (h : ¬ (wordS l).2 = 0) : (wordS l).1.k = 1 ∨ (wordS l).1.k = 2 ∨ (wordS l).1.k = 3 ∨ (wordS l).1.k = 4 ∨ (wordS l).1.k = 5 := by
  unfold wordS at h ⊢
  split
  · unfold termTok; split <;> simp
  · split
    · simp
    · split
      · unfold digitsS; split <;> simp
      · rename_i h1 h2 h3
        rw [if_neg h1, if_neg h2, if_neg h3] at h
        unfold signS at h ⊢
        split
        · rename_i h4; rw [if_pos h4] at h; exact absurd rfl h
        · simp

theorem nextS_err (l : List UInt8) (a : Nat) : (nextS l a).2.2 = 0 ∨ (nextS l a).2.2 = 2 := by
  unfold nextS
  split
  · exact .inl rfl
  · split
    · exact .inr rfl
    · exact .inl rfl
theorem toksS_err (l : List UInt8) : ∀ f a, (toksS l f a).2.2 = 0 ∨ (toksS l f a).2.2 = 2
  | 0, _ => .inl rfl
  | f + 1, a => by
    unfold toksS
    split
    · exact .inr rfl
    · split
      · exact .inl rfl
      · split
        · exact .inl rfl
        · exact .inr rfl

/- the three ways of a step -/
theorem next_end {l : List UInt8} {a : Nat} (h : begS l a = l.length) : nextS l a = (noTok, l.length, 0) := by unfold nextS; rw [if_pos h, h]
theorem next_bad {l : List UInt8} {a : Nat} (h : ¬ begS l a = l.length) (h2 : (wordS (l.drop (begS l a))).2 = 0) : nextS l a = (noTok, 0, 2) := by unfold nextS; rw [if_neg h, if_pos h2]
theorem next_word {l : List UInt8} {a : Nat} (h : ¬ begS l a = l.length) (h2 : ¬ (wordS (l.drop (begS l a))).2 = 0) : nextS l a = ((wordS (l.drop (begS l a))).1.at (begS l a), begS l a + (wordS (l.drop (begS l a))).2, 0) := by unfold nextS; rw [if_neg h, if_neg h2]

/- how far the words are taken: T so far, the place a; f rounds are left -/
def Run5 (l : List UInt8) (T : List TokL) (f a : Nat) : Prop :=
  a ≤ l.length ∧ T.length ≤ a ∧ l.length - a < f ∧ toksS l (l.length + 1) 0 = (if (toksS l f a).2.2 = 0 then (T ++ (toksS l f a).1, 0, 0) else ([], (toksS l f a).2.1, 2))
theorem run_start (l : List UInt8) : Run5 l [] (l.length + 1) 0 := by
  refine ⟨Nat.zero_le _, Nat.le_refl _, by omega, ?_⟩
  generalize hq : toksS l (l.length + 1) 0 = q
  rcases toksS_err l (l.length + 1) 0 with h | h
  · rw [hq] at h
    have h2 : q.2.1 = 0 := by
      rw [← hq] at h ⊢
      unfold toksS at h ⊢
      split
      · rename_i h0; rw [if_pos h0] at h; cases h
      · split
        · rfl
        · split
          · rfl
          · rename_i h0 h1 h2; rw [if_neg h0, if_neg h1, if_neg h2] at h; cases h
    rw [if_pos h]
    obtain ⟨x, y, z⟩ := q
    simp at h h2; subst h h2; rfl
  · rw [hq] at h
    have h2 : q.1 = [] := by
      rw [← hq] at h ⊢
      unfold toksS at h ⊢
      split
      · rfl
      · split
        · rfl
        · split
          · rename_i h0 h1 h2; rw [if_neg h0, if_neg h1, if_pos h2] at h; cases h
          · rfl
    rw [if_neg (by rw [h]; decide)]
    obtain ⟨x, y, z⟩ := q
    simp at h h2; subst h h2; rfl
theorem run_end {l : List UInt8} {T : List TokL} {f a : Nat} (h : Run5 l T f a) (hb : begS l a = l.length) : toksS l (l.length + 1) 0 = (T, 0, 0) := by
  obtain ⟨_, _, h2, h3⟩ := h
  obtain ⟨f, rfl⟩ : ∃ g, f = g + 1 := ⟨f - 1, by omega⟩
  have e : toksS l (f + 1) a = ([], 0, 0) := by unfold toksS; rw [next_end hb, if_neg (by simp), if_pos hb]
  rw [h3, e, if_pos rfl]; simp
theorem run_bad {l : List UInt8} {T : List TokL} {f a : Nat} (h : Run5 l T f a) (hb : ¬ begS l a = l.length) (hw : (wordS (l.drop (begS l a))).2 = 0) : toksS l (l.length + 1) 0 = ([], begS l a, 2) := by
  obtain ⟨_, _, h2, h3⟩ := h
  obtain ⟨f, rfl⟩ : ∃ g, f = g + 1 := ⟨f - 1, by omega⟩
  have e : toksS l (f + 1) a = ([], begS l a, 2) := by unfold toksS; rw [next_bad hb hw, if_pos (by simp)]
  rw [h3, e, if_neg (by simp)]
theorem run_word {l : List UInt8} {T : List TokL} {f a : Nat} (h : Run5 l T (f + 1) a) (hb : ¬ begS l a = l.length) (hw : ¬ (wordS (l.drop (begS l a))).2 = 0) :
    Run5 l (T ++ [(nextS l a).1]) f (nextS l a).2.1 ∧ a < (nextS l a).2.1 := by
  obtain ⟨h0, h1, h2, h3⟩ := h
  have hle := word_le (l.drop (begS l a))
  have hb2 := begS_le h0
  have hb3 := begS_ge l a
  rw [List.length_drop] at hle
  have hn := next_word hb hw
  have e : toksS l (f + 1) a = if (toksS l f (nextS l a).2.1).2.2 = 0 then ((nextS l a).1 :: (toksS l f (nextS l a).2.1).1, 0, 0) else ([], (toksS l f (nextS l a).2.1).2.1, 2) := by
    conv => lhs; unfold toksS
    rw [if_neg (by rw [hn]; simp), if_neg hb]
  rw [e] at h3
  have hn2 : (nextS l a).2.1 = begS l a + (wordS (l.drop (begS l a))).2 := by rw [hn]
  generalize nextS l a = q at *
  rw [hn2] at h3 ⊢
  refine ⟨⟨by omega, by rw [List.length_append, List.length_singleton]; omega, by omega, ?_⟩, by omega⟩
  rw [h3]
  rcases toksS_err l f (begS l a + (wordS (l.drop (begS l a))).2) with g | g
  · simp [g]
  · simp [g]

end Go.Proofs.YtkfemnjblbnclaaGreatDoor

/- Formulas in plain words (no program): parts, their cells; the kind whose mark a text is; what a chain of variables with signs between them comes to. -/
namespace Go.Proofs.YtkfemnjblbnclaaGreatDoor

structure PartL where
  k : Int
  t : TermL
  m : List UInt8
  c : Int
def noPart : PartL := ⟨0, noTerm, [], 0⟩
def signPart (k : Int) : PartL := ⟨k, noTerm, [], 0⟩
def varPart (x : List UInt8) : PartL := ⟨2, noTerm, x, 0⟩
/- its cells, side by side -/
def PartL.cells (p : PartL) : List Value := [.int .i64 p.k, .int .i64 p.t.k, .string (bs p.t.x), .string (bs p.t.y), .string (bs p.t.z), .string (bs p.m), .int .i64 p.c]
def PartL.v (p : PartL) : Value := .agg #[.int .i64 p.k, .int .i64 p.t.k, .string (bs p.t.x), .string (bs p.t.y), .string (bs p.t.z), .string (bs p.m), .int .i64 p.c]
def partCells (l : List PartL) : List Value := l.flatMap PartL.cells
theorem PartL.cells_length (p : PartL) : p.cells.length = 7 := rfl
theorem partCells_length (l : List PartL) : (partCells l).length = l.length * 7 := by
  induction l with
  | nil => rfl
  | cons t r ih => unfold partCells at *; rw [List.flatMap_cons, List.length_append, ih, PartL.cells_length, List.length_cons]; omega
theorem partCells_append (l r : List PartL) : partCells (l ++ r) = partCells l ++ partCells r := by unfold partCells; exact List.flatMap_append
theorem partCells_one (t : PartL) : partCells [t] = t.cells := by unfold partCells; simp
theorem partCells_at : ∀ (L : List PartL) (k : Nat) (hk : k < L.length) (i : Nat), i < 7 → (partCells L)[k * 7 + i]? = L[k].cells[i]?
  | [], k, hk, _, _ => absurd hk (Nat.not_lt_zero _)
  | t :: L, 0, _, i, hi => by
    show (t.cells ++ partCells L)[0 * 7 + i]? = _
    rw [List.getElem?_append_left (by rw [PartL.cells_length]; omega), Nat.zero_mul, Nat.zero_add]; rfl
  | t :: L, k + 1, hk, i, hi => by
    show (t.cells ++ partCells L)[(k + 1) * 7 + i]? = _
    rw [List.getElem?_append_right (by rw [PartL.cells_length]; omega), PartL.cells_length, show (k + 1) * 7 + i - 7 = k * 7 + i by omega, partCells_at L k (by simpa using hk) i hi]
    simp

/- the marks of all kinds; the levels: from, to, just once -/
def marksL : List (List UInt8) := [[], [], [], [66, 79, 85, 78, 68], [33], [45], [38, 38], [124, 124], [61], [33, 61], [60], [62], [60, 61], [62, 61], [43], [45], [42], [47], [83, 84, 82], [76, 65, 78, 71], [68, 65, 84, 65, 84, 89, 80, 69], [73, 83, 73, 82, 73], [73, 83, 76, 73, 84, 69, 82, 65, 76], [73, 83, 66, 76, 65, 78, 75], [83, 65, 77, 69, 84, 69, 82, 77], [73, 70], [67, 79, 65, 76, 69, 83, 67, 69]]
def markN (k : Nat) : List UInt8 := marksL.getD k []
def levelsL : List (Nat × Nat × Bool) := [(7, 7, false), (6, 6, false), (8, 13, true), (14, 15, false), (16, 17, false)]
def lev (i : Nat) : Nat × Nat × Bool := levelsL.getD i (0, 0, false)

/- the first one of c kinds from a on whose mark a text is; nought: none -/
def kindM (s : List UInt8) : Nat → Nat → Nat
  | _, 0 => 0
  | a, c + 1 => if markN a = s then a else kindM s (a + 1) c
/- the kind of the sign that a word is -/
def signK (L : List TokL) (a f t : Nat) : Nat :=
  match L[a]? with
  | none => 0
  | some w => if w.k = 5 then kindM w.x f (t + 1 - f) else 0
/- the place, the parts so far -/
abbrev StL := Nat × List PartL
/- a variable is read (of all else nothing is said here) -/
def signedM (L : List TokL) (q : StL) : Option StL :=
  match L[q.1]? with
  | none => none
  | some w => if w.k = 2 ∧ nameL w.x = true then some (q.1 + 1, q.2 ++ [varPart w.x]) else none
def levsM (gath : Nat → StL → Option StL) (n : Nat) : Nat → StL → Option StL
  | 0, q => some q
  | k + 1, q => (gath (n + k) q).bind (levsM gath n k)
def chainOf (gath : Nat → StL → Option StL) (L : List TokL) (n : Nat) (q : StL) : Option StL := (signedM L q).bind (levsM gath n (5 - n))
def gatherM (L : List TokL) : Nat → Nat → StL → Option StL
  | 0, _, _ => none
  | f + 1, i, q =>
    if signK L q.1 (lev i).1 (lev i).2.1 = 0 then some q
    else (chainOf (gatherM L f) L (i + 1) (q.1 + 1, q.2)).bind fun r =>
      if (lev i).2.2 = true then some (r.1, r.2 ++ [signPart (signK L q.1 (lev i).1 (lev i).2.1)])
      else gatherM L f i (r.1, r.2 ++ [signPart (signK L q.1 (lev i).1 (lev i).2.1)])
def chainM (L : List TokL) (f n : Nat) (q : StL) : Option StL := chainOf (gatherM L f) L n q

theorem kindM_range (s : List UInt8) : ∀ c a, kindM s a c = 0 ∨ (a ≤ kindM s a c ∧ kindM s a c < a + c) := by
  intro c
  induction c with
  | zero => intro a; exact .inl rfl
  | succ c ih =>
    intro a
    unfold kindM
    split
    · exact .inr ⟨Nat.le_refl _, by omega⟩
    · rcases ih (a + 1) with h | h
      · exact .inl h
      · exact .inr (by omega)
theorem signK_at {L : List TokL} {a f t : Nat} (h : a < L.length) : signK L a f t = if (L[a]).k = 5 then kindM (L[a]).x f (t + 1 - f) else 0 := by unfold signK; rw [List.getElem?_eq_getElem h]
theorem signK_le {L : List TokL} {a f t : Nat} (h : signK L a f t ≠ 0) : a < L.length ∧ f ≤ signK L a f t ∧ signK L a f t ≤ t := by
  have ha : a < L.length := by
    by_cases hc : a < L.length
    · exact hc
    · exact absurd (by unfold signK; rw [List.getElem?_eq_none (by omega)]) h
  refine ⟨ha, ?_⟩
  have e : signK L a f t = if (L[a]).k = 5 then kindM (L[a]).x f (t + 1 - f) else 0 := by unfold signK; rw [List.getElem?_eq_getElem ha]
  rw [e] at h ⊢
  split at h
  · rename_i h5
    rw [if_pos h5]
    rcases kindM_range (L[a]).x (t + 1 - f) f with hz | hz
    · exact absurd hz h
    · omega
  · exact absurd rfl h
/- how far a reading that ends comes: no more parts than words -/
def StIn (L : List TokL) (q : StL) : Prop := q.2.length ≤ q.1 ∧ q.1 ≤ L.length
theorem signed_in {L : List TokL} {q r : StL} (h : signedM L q = some r) (hq : StIn L q) : StIn L r ∧ q.1 < L.length := by
  have ha : q.1 < L.length := by
    by_cases hc : q.1 < L.length
    · exact hc
    · exact absurd h (by unfold signedM; rw [List.getElem?_eq_none (by omega)]; simp)
  unfold signedM at h
  rw [List.getElem?_eq_getElem ha] at h
  simp only at h
  split at h
  · simp only [Option.some.injEq] at h
    subst h
    exact ⟨⟨by rw [List.length_append]; exact Nat.add_le_add_right hq.1 1, ha⟩, ha⟩
  · cases h

/- what the five words come to: of two signs the closer one first, of two as close the first one -/
def noTok5 (k : Int) (x : List UInt8) : TokL := ⟨k, x, noTerm, 0⟩
def bindsL (a b : Nat) : List TokL := [noTok5 2 [97], noTok5 5 (markN a), noTok5 2 [98], noTok5 5 (markN b), noTok5 2 [99]]
def closeN (k : Nat) : Nat := if k = 7 then 0 else if k = 6 then 1 else if k ≤ 13 then 2 else if k ≤ 15 then 3 else 4
def bindsR (a b : Nat) : StL :=
  if closeN a = 2 ∧ closeN b = 2 then (3, [varPart [97], varPart [98], signPart a])
  else if closeN b ≤ closeN a then (5, [varPart [97], varPart [98], signPart a, varPart [99], signPart b])
  else (5, [varPart [97], varPart [98], varPart [99], signPart b, signPart a])
theorem binds_all : ((List.range 12).map fun a => (List.range 12).map fun b => chainM (bindsL (a + 6) (b + 6)) 6 0 (0, [])) = ((List.range 12).map fun a => (List.range 12).map fun b => some (bindsR (a + 6) (b + 6))) := by kernel_rfl
theorem binds_ans (a b : Nat) (ha : 6 ≤ a) (ha' : a < 18) (hb : 6 ≤ b) (hb' : b < 18) : chainM (bindsL a b) 6 0 (0, []) = some (bindsR a b) := by
  have h := congrArg (fun l => (l[a - 6]?.getD [])[b - 6]?) binds_all
  simp only [List.getElem?_map, List.getElem?_range (show a - 6 < 12 by omega), Option.map_some, Option.getD_some, List.getElem?_range (show b - 6 < 12 by omega), Nat.sub_add_cancel ha, Nat.sub_add_cancel hb, Option.some.injEq] at h
  exact h

end Go.Proofs.YtkfemnjblbnclaaGreatDoor

/- Which rows of parts are formulas, in plain words: what a part needs, whether it is right, how many results there are; where the parts begin whose result a part makes. -/
namespace Go.Proofs.YtkfemnjblbnclaaGreatDoor

def needK (k : Int) : Int := if k = 1 ∨ k = 2 ∨ k = 3 then 0 else if k = 4 ∨ k = 5 ∨ (18 ≤ k ∧ k ≤ 23) then 1 else if (6 ≤ k ∧ k ≤ 17) ∨ k = 24 then 2 else if k = 25 then 3 else -1
def coalN (c : Int) : Int := if 1 ≤ c ∧ c ≤ 16 then c else -1
def needM (p : PartL) : Int := if p.k = 26 then coalN p.c else if p.c = 0 then needK p.k else -1
def refNeed (p : PartL) : Int := if p.k = 26 then coalN p.c else needK p.k
def zeroT (t : TermL) : Bool := decide (t.k = 0) && t.x.isEmpty && t.y.isEmpty && t.z.isEmpty
def valueT (t : TermL) : Bool := (decide (t.k = 1) || decide (t.k = 2)) && rightL t.k t.x t.y t.z
def rightM (p : PartL) : Bool := if p.k = 1 then valueT p.t && p.m.isEmpty else if p.k = 2 ∨ p.k = 3 then nameL p.m && zeroT p.t else p.m.isEmpty && zeroT p.t
def goodM (p : PartL) : Bool := decide (0 ≤ needM p) && rightM p
def nd (p : PartL) : Nat := (needM p).toNat

def chkGo : List PartL → Nat → Option Nat
  | [], h => some h
  | p :: r, h => if goodM p = true ∧ nd p ≤ h then chkGo r (h - nd p + 1) else none
def chkE (L : List PartL) : Int := if 256 < L.length then 3 else if chkGo L 0 = some 1 then 0 else 2

theorem need_good {p : PartL} (h : goodM p = true) : needM p = (nd p : Int) ∧ refNeed p = (nd p : Int) ∧ (p.k = 26 ∨ p.c = 0) ∧ rightM p = true := by
  unfold goodM at h
  simp only [Bool.and_eq_true, decide_eq_true_eq] at h
  obtain ⟨h0, hr⟩ := h
  have e : needM p = (nd p : Int) := by unfold nd; omega
  refine ⟨e, ?_, ?_, hr⟩
  · rw [← e]
    unfold refNeed needM at *
    split
    · rfl
    · rename_i hk
      rw [if_neg hk] at h0
      split at h0
      · rename_i hc; rw [if_pos hc]
      · omega
  · unfold needM at h0
    split at h0
    · rename_i hk; exact .inl hk
    · split at h0
      · rename_i hc; exact .inr hc
      · omega
theorem nd_most {p : PartL} (h : goodM p = true) : nd p ≤ 16 := by
  have h1 := (need_good h).1
  unfold needM coalN needK at h1
  split at h1
  · split at h1 <;> omega
  · split at h1
    · repeat (split at h1)
      all_goals omega
    · omega
/- one more part -/
theorem chk_step {p : PartL} {r : List PartL} {h : Nat} (hp : goodM p = true) (hn : nd p ≤ h) : chkGo (p :: r) h = chkGo r (h - nd p + 1) := by rw [chkGo, if_pos ⟨hp, hn⟩]
theorem chk_stop {p : PartL} {r : List PartL} {h : Nat} (hp : ¬ (goodM p = true ∧ nd p ≤ h)) : chkGo (p :: r) h = none := by rw [chkGo, if_neg hp]

/- the heights: how many results there are ahead of each part -/
structure Hts (L : List PartL) (hh : Nat → Nat) : Prop where
  zero : hh 0 = 0
  step : ∀ k (h : k < L.length), goodM L[k] = true ∧ nd L[k] ≤ hh k ∧ hh (k + 1) + nd L[k] = hh k + 1
theorem hts_le {L : List PartL} {hh : Nat → Nat} (H : Hts L hh) : ∀ k, k ≤ L.length → hh k ≤ k
  | 0, _ => by rw [H.zero]; exact Nat.le_refl _
  | k + 1, h => by
    have h1 := hts_le H k (by omega)
    obtain ⟨_, _, hs⟩ := H.step k (by omega)
    omega
theorem hts_of : ∀ (L : List PartL) (h r : Nat), chkGo L h = some r → ∃ hh : Nat → Nat, hh 0 = h ∧ hh L.length = r ∧ ∀ k (hk : k < L.length), goodM L[k] = true ∧ nd L[k] ≤ hh k ∧ hh (k + 1) + nd L[k] = hh k + 1
  | [], h, r, e => ⟨fun _ => h, rfl, by simpa [chkGo] using e, fun k hk => absurd hk (Nat.not_lt_zero _)⟩
  | p :: L, h, r, e => by
    rw [chkGo] at e
    split at e
    · rename_i hc
      obtain ⟨hh, h0, hl, hs⟩ := hts_of L _ r e
      refine ⟨fun k => match k with | 0 => h | k + 1 => hh k, rfl, by simpa using hl, fun k hk => ?_⟩
      cases k with
      | zero =>
        refine ⟨hc.1, hc.2, ?_⟩
        show hh 0 + nd p = h + 1
        have := hc.2
        omega
      | succ k => exact hs k (by simpa using hk)
    · cases e

/- what the parts from a place on make, taken by themselves: never less, never more -/
theorem chk_sound {L : List PartL} {hh : Nat → Nat} (H : Hts L hh) : ∀ n a h r, a + n ≤ L.length → chkGo ((L.drop a).take n) h = some r → r + hh a = h + hh (a + n)
  | 0, a, h, r, _, e => by simp [chkGo] at e; subst e; rfl
  | n + 1, a, h, r, hl, e => by
    have ha : a < L.length := by omega
    obtain ⟨_, _, hs⟩ := H.step a ha
    rw [List.drop_eq_getElem_cons ha, List.take_succ_cons, chkGo] at e
    split at e
    · rename_i hc
      have := chk_sound H n (a + 1) _ r (by omega) e
      rw [show a + 1 + n = a + (n + 1) by omega] at this
      have := hc.2
      omega
    · cases e
theorem chk_whole {L : List PartL} {hh : Nat → Nat} (H : Hts L hh) (b : Nat) : ∀ n a, a + n ≤ L.length → b ≤ hh a → (∀ k (h : k < L.length), a ≤ k → k < a + n → nd L[k] + b ≤ hh k) → chkGo ((L.drop a).take n) (hh a - b) = some (hh (a + n) - b)
  | 0, a, _, _, _ => by simp [chkGo]
  | n + 1, a, hl, hb, hk => by
    have ha : a < L.length := by omega
    obtain ⟨hg, _, hs⟩ := H.step a ha
    have h1 := hk a ha (Nat.le_refl _) (by omega)
    rw [List.drop_eq_getElem_cons ha, List.take_succ_cons, chk_step hg (by omega), show hh a - b - nd L[a] + 1 = hh (a + 1) - b by omega]
    rw [chk_whole H b n (a + 1) (by omega) (by omega) (fun k h h2 h3 => hk k h (by omega) (by omega)), show a + 1 + n = a + (n + 1) by omega]

/- where the parts begin whose result part i makes -/
structure FromAt (hh : Nat → Nat) (i p : Nat) : Prop where
  le : p ≤ i
  at_ : hh p + 1 = hh (i + 1)
  up : ∀ q, p < q → q ≤ i + 1 → hh (i + 1) ≤ hh q
theorem from_ex {L : List PartL} {hh : Nat → Nat} (H : Hts L hh) {i : Nat} (hi : i < L.length) : ∃ p, FromAt hh i p := by
  have hpos : 0 < hh (i + 1) := by have := H.step i hi; omega
  have key : ∀ d, d ≤ i → (∀ q, i - d < q → q ≤ i + 1 → hh (i + 1) ≤ hh q) → ∃ p, FromAt hh i p := by
    intro d
    induction h : i - d generalizing d with
    | zero =>
      intro hd hup
      refine ⟨0, Nat.zero_le _, ?_, fun q h1 h2 => hup q h1 h2⟩
      have h1 := hup 1 (by omega) (by omega)
      obtain ⟨_, _, hs⟩ := H.step 0 (by omega)
      rw [Nat.zero_add, H.zero] at hs
      rw [H.zero]
      omega
    | succ m ih =>
      intro hd hup
      by_cases hc : hh (m + 1) < hh (i + 1)
      · refine ⟨m + 1, by omega, ?_, fun q h1 h2 => hup q h1 h2⟩
        have h1 := hup (m + 1 + 1) (by omega) (by omega)
        obtain ⟨_, _, hs⟩ := H.step (m + 1) (by omega)
        omega
      · refine ih (d + 1) (by omega) (by omega) (fun q h1 h2 => ?_)
        by_cases hq : q = m + 1
        · subst hq; omega
        · exact hup q (by omega) h2
  exact key 0 (Nat.zero_le _) (fun q h1 h2 => Nat.le_of_eq (congrArg hh (show i + 1 = q by omega)))
/- the part there needs none -/
theorem from_first {L : List PartL} {hh : Nat → Nat} (H : Hts L hh) {i p : Nat} (hi : i < L.length) (F : FromAt hh i p) : nd (L[p]'(Nat.lt_of_le_of_lt F.le hi)) = 0 ∧ hh (p + 1) = hh (i + 1) := by
  have hp : p < L.length := Nat.lt_of_le_of_lt F.le hi
  obtain ⟨_, _, hs⟩ := H.step p hp
  have h1 := F.up (p + 1) (by omega) (by have := F.le; omega)
  have h2 := F.at_
  omega
theorem from_good {L : List PartL} {hh : Nat → Nat} (H : Hts L hh) (h256 : L.length ≤ 256) {i p : Nat} (hi : i < L.length) (F : FromAt hh i p) : chkE ((L.drop p).take (i + 1 - p)) = 0 := by
  have hp := F.le
  have hw := chk_whole H (hh p) (i + 1 - p) p (by omega) (Nat.le_refl _) (fun k h h1 h2 => by
    obtain ⟨_, hn, hs⟩ := H.step k h
    by_cases hk : k = p
    · subst hk
      have := (from_first H hi F).1
      omega
    · have u1 := F.up k (by omega) (by omega)
      have u2 := F.up (k + 1) (by omega) (by omega)
      have := F.at_
      omega)
  rw [Nat.sub_self, show p + (i + 1 - p) = i + 1 by omega, show hh (i + 1) - hh p = 1 by have := F.at_; omega] at hw
  unfold chkE
  rw [if_neg (by rw [List.length_take, List.length_drop]; omega), if_pos hw]
theorem from_bad {L : List PartL} {hh : Nat → Nat} (H : Hts L hh) {i p a : Nat} (hi : i < L.length) (F : FromAt hh i p) (ha : p < a) (hai : a ≤ i) : chkE ((L.drop a).take (i + 1 - a)) ≠ 0 := by
  unfold chkE
  split
  · decide
  · rw [if_neg]
    · decide
    · intro e
      have := chk_sound H (i + 1 - a) a 0 1 (by omega) e
      rw [show a + (i + 1 - a) = i + 1 by omega] at this
      have := F.up a ha (by omega)
      omega

end Go.Proofs.YtkfemnjblbnclaaGreatDoor

/- Plain words on numbers (no program): a number, which ones are right, how a value is cut down, what is reckoned. -/
namespace Go.Proofs.YtkfemnjblbnclaaGreatDoor.Nm

theorem ret_bool {a b : Bool} (h : a = b) : Ending.returned (.bool a) = .returned (.bool b) := by rw [h]
theorem ret_int {k : IntKind} {a b : Int} (h : a = b) : Ending.returned (.int k a) = .returned (.int k b) := by rw [h]

structure NumL where
  v : Int
  s : Int
  d : Bool
def NumL.val (n : NumL) : Value := .agg #[.int .i64 n.v, .int .i64 n.s, .bool n.d]
def noNum : NumL := ⟨0, 0, false⟩

def boundZ (v : Int) : Bool := decide (-999999999 ≤ v ∧ v ≤ 999999999)
def rightZ (v s : Int) (d : Bool) : Bool := boundZ v && decide (0 ≤ s ∧ s ≤ 4) && (decide (s = 0) || (d && !decide (v.tmod 10 = 0)))

theorem rightZ_iff (v s : Int) (d : Bool) : rightZ v s d = true ↔ (-999999999 ≤ v ∧ v ≤ 999999999) ∧ (0 ≤ s ∧ s ≤ 4) ∧ (s = 0 ∨ (d = true ∧ v.tmod 10 ≠ 0)) := by
  simp [rightZ, boundZ]
  constructor
  · rintro ⟨⟨⟨a, b⟩, c, e⟩, f⟩; exact ⟨⟨a, b⟩, ⟨c, e⟩, f⟩
  · rintro ⟨⟨a, b⟩, ⟨c, e⟩, f⟩; exact ⟨⟨⟨a, b⟩, c, e⟩, f⟩

/- 10 to so many -/
def ten : Nat → Int
  | 0 => 1
  | k + 1 => 10 * ten k

/- noughts behind are left out, as long as there are places -/
def strip : Nat → Int → Int × Nat
  | 0, v => (v, 0)
  | k + 1, v => if v.tmod 10 = 0 then strip k (v.tdiv 10) else (v, k + 1)

/- a value and a scale cut down -/
def cutZ (v : Int) (s : Nat) : Int × Nat := strip (min s 4) (v.tdiv (ten (s - 4)))

def madeL (v : Int) (s : Nat) (d : Bool) : NumL × Bool :=
  if boundZ (cutZ v s).1 then (⟨(cutZ v s).1, (cutZ v s).2, d⟩, true) else (noNum, false)

theorem strip_le (k : Nat) : ∀ v : Int, (strip k v).2 ≤ k := by
  induction k with
  | zero => intro v; simp [strip]
  | succ k ih =>
    intro v; unfold strip; split
    · have := ih (v.tdiv 10); omega
    · simp

theorem tdiv_le (v c : Int) (h : 1 ≤ c) (b : Int) (h1 : -b ≤ v) (h2 : v ≤ b) : -b ≤ v.tdiv c ∧ v.tdiv c ≤ b := by
  rcases Int.le_total 0 v with hv | hv
  · have e : v.tdiv c = v / c := Int.tdiv_eq_ediv_of_nonneg hv
    have l1 := Int.ediv_nonneg hv (by omega : 0 ≤ c)
    have l2 := Int.ediv_le_self c hv
    omega
  · have e : (-v).tdiv c = (-v) / c := Int.tdiv_eq_ediv_of_nonneg (by omega)
    have l1 := Int.ediv_nonneg (by omega : 0 ≤ -v) (by omega : 0 ≤ c)
    have l2 := Int.ediv_le_self c (by omega : 0 ≤ -v)
    rw [Int.neg_tdiv] at e
    omega

end Go.Proofs.YtkfemnjblbnclaaGreatDoor.Nm

/- Texts of numbers, as plain functions on lists of bytes (no program): the sign, the full stop, the digits, the number read. -/
namespace Go.Proofs.YtkfemnjblbnclaaGreatDoor.Nm

/- a list as a text -/
def bs (l : List UInt8) : ByteArray := ⟨l.toArray⟩
theorem bs_data (l : List UInt8) : (bs l).data.toList = l := rfl
theorem bs_size (l : List UInt8) : (bs l).size = l.length := rfl
theorem bs_toList (l : List UInt8) : (bs l).toList = l := by rw [Lib.toList_data]; rfl
theorem bs_of (s : ByteArray) : bs s.data.toList = s := rfl
theorem bs_eq {s : ByteArray} {l : List UInt8} (h : s.data.toList = l) : s = bs l := by subst h; rfl
theorem bs_nil : bs [] = ⟨#[]⟩ := rfl
theorem bs_app (a b : List UInt8) : bs a ++ bs b = bs (a ++ b) := bs_eq (by show (bs a ++ bs b).data.toList = _; simp [bs])
theorem drop_bs (s : ByteArray) (a : Nat) : s.extract a s.size = bs (s.data.toList.drop a) := bs_eq (by rw [Lib.extract_data, List.take_of_length_le]; rw [List.length_drop, ← Lib.size_eq]; exact Nat.le_refl _)
theorem piece_bs (s : ByteArray) (a b : Nat) : s.extract a b = bs ((s.data.toList.drop a).take (b - a)) := bs_eq (Lib.extract_data s a b)

/- what stands ahead of the first full stop, and behind it -/
def dotAhead : List UInt8 → List UInt8
  | [] => []
  | c :: r => if c = 46 then [] else c :: dotAhead r
def dotBehind : List UInt8 → List UInt8
  | [] => []
  | c :: r => if c = 46 then r else dotBehind r
def hasDot : List UInt8 → Bool
  | [] => false
  | c :: r => if c = 46 then true else hasDot r

def DotYes (l : List UInt8) : Prop := Lib.indexByte l 46 = (dotAhead l).length ∧ (dotAhead l).length < l.length ∧ l.take (dotAhead l).length = dotAhead l ∧ l.drop ((dotAhead l).length + 1) = dotBehind l
def DotNo (l : List UInt8) : Prop := Lib.indexByte l 46 = -1 ∧ dotAhead l = l ∧ dotBehind l = []
theorem dot_cases (l : List UInt8) : (hasDot l = true ∧ DotYes l) ∨ (hasDot l = false ∧ DotNo l) := by
  unfold DotYes DotNo
  induction l with
  | nil => right; simp [hasDot, Lib.indexByte, dotAhead, dotBehind]
  | cons c r ih =>
    by_cases hc : c = 46
    · left; simp [hasDot, Lib.indexByte, dotAhead, dotBehind, hc]
    · have hb : (c == 46) = false := by simpa using hc
      rcases ih with ⟨h, h1, h2, h3, h4⟩ | ⟨h, h1, h2, h3⟩
      · left
        refine ⟨by simp [hasDot, hc, h], ?_, ?_, ?_, ?_⟩
        · simp only [Lib.indexByte, hb, dotAhead, hc, h1]
          have : (((dotAhead r).length : Int) == -1) = false := beq_eq_false_iff_ne.2 (by omega)
          simp [this]
        · simp [dotAhead, hc, h2]
        · simp [dotAhead, hc, h3]
        · simp [dotAhead, dotBehind, hc, h4]
      · right
        refine ⟨by simp [hasDot, hc, h], ?_, ?_, ?_⟩
        · simp [Lib.indexByte, hb, h1]
        · simp [dotAhead, hc, h2]
        · simp [dotBehind, hc, h3]

/- the sign -/
def unsigned : List UInt8 → List UInt8
  | [] => []
  | c :: r => if c = 45 then r else if c = 43 then r else c :: r
def signOf : List UInt8 → Int
  | [] => 1
  | c :: _ => if c = 45 then -1 else 1
theorem sign_cases (l : List UInt8) : (Lib.hasPrefix l [45] = true ∧ 1 ≤ l.length ∧ unsigned l = l.drop 1 ∧ signOf l = -1) ∨ (Lib.hasPrefix l [45] = false ∧ Lib.hasPrefix l [43] = true ∧ 1 ≤ l.length ∧ unsigned l = l.drop 1 ∧ signOf l = 1) ∨ (Lib.hasPrefix l [45] = false ∧ Lib.hasPrefix l [43] = false ∧ unsigned l = l ∧ signOf l = 1) := by
  match l with
  | [] => right; right; simp [Lib.hasPrefix, unsigned, signOf]
  | c :: r =>
    by_cases h1 : c = 45
    · left; subst h1; simp [Lib.hasPrefix, unsigned, signOf]
    · have h1' : (45 == c) = false := beq_eq_false_iff_ne.2 fun h => h1 h.symm
      by_cases h2 : c = 43
      · right; left; subst h2; simp [Lib.hasPrefix, List.isPrefixOf, unsigned, signOf]
      · have h2' : (43 == c) = false := beq_eq_false_iff_ne.2 fun h => h2 h.symm
        right; right
        refine ⟨?_, ?_, ?_, ?_⟩
        · simp only [Lib.hasPrefix, List.isPrefixOf, h1', Bool.false_and]
        · simp only [Lib.hasPrefix, List.isPrefixOf, h2', Bool.false_and]
        · simp [unsigned, h1, h2]
        · simp [signOf, h1]

/- how much digits are -/
def digitB (c : UInt8) : Bool := decide (48 ≤ (c.toNat : Int) ∧ (c.toNat : Int) ≤ 57)
def amt13 : Int → List UInt8 → Int × Bool
  | a, [] => (a, true)
  | a, c :: r => if digitB c then amt13 (a * 10 + ((c.toNat : Int) - 48)) r else (0, false)

def countZ (a h : Int) (dec : Bool) : Bool := decide (a + h ≤ 13) && (if dec then decide (1 ≤ h ∧ h ≤ 4) else decide (1 ≤ a))

/- the number that a text is -/
def readB (b : List UInt8) (sg : Int) (dec : Bool) : NumL × Bool :=
  if (hasDot b != dec) = true then (noNum, false)
  else if countZ (dotAhead b).length (dotBehind b).length dec = false then (noNum, false)
  else if (amt13 0 (dotAhead b ++ dotBehind b)).2 = false then (noNum, false)
  else madeL (sg * (amt13 0 (dotAhead b ++ dotBehind b)).1) (dotBehind b).length dec
def readL (l : List UInt8) (dec : Bool) : NumL × Bool := readB (unsigned l) (signOf l) dec

theorem amt13_bound (l : List UInt8) : ∀ (k : Nat) (a : Int), 0 ≤ a → a < ten k → (amt13 a l).2 = true → 0 ≤ (amt13 a l).1 ∧ (amt13 a l).1 < ten (k + l.length) := by
  induction l with
  | nil => intro k a h0 h1 _; exact ⟨h0, h1⟩
  | cons c r ih =>
    intro k a h0 h1 h
    unfold amt13 at h ⊢
    by_cases hd : digitB c = true
    · rw [if_pos hd] at h ⊢
      have hd' : 48 ≤ (c.toNat : Int) ∧ (c.toNat : Int) ≤ 57 := by simpa [digitB] using hd
      have e : ten (k + 1) = 10 * ten k := rfl
      have := ih (k + 1) (a * 10 + ((c.toNat : Int) - 48)) (by omega) (by omega) h
      rw [show k + (c :: r).length = k + 1 + r.length by simp; omega]
      exact this
    · rw [if_neg hd] at h; cases h

end Go.Proofs.YtkfemnjblbnclaaGreatDoor.Nm

/- Digits, as plain lists of bytes (no program): the lowest so many digits of a number, its numeral, a number's text. -/
namespace Go.Proofs.YtkfemnjblbnclaaGreatDoor.Nm
open Go.Lib (decDigits nDigits)

def dB (x : Nat) : UInt8 := UInt8.ofNat (48 + x)
def lowD : Nat → Nat → List UInt8
  | 0, _ => []
  | k + 1, u => lowD k (u / 10) ++ [dB (u % 10)]

theorem lowD_length (k : Nat) : ∀ u, (lowD k u).length = k := by
  induction k with
  | zero => intro u; rfl
  | succ k ih => intro u; simp [lowD, ih]
theorem lowD_split (a b : Nat) : ∀ u, lowD (a + b) u = lowD a (u / 10 ^ b) ++ lowD b u := by
  induction b with
  | zero => intro u; simp [lowD]
  | succ b ih =>
    intro u
    show lowD (a + b) (u / 10) ++ [dB (u % 10)] = _
    rw [ih (u / 10), Nat.div_div_eq_div_mul, Nat.pow_succ, Nat.mul_comm 10 (10 ^ b), List.append_assoc]
    rfl
theorem lowD_mod (b : Nat) : ∀ u, lowD b (u % 10 ^ b) = lowD b u := by
  induction b with
  | zero => intro u; rfl
  | succ b ih =>
    intro u
    have e1 : u % 10 ^ (b + 1) / 10 = u / 10 % 10 ^ b := by
      rw [Nat.pow_succ, Nat.mul_comm, Nat.mod_mul_right_div_self]
    have e2 : u % 10 ^ (b + 1) % 10 = u % 10 := by
      rw [Nat.pow_succ]; exact Nat.mod_mod_of_dvd u (Nat.dvd_mul_left 10 (10 ^ b))
    show lowD b (u % 10 ^ (b + 1) / 10) ++ [dB (u % 10 ^ (b + 1) % 10)] = lowD b (u / 10) ++ [dB (u % 10)]
    rw [e1, e2, ih (u / 10)]
theorem lowD_zero (k : Nat) : lowD k 0 = List.replicate k 48 := by
  induction k with
  | zero => rfl
  | succ k ih =>
    show lowD k (0 / 10) ++ [dB (0 % 10)] = _
    rw [show 0 / 10 = 0 from rfl, ih, List.replicate_succ']
    rfl
theorem dec_low (u : Nat) : decDigits u = lowD (nDigits u) u := by
  induction u using Nat.strongRecOn with
  | _ u ih =>
    by_cases h : u < 10
    · rw [Lib.decDigits_one h, Lib.nDigits_small h]
      simp [lowD, dB, Nat.mod_eq_of_lt h]
    · rw [decDigits, dif_neg h, Lib.nDigits_big h, ih (u / 10) (by omega)]
      rfl
theorem nDigits_le (s : Nat) : ∀ u, 1 ≤ s → u < 10 ^ s → nDigits u ≤ s := by
  induction s with
  | zero => intro u h; omega
  | succ s ih =>
    intro u _ hu
    by_cases h : u < 10
    · rw [Lib.nDigits_small h]; omega
    · rw [Lib.nDigits_big h]
      rw [Nat.pow_succ] at hu
      have h1 : 1 ≤ s := by
        rcases Nat.eq_zero_or_pos s with e | e
        · subst e; simp at hu; omega
        · exact e
      have := ih (u / 10) h1 (by omega)
      omega
theorem low_pad (s u : Nat) (hs : 1 ≤ s) (hu : u < 10 ^ s) : List.replicate (s - nDigits u) 48 ++ decDigits u = lowD s u := by
  have hn := nDigits_le s u hs hu
  have e := lowD_split (s - nDigits u) (nDigits u) u
  rw [show s - nDigits u + nDigits u = s by omega, Nat.div_eq_of_lt (Lib.lt_pow_nDigits u), lowD_zero] at e
  rw [e, dec_low u]
theorem rep_rep (c : Nat) : Lib.repeatL [48] c = List.replicate c 48 := by
  induction c with
  | zero => rfl
  | succ c ih => show [48] ++ Lib.repeatL [48] c = _; rw [ih]; rfl

/- a decimal's digits -/
def decimalL (u s : Nat) : List UInt8 := decDigits (u / 10 ^ s) ++ 46 :: (if s = 0 then [48] else lowD s u)
/- a number's text -/
def textL (v : Int) (s : Nat) (d : Bool) : List UInt8 := (if v < 0 then [45] else []) ++ (if d then decimalL v.natAbs s else decDigits v.natAbs)

/- the digits behind the full stop, as package number lays them -/
theorem behind_low (u s : Nat) : List.replicate (s - nDigits (u % 10 ^ s)) 48 ++ decDigits (u % 10 ^ s) = if s = 0 then [48] else lowD s u := by
  by_cases h : s = 0
  · subst h
    rw [if_pos rfl, show u % 10 ^ 0 = 0 by simp [Nat.mod_one], Lib.nDigits_small (by omega), Lib.decDigits_one (by omega)]
    rfl
  · rw [if_neg h, low_pad s (u % 10 ^ s) (by omega) (Nat.mod_lt _ (Nat.pow_pos (by omega))), lowD_mod]

theorem ten_pow (k : Nat) : ten k = ((10 ^ k : Nat) : Int) := by
  induction k with
  | zero => rfl
  | succ k ih => show 10 * ten k = _; rw [ih, Nat.pow_succ, Nat.mul_comm]; rfl

end Go.Proofs.YtkfemnjblbnclaaGreatDoor.Nm

/- What a formula comes to, in plain words (no program): truths, comparisons, numbers reckoned, part by part, by the document's chapter. -/
namespace Go.Proofs.YtkfemnjblbnclaaGreatDoor

instance eqTermL : DecidableEq TermL := fun a b => decidable_of_iff (a.k = b.k ∧ a.x = b.x ∧ a.y = b.y ∧ a.z = b.z) ⟨fun h => by cases a; cases b; simp at h; obtain ⟨rfl, rfl, rfl, rfl⟩ := h; rfl, fun h => by rw [h]; exact ⟨rfl, rfl, rfl, rfl⟩⟩

def txT : List UInt8 := [116, 114, 117, 101]
def txF : List UInt8 := [102, 97, 108, 115, 101]
def tyB : List UInt8 := [104, 116, 116, 112, 58, 47, 47, 119, 119, 119, 46, 119, 51, 46, 111, 114, 103, 47, 50, 48, 48, 49, 47, 88, 77, 76, 83, 99, 104, 101, 109, 97, 35, 98, 111, 111, 108, 101, 97, 110]
def tyS : List UInt8 := [104, 116, 116, 112, 58, 47, 47, 119, 119, 119, 46, 119, 51, 46, 111, 114, 103, 47, 50, 48, 48, 49, 47, 88, 77, 76, 83, 99, 104, 101, 109, 97, 35, 115, 116, 114, 105, 110, 103]
def tyIL : List UInt8 := [104, 116, 116, 112, 58, 47, 47, 119, 119, 119, 46, 119, 51, 46, 111, 114, 103, 47, 50, 48, 48, 49, 47, 88, 77, 76, 83, 99, 104, 101, 109, 97, 35, 105, 110, 116, 101, 103, 101, 114]
def tyDL : List UInt8 := [104, 116, 116, 112, 58, 47, 47, 119, 119, 119, 46, 119, 51, 46, 111, 114, 103, 47, 50, 48, 48, 49, 47, 88, 77, 76, 83, 99, 104, 101, 109, 97, 35, 100, 101, 99, 105, 109, 97, 108]

/- a literal's number -/
def ofP (t : TermL) : Nm.NumL × Bool :=
  if t.k = 2 ∧ t.z = [] then (if t.y = tyIL then Nm.readL t.x false else if t.y = tyDL then Nm.readL t.x true else (Nm.noNum, false)) else (Nm.noNum, false)
def litT (x y : List UInt8) : TermL := ⟨2, x, y, []⟩
def boolB (t : TermL) : Bool := decide (t.k = 2) && (decide (t.y = tyB) && (decide (t.x = txT) || decide (t.x = txF)))
def onZ (b : Bool) : Int := if b then 1 else 0
/- a term's truth: 1, 0, -1 -/
def truthZ (t : TermL) : Int :=
  if boolB t = true then onZ (decide (t.x = txT))
  else if (ofP t).2 = true then onZ (!decide ((ofP t).1.v = 0))
  else if t.k = 2 ∧ (t.y = [] ∨ t.y = tyS) then onZ (!t.x.isEmpty) else -1
def textsB (a b : TermL) : Bool := decide (a.k = 2) && (decide (b.k = 2) && (a.z.isEmpty && (b.z.isEmpty && ((a.y.isEmpty && b.y.isEmpty) || (decide (a.y = tyS) && decide (b.y = tyS))))))
def amtZ (v : Int) (s : Nat) : Int := v * Nm.ten (4 - s)
def cmpZ (a b : Int) : Int := if a < b then -1 else if b < a then 1 else 0
def cmpN (a b : Nm.NumL) : Int := cmpZ (amtZ a.v a.s.toNat) (amtZ b.v b.s.toNat)
def cmpP (a b : TermL) : Int × Bool :=
  if (ofP a).2 = true ∧ (ofP b).2 = true then (cmpN (ofP a).1 (ofP b).1, true)
  else if textsB a b = true then (Go.Lib.compareBytes a.x b.x, true)
  else if boolB a = true ∧ boolB b = true then (onZ (decide (a.x = txT)) - onZ (decide (b.x = txT)), true)
  else (0, false)
def equalZ (a b : TermL) : Int :=
  if (cmpP a b).2 = true then onZ (decide ((cmpP a b).1 = 0))
  else if a = b then 1
  else if a.k = 2 ∧ b.k = 2 ∧ a.z = [] ∧ b.z = [] then -1 else 0

/- what comes of it: none is an error -/
abbrev VL := Option TermL
def trueV (b : Bool) : VL := some (litT (if b then txT else txF) tyB)
def reckP (how : Int) (m n : Nm.NumL) : Nm.NumL × Bool :=
  if how = 1 then Nm.madeL (amtZ m.v m.s.toNat + amtZ n.v n.s.toNat) 4 (m.d || n.d)
  else if how = 2 then Nm.madeL (amtZ m.v m.s.toNat - amtZ n.v n.s.toNat) 4 (m.d || n.d)
  else if how = 3 then Nm.madeL (m.v * n.v) (m.s.toNat + n.s.toNat) (m.d || n.d)
  else if n.v = 0 then (Nm.noNum, false)
  else Nm.madeL ((amtZ m.v m.s.toNat * 10000).tdiv (amtZ n.v n.s.toNat)) 4 true
def termN (n : Nm.NumL) : TermL := litT (Nm.textL n.v n.s.toNat n.d) (if n.d then tyDL else tyIL)
def reckV (how : Int) (a b : TermL) : VL :=
  if (ofP a).2 = true ∧ (ofP b).2 = true then
    (if (reckP how (ofP a).1 (ofP b).1).2 = true then some (termN (reckP how (ofP a).1 (ofP b).1).1) else none)
  else none
def orderV (k : Int) (a b : TermL) : VL :=
  if (cmpP a b).2 = true then
    trueV (if k = 10 then decide ((cmpP a b).1 < 0) else if k = 11 then decide (0 < (cmpP a b).1) else if k = 12 then decide ((cmpP a b).1 ≤ 0) else decide (0 ≤ (cmpP a b).1))
  else none
def bothV (k : Int) (a b : TermL) : VL :=
  if k = 8 ∨ k = 9 then (if equalZ a b < 0 then none else trueV (decide (equalZ a b = 1) == decide (k = 8)))
  else if 10 ≤ k ∧ k ≤ 13 then orderV k a b
  else if k = 24 then trueV (decide (a = b))
  else reckV (k - 13) a b
def singleV (k : Int) (t : TermL) : VL :=
  if k = 4 then (if 0 ≤ truthZ t then trueV (decide (truthZ t = 0)) else none)
  else if k = 5 then reckV 2 (litT [48] tyIL) t
  else if k = 18 then (if t.k = 2 ∨ t.k = 1 then some (litT t.x []) else none)
  else if k = 19 then (if t.k = 2 then some (litT t.z []) else none)
  else if k = 20 then (if t.k = 2 ∧ t.z = [] then some ⟨1, if t.y = [] then tyS else t.y, [], []⟩ else none)
  else if k = 21 then trueV (decide (t.k = 1))
  else if k = 22 then trueV (decide (t.k = 2))
  else if k = 23 then trueV (decide (t.k = 3))
  else none
def ofZ : VL → Int
  | none => -1
  | some t => truthZ t
def andV (a b : Int) : VL := if a = 0 ∨ b = 0 then trueV false else if a = 1 ∧ b = 1 then trueV true else none
def orV (a b : Int) : VL := if a = 1 ∨ b = 1 then trueV true else if a = 0 ∧ b = 0 then trueV false else none
def boundT : List UInt8 → List (List UInt8) → List TermL → TermL
  | m, v :: V, t :: T => if v = m then t else boundT m V T
  | _, _, _ => noTerm
def coalV : List VL → VL
  | [] => none
  | some t :: _ => some t
  | none :: l => coalV l
/- what a part comes to, from what it needs, the first one first -/
def partV (V : List (List UInt8)) (T : List TermL) (p : PartL) (l : List VL) : VL :=
  if p.k = 1 then some p.t
  else if p.k = 2 then (if (boundT p.m V T).k = 0 then none else some (boundT p.m V T))
  else if p.k = 3 then trueV (!decide ((boundT p.m V T).k = 0))
  else if p.k = 6 then andV (ofZ (l.getD 0 none)) (ofZ (l.getD 1 none))
  else if p.k = 7 then orV (ofZ (l.getD 0 none)) (ofZ (l.getD 1 none))
  else if p.k = 25 then (if ofZ (l.getD 0 none) < 0 then none else l.getD (2 - (ofZ (l.getD 0 none)).toNat) none)
  else if p.k = 26 then coalV l
  else match l with
    | [some a] => singleV p.k a
    | [some a, some b] => bothV p.k a b
    | _ => none

/- the stack: what the parts gone through come to, the last one first -/
def stkGo (V : List (List UInt8)) (T : List TermL) : List PartL → List VL → List VL
  | [], s => s
  | p :: r, s => stkGo V T r (partV V T p (s.take (nd p)).reverse :: s.drop (nd p))
def evalL (V : List (List UInt8)) (T : List TermL) (F : List PartL) : VL := (stkGo V T F []).headD none
def valAt (V : List (List UInt8)) (T : List TermL) (F : List PartL) (i : Nat) : VL := (stkGo V T (F.take (i + 1)) []).headD none

theorem stk_append (V : List (List UInt8)) (T : List TermL) (a b : List PartL) : ∀ s, stkGo V T (a ++ b) s = stkGo V T b (stkGo V T a s) := by
  induction a with
  | nil => intro s; rfl
  | cons p a ih => intro s; show stkGo V T (a ++ b) _ = _; rw [ih]; rfl
theorem stk_snoc (V : List (List UInt8)) (T : List TermL) {F : List PartL} {k : Nat} (h : k < F.length) : stkGo V T (F.take (k + 1)) [] =
    partV V T F[k] ((stkGo V T (F.take k) []).take (nd F[k])).reverse :: (stkGo V T (F.take k) []).drop (nd F[k]) := by
  rw [List.take_succ_eq_append_getElem h, stk_append]; rfl
theorem stk_len (V : List (List UInt8)) (T : List TermL) {F : List PartL} {hh : Nat → Nat} (H : Hts F hh) : ∀ k, k ≤ F.length → (stkGo V T (F.take k) []).length = hh k
  | 0, _ => by rw [H.zero]; rfl
  | k + 1, h => by
    obtain ⟨_, h2, h3⟩ := H.step k (by omega)
    rw [stk_snoc V T (by omega), List.length_cons, List.length_drop, stk_len V T H k (by omega)]
    omega
/- from where the parts begin whose result a part makes, on: below that result there is what was there ahead -/
theorem stk_from (V : List (List UInt8)) (T : List TermL) {F : List PartL} {hh : Nat → Nat} (H : Hts F hh) {p : Nat} : ∀ k, p ≤ k → k ≤ F.length → (∀ q, p < q → q ≤ k → hh p < hh q) →
    (stkGo V T (F.take k) []).drop (hh k - hh p) = stkGo V T (F.take p) []
  | 0, h, _, _ => by
    obtain rfl : p = 0 := by omega
    simp
  | k + 1, h, hl, hq => by
    by_cases e : p = k + 1
    · subst e; simp
    · have ih := stk_from V T H k (by omega) (by omega) (fun q a b => hq q a (by omega))
      obtain ⟨_, h2, h3⟩ := H.step k (by omega)
      have g1 := hq (k + 1) (by omega) (by omega)
      have g0 : hh p ≤ hh k := by
        by_cases e2 : p = k
        · rw [e2]; exact Nat.le_refl _
        · exact Nat.le_of_lt (hq k (by omega) (by omega))
      rw [stk_snoc V T (by omega)]
      obtain ⟨d, hd⟩ : ∃ d, hh (k + 1) - hh p = d + 1 := ⟨hh (k + 1) - hh p - 1, by omega⟩
      rw [hd, List.drop_succ_cons, List.drop_drop, ← ih]
      congr 1
      omega
theorem stk_at (V : List (List UInt8)) (T : List TermL) {F : List PartL} {hh : Nat → Nat} (H : Hts F hh) {i p : Nat} (hi : i < F.length) (P : FromAt hh i p) :
    stkGo V T (F.take (i + 1)) [] = valAt V T F i :: stkGo V T (F.take p) [] := by
  have h := stk_from V T H (i + 1) (by have := P.le; omega) (by omega) (p := p) (fun q a b => by have := P.up q a b; have := P.at_; omega)
  have e := P.at_
  rw [show hh (i + 1) - hh p = 1 by omega] at h
  have hl := stk_len V T H (i + 1) (by omega)
  unfold valAt
  cases hs : stkGo V T (F.take (i + 1)) [] with
  | nil => rw [hs] at hl; simp at hl; omega
  | cons a r => rw [hs] at h; rw [← h]; rfl

/- what a part needs, one by one, the last one first -/
theorem need_step (V : List (List UInt8)) (T : List TermL) {F : List PartL} {hh : Nat → Nat} (H : Hts F hh) {S : List VL} {n P k : Nat} (hl : P ≤ F.length) (hP : hh P + k = n) (hd : S.drop k = stkGo V T (F.take P) []) (hk : k < n) :
    1 ≤ P ∧ ∃ p, FromAt hh (P - 1) p ∧ p ≤ P ∧ hh p + (k + 1) = n ∧ S.drop (k + 1) = stkGo V T (F.take p) [] ∧ (S.take (k + 1)).reverse = valAt V T F (P - 1) :: (S.take k).reverse := by
  have h1 : 1 ≤ P := by
    cases P with
    | zero => rw [H.zero] at hP; omega
    | succ => omega
  obtain ⟨p, hp⟩ := from_ex H (i := P - 1) (by omega)
  have e := stk_at V T H (by omega) hp
  have ea := hp.at_
  have hle := hp.le
  rw [show P - 1 + 1 = P by omega] at e ea
  rw [e] at hd
  refine ⟨h1, p, hp, by omega, by omega, ?_, ?_⟩
  · rw [← List.drop_drop, hd]; rfl
  · have hk2 : k < S.length := by
      have := congrArg List.length hd
      rw [List.length_drop, List.length_cons] at this
      omega
    have hg : S[k] = valAt V T F (P - 1) := by
      have := List.drop_eq_getElem_cons hk2
      rw [hd] at this
      exact (List.cons.inj this).1.symm
    rw [List.take_succ_eq_append_getElem hk2, List.reverse_append, hg]; rfl
theorem val_at (V : List (List UInt8)) (T : List TermL) {F : List PartL} {i : Nat} (hi : i < F.length) : valAt V T F i = partV V T F[i] ((stkGo V T (F.take i) []).take (nd F[i])).reverse := by
  unfold valAt
  rw [stk_snoc V T hi]; rfl
theorem val_last (V : List (List UInt8)) (T : List TermL) {F : List PartL} (h : 0 < F.length) : valAt V T F (F.length - 1) = evalL V T F := by
  unfold valAt evalL
  rw [show F.length - 1 + 1 = F.length by omega, List.take_length]

end Go.Proofs.YtkfemnjblbnclaaGreatDoor

/- What number a literal is (no program): a text that has one is a right literal's text; so whether the term is right says nothing more. -/
namespace Go.Proofs.YtkfemnjblbnclaaGreatDoor

theorem made_no {v : Int} {s : Nat} {d : Bool} (h : (Nm.madeL v s d).2 = false) : Nm.madeL v s d = (Nm.noNum, false) := by
  unfold Nm.madeL at h ⊢
  split at h
  · cases h
  · rename_i g; rw [if_neg g]
theorem cutZ_le (v : Int) (s : Nat) : (Nm.cutZ v s).2 ≤ 4 := Nat.le_trans (Nm.strip_le _ _) (Nat.min_le_right _ _)
theorem read_no {l : List UInt8} {d : Bool} (h : (Nm.readL l d).2 = false) : Nm.readL l d = (Nm.noNum, false) := by
  unfold Nm.readL Nm.readB at h ⊢
  split at h
  · rename_i k; rw [if_pos k]
  · rename_i k
    rw [if_neg k]
    split at h
    · rename_i k; rw [if_pos k]
    · rename_i k
      rw [if_neg k]
      split at h
      · rename_i k; rw [if_pos k]
      · rename_i k; rw [if_neg k]; exact made_no h
theorem of_no {t : TermL} (h : (ofP t).2 = false) : ofP t = (Nm.noNum, false) := by
  unfold ofP at h ⊢
  split
  · rename_i k
    rw [if_pos k] at h
    split
    · rename_i k; rw [if_pos k] at h; exact read_no h
    · rename_i k2
      rw [if_neg k2] at h
      split
      · rename_i k; rw [if_pos k] at h; exact read_no h
      · rfl
  · rfl

/- the bytes of a text that has a number -/
theorem amt_digits : ∀ (l : List UInt8) (a : Int), (Nm.amt13 a l).2 = true → ∀ c ∈ l, Nm.digitB c = true
  | [], _, _, _, h => absurd h List.not_mem_nil
  | b :: r, a, h, c, hc => by
    unfold Nm.amt13 at h
    by_cases hd : Nm.digitB b = true
    · rw [if_pos hd] at h
      rcases List.mem_cons.1 hc with rfl | hc
      · exact hd
      · exact amt_digits r _ h c hc
    · rw [if_neg hd] at h; cases h
theorem dots_mem : ∀ (l : List UInt8) (c : UInt8), c ∈ l → c = 46 ∨ c ∈ Nm.dotAhead l ++ Nm.dotBehind l
  | [], _, h => absurd h List.not_mem_nil
  | b :: r, c, hc => by
    unfold Nm.dotAhead Nm.dotBehind
    by_cases h : b = 46
    · rw [if_pos h, if_pos h]
      rcases List.mem_cons.1 hc with rfl | hc
      · exact .inl h
      · exact .inr (by simpa using hc)
    · rw [if_neg h, if_neg h]
      rcases List.mem_cons.1 hc with rfl | hc
      · exact .inr (by simp)
      · rcases dots_mem r c hc with h | h
        · exact .inl h
        · exact .inr (List.mem_cons_of_mem _ h)
theorem dots_len : ∀ (l : List UInt8), l.length ≤ (Nm.dotAhead l).length + (Nm.dotBehind l).length + 1
  | [] => by simp
  | b :: r => by
    unfold Nm.dotAhead Nm.dotBehind
    by_cases h : b = 46
    · rw [if_pos h, if_pos h]; simp
    · rw [if_neg h, if_neg h]
      have := dots_len r
      simp only [List.length_cons]
      omega
theorem unsigned_mem : ∀ (l : List UInt8) (c : UInt8), c ∈ l → c = 45 ∨ c = 43 ∨ c ∈ Nm.unsigned l
  | [], _, h => absurd h List.not_mem_nil
  | b :: r, c, hc => by
    show c = 45 ∨ c = 43 ∨ c ∈ (if b = 45 then r else if b = 43 then r else b :: r)
    by_cases h : b = 45
    · rw [if_pos h]
      rcases List.mem_cons.1 hc with rfl | hc
      · exact .inl h
      · exact .inr (.inr hc)
    · rw [if_neg h]
      by_cases h : b = 43
      · rw [if_pos h]
        rcases List.mem_cons.1 hc with rfl | hc
        · exact .inr (.inl h)
        · exact .inr (.inr hc)
      · rw [if_neg h]; exact .inr (.inr hc)
theorem unsigned_len (l : List UInt8) : l.length ≤ (Nm.unsigned l).length + 1 := by
  unfold Nm.unsigned
  split
  · simp
  · split
    · simp
    · split <;> simp
theorem digit_lit {c : UInt8} (h : Nm.digitB c = true) : litZ (c.toNat : Int) = true := by
  unfold Nm.digitB at h
  unfold litZ
  simp only [decide_eq_true_eq] at h
  simp only [Bool.or_eq_true, decide_eq_true_eq]
  omega
theorem read_lit {l : List UInt8} {d : Bool} (h : (Nm.readL l d).2 = true) : litL l = true := by
  unfold Nm.readL Nm.readB at h
  split at h
  · cases h
  split at h
  · cases h
  rename_i hc
  split at h
  · cases h
  rename_i ha
  replace hc : Nm.countZ (Nm.dotAhead (Nm.unsigned l)).length (Nm.dotBehind (Nm.unsigned l)).length d = true := by simpa using hc
  replace ha : (Nm.amt13 0 (Nm.dotAhead (Nm.unsigned l) ++ Nm.dotBehind (Nm.unsigned l))).2 = true := by simpa using ha
  have h13 : ((Nm.dotAhead (Nm.unsigned l)).length : Int) + (Nm.dotBehind (Nm.unsigned l)).length ≤ 13 := by
    unfold Nm.countZ at hc
    simp at hc
    exact hc.1
  have l1 := unsigned_len l
  have l2 := dots_len (Nm.unsigned l)
  unfold litL
  simp only [Bool.and_eq_true, decide_eq_true_eq, List.all_eq_true]
  refine ⟨by omega, fun c hm => ?_⟩
  rcases unsigned_mem l c hm with h | h | h
  · subst h; rfl
  · subst h; rfl
  · rcases dots_mem _ c h with h | h
    · subst h; rfl
    · exact digit_lit (amt_digits _ _ ha c h)

/- what the program asks: is the term right, and what is its type -/
def ofQ (t : TermL) : Nm.NumL × Bool :=
  if rightL t.k t.x t.y t.z = true then (if t.y = tyIL then Nm.readL t.x false else if t.y = tyDL then Nm.readL t.x true else (Nm.noNum, false)) else (Nm.noNum, false)
theorem right_typed {k : Int} {x y z : List UInt8} (hy : y ≠ []) (h : rightL k x y z = true) : k = 2 ∧ z = [] := by
  have hb : bareL y z = false := by
    unfold bareL
    cases y with
    | nil => exact absurd rfl hy
    | cons a r => rfl
  unfold rightL at h
  split at h
  · rw [hb] at h; cases h
  split at h
  · rw [hb] at h; cases h
  split at h
  · rename_i hk
    refine ⟨hk, ?_⟩
    unfold tagL at h
    cases z with
    | nil => rfl
    | cons a r =>
      cases y with
      | nil => exact absurd rfl hy
      | cons b s => simp at h
  · rw [hb] at h; simp at h
theorem lit_right {x y : List UInt8} (hy : y = tyIL ∨ y = tyDL) : rightL 2 x y [] = litL x := by
  unfold rightL
  rw [if_neg (by decide), if_neg (by decide), if_pos rfl]
  have : tagL y [] = true := by
    rcases hy with rfl | rfl
    · decide
    · decide
  rw [this, Bool.and_true]
theorem of_is (t : TermL) : ofQ t = ofP t := by
  obtain ⟨k, x, y, z⟩ := t
  unfold ofQ ofP
  dsimp only
  by_cases hy : y = tyIL ∨ y = tyDL
  · have hne : y ≠ [] := by rcases hy with rfl | rfl <;> decide
    by_cases hc : k = 2 ∧ z = []
    · obtain ⟨rfl, rfl⟩ := hc
      rw [if_pos (show (2 : Int) = 2 ∧ ([] : List UInt8) = [] from ⟨rfl, rfl⟩), lit_right hy]
      by_cases hl : litL x = true
      · rw [if_pos hl]
      · rw [if_neg hl]
        have hno : ∀ d, Nm.readL x d = (Nm.noNum, false) := fun d => read_no (by
          cases h : (Nm.readL x d).2 with
          | false => rfl
          | true => exact absurd (read_lit h) hl)
        rw [hno, hno]
        split
        · rfl
        · split <;> rfl
    · rw [if_neg hc, if_neg (fun h => hc (right_typed hne h))]
  · have h1 : ¬ y = tyIL := fun h => hy (.inl h)
    have h2 : ¬ y = tyDL := fun h => hy (.inr h)
    rw [if_neg h1, if_neg h2]
    split <;> split <;> rfl

/- a number that was made, or read, is right -/
theorem strip_right : ∀ (k : Nat) (v : Int), (Nm.strip k v).2 = 0 ∨ (Nm.strip k v).1.tmod 10 ≠ 0
  | 0, _ => .inl rfl
  | k + 1, v => by
    unfold Nm.strip
    split
    · exact strip_right k _
    · rename_i h; exact .inr h
/- what every contract on numbers asks -/
structure NumR (n : Nm.NumL) : Prop where
  s : ∃ j : Nat, n.s = j ∧ j ≤ 4
  lo : -999999999 ≤ n.v
  hi : n.v ≤ 999999999
  r : Nm.rightZ n.v n.s n.d = true
theorem made_numR {v : Int} {s : Nat} {d : Bool} (hd : d = false → s = 0) (h : (Nm.madeL v s d).2 = true) : NumR (Nm.madeL v s d).1 := by
  unfold Nm.madeL at h ⊢
  split at h
  · rename_i hb
    rw [if_pos hb]
    have hb2 : -999999999 ≤ (Nm.cutZ v s).1 ∧ (Nm.cutZ v s).1 ≤ 999999999 := by simpa [Nm.boundZ] using hb
    refine ⟨⟨_, rfl, cutZ_le v s⟩, hb2.1, hb2.2, ?_⟩
    rw [Nm.rightZ_iff]
    refine ⟨hb2, ⟨by dsimp only; omega, by have := cutZ_le v s; dsimp only; omega⟩, ?_⟩
    dsimp only
    cases d with
    | true =>
      rcases strip_right (min s 4) (v.tdiv (Nm.ten (s - 4))) with h | h
      · exact .inl (by show (((Nm.strip _ _).2 : Nat) : Int) = 0; rw [h]; rfl)
      · exact .inr ⟨rfl, h⟩
    | false =>
      obtain rfl := hd rfl
      exact .inl rfl
  · cases h
theorem read_numR {l : List UInt8} {d : Bool} (h : (Nm.readL l d).2 = true) : NumR (Nm.readL l d).1 := by
  unfold Nm.readL Nm.readB at h ⊢
  split at h
  · cases h
  rename_i k
  rw [if_neg k]
  split at h
  · cases h
  rename_i k1
  rw [if_neg k1]
  split at h
  · cases h
  rename_i k2
  rw [if_neg k2]
  refine made_numR (fun hd => ?_) h
  subst hd
  rcases Nm.dot_cases (Nm.unsigned l) with ⟨k3, _⟩ | ⟨_, _, _, k3⟩
  · rw [k3] at k; simp at k
  · rw [k3]; rfl
theorem of_numR {t : TermL} (h : (ofP t).2 = true) : NumR (ofP t).1 := by
  unfold ofP at h ⊢
  split
  · rename_i k
    rw [if_pos k] at h
    split
    · rename_i k; rw [if_pos k] at h; exact read_numR h
    · rename_i k2
      rw [if_neg k2] at h
      split
      · rename_i k; rw [if_pos k] at h; exact read_numR h
      · rename_i k3; rw [if_neg k3] at h; cases h
  · rename_i k; rw [if_neg k] at h; cases h

end Go.Proofs.YtkfemnjblbnclaaGreatDoor

/- What formulas come to, further (no program): formulas put together; && and || hang on no order; what is not named says nothing; = and != are apart. -/
namespace Go.Proofs.YtkfemnjblbnclaaGreatDoor

theorem chk_append (a b : List PartL) : ∀ h, chkGo (a ++ b) h = (chkGo a h).bind (chkGo b) := by
  induction a with
  | nil => intro h; rfl
  | cons p a ih =>
    intro h
    show (if goodM p = true ∧ nd p ≤ h then chkGo (a ++ b) (h - nd p + 1) else none) = _
    by_cases c : goodM p = true ∧ nd p ≤ h
    · rw [if_pos c, ih]; show _ = Option.bind (if goodM p = true ∧ nd p ≤ h then _ else _) _; rw [if_pos c]
    · rw [if_neg c]; show _ = Option.bind (if goodM p = true ∧ nd p ≤ h then _ else _) _; rw [if_neg c]; rfl
theorem chk_more (m : Nat) : ∀ (L : List PartL) (h h' : Nat), chkGo L h = some h' → chkGo L (h + m) = some (h' + m)
  | [], h, h', e => by cases e; rfl
  | p :: r, h, h', e => by
    unfold chkGo at e ⊢
    by_cases c : goodM p = true ∧ nd p ≤ h
    · rw [if_pos c] at e
      rw [if_pos ⟨c.1, by omega⟩, ← chk_more m r _ _ e]
      congr 1
      omega
    · rw [if_neg c] at e; cases e
theorem stk_more (V : List (List UInt8)) (T : List TermL) (s : List VL) : ∀ (L : List PartL) (h h' : Nat) (s0 : List VL), chkGo L h = some h' → s0.length = h → stkGo V T L (s0 ++ s) = stkGo V T L s0 ++ s ∧ (stkGo V T L s0).length = h'
  | [], h, h', s0, e, hl => by cases e; exact ⟨rfl, hl⟩
  | p :: r, h, h', s0, e, hl => by
    unfold chkGo at e
    by_cases c : goodM p = true ∧ nd p ≤ h
    · rw [if_pos c] at e
      have h1 : nd p ≤ s0.length := by omega
      have := stk_more V T s r _ h' (partV V T p (s0.take (nd p)).reverse :: s0.drop (nd p)) e (by rw [List.length_cons, List.length_drop]; omega)
      unfold stkGo
      rw [List.take_append_of_le_length h1, List.drop_append_of_le_length h1]
      exact this
    · rw [if_neg c] at e; cases e
/- a formula: what it comes to stands on what was there -/
def FormS (L : List PartL) : Prop := chkGo L 0 = some 1
theorem form_stk (V : List (List UInt8)) (T : List TermL) {L : List PartL} (h : FormS L) (s : List VL) : stkGo V T L s = evalL V T L :: s := by
  obtain ⟨h1, h2⟩ := stk_more V T s L 0 1 [] h rfl
  rw [List.nil_append] at h1
  rw [h1]
  unfold evalL
  cases hs : stkGo V T L [] with
  | nil => rw [hs] at h2; cases h2
  | cons a r =>
    rw [hs] at h2
    cases r with
    | nil => rfl
    | cons b r => simp at h2
theorem form_one {a : List PartL} {p : PartL} (ha : FormS a) (hp : goodM p = true) (hn : nd p = 1) : FormS (a ++ [p]) := by
  unfold FormS at *
  rw [chk_append, ha]
  show (if goodM p = true ∧ nd p ≤ 1 then _ else _) = _
  rw [if_pos ⟨hp, by omega⟩, hn]; rfl
theorem form_two {a b : List PartL} {p : PartL} (ha : FormS a) (hb : FormS b) (hp : goodM p = true) (hn : nd p = 2) : FormS (a ++ b ++ [p]) := by
  have hb1 := chk_more 1 b 0 1 hb
  unfold FormS at *
  rw [chk_append, chk_append, ha]
  show Option.bind (chkGo b 1) _ = _
  rw [hb1]
  show (if goodM p = true ∧ nd p ≤ 2 then _ else _) = _
  rw [if_pos ⟨hp, by omega⟩, hn]; rfl
theorem eval_one (V : List (List UInt8)) (T : List TermL) {a : List PartL} {p : PartL} (ha : FormS a) (hn : nd p = 1) : evalL V T (a ++ [p]) = partV V T p [evalL V T a] := by
  show (stkGo V T (a ++ [p]) []).headD none = _
  rw [stk_append, form_stk V T ha []]
  show partV V T p ([evalL V T a].take (nd p)).reverse = _
  rw [hn]; rfl
theorem eval_two (V : List (List UInt8)) (T : List TermL) {a b : List PartL} {p : PartL} (ha : FormS a) (hb : FormS b) (hn : nd p = 2) : evalL V T (a ++ b ++ [p]) = partV V T p [evalL V T a, evalL V T b] := by
  show (stkGo V T (a ++ b ++ [p]) []).headD none = _
  rw [stk_append, stk_append, form_stk V T ha [], form_stk V T hb]
  show partV V T p ([evalL V T b, evalL V T a].take (nd p)).reverse = _
  rw [hn]; rfl

/- truths -/
theorem truth_true (b : Bool) : ofZ (trueV b) = onZ b := by cases b <;> rfl
theorem onZ_cases (b : Bool) : onZ b = 0 ∨ onZ b = 1 := by cases b <;> simp [onZ]
theorem truth_cases (t : TermL) : truthZ t = -1 ∨ truthZ t = 0 ∨ truthZ t = 1 := by
  unfold truthZ
  split
  · exact .inr (onZ_cases _)
  · split
    · exact .inr (onZ_cases _)
    · split
      · exact .inr (onZ_cases _)
      · exact .inl rfl
theorem ofZ_cases (v : VL) : ofZ v = -1 ∨ ofZ v = 0 ∨ ofZ v = 1 := by
  cases v with
  | none => exact .inl rfl
  | some t => exact truth_cases t
theorem and_comm (a b : Int) : andV a b = andV b a := by
  unfold andV
  have e1 : (a = 0 ∨ b = 0) = (b = 0 ∨ a = 0) := propext Or.comm
  have e2 : (a = 1 ∧ b = 1) = (b = 1 ∧ a = 1) := propext And.comm
  simp only [e1, e2]
theorem or_comm (a b : Int) : orV a b = orV b a := by
  unfold orV
  have e1 : (a = 1 ∨ b = 1) = (b = 1 ∨ a = 1) := propext Or.comm
  have e2 : (a = 0 ∧ b = 0) = (b = 0 ∧ a = 0) := propext And.comm
  simp only [e1, e2]
/- not, of a value -/
def notV : VL → VL
  | none => none
  | some t => singleV 4 t
theorem notV_eq (v : VL) : notV v = if ofZ v = -1 then none else trueV (decide (ofZ v = 0)) := by
  cases v with
  | none => rfl
  | some t =>
    show singleV 4 t = _
    unfold singleV
    rw [if_pos rfl]
    show (if 0 ≤ truthZ t then trueV (decide (truthZ t = 0)) else none) = if truthZ t = -1 then none else trueV (decide (truthZ t = 0))
    rcases truth_cases t with h | h | h <;> rw [h] <;> rfl
theorem notV_of (v : VL) : ofZ (notV v) = if ofZ v = -1 then -1 else 1 - ofZ v := by
  rw [notV_eq]
  rcases ofZ_cases v with h | h | h
  · rw [h]; rfl
  · rw [h, if_neg (by decide), if_neg (by decide), truth_true]; rfl
  · rw [h, if_neg (by decide), if_neg (by decide), truth_true]; rfl
theorem not_and (a b : VL) : notV (andV (ofZ a) (ofZ b)) = orV (ofZ (notV a)) (ofZ (notV b)) := by
  rw [notV_of, notV_of]
  rcases ofZ_cases a with h | h | h <;> rcases ofZ_cases b with g | g | g <;> rw [h, g] <;> rfl
theorem part_and (V : List (List UInt8)) (T : List TermL) (p : PartL) (h : p.k = 6) (a b : VL) : partV V T p [a, b] = andV (ofZ a) (ofZ b) := by
  unfold partV; rw [h]; rfl
theorem part_or (V : List (List UInt8)) (T : List TermL) (p : PartL) (h : p.k = 7) (a b : VL) : partV V T p [a, b] = orV (ofZ a) (ofZ b) := by
  unfold partV; rw [h]; rfl
theorem part_not (V : List (List UInt8)) (T : List TermL) (p : PartL) (h : p.k = 4) (a : VL) : partV V T p [a] = notV a := by
  unfold partV; rw [h]; cases a <;> rfl
theorem part_both (V : List (List UInt8)) (T : List TermL) (p : PartL) {k : Int} (hk : p.k = k) (h : 8 ≤ k ∧ k ≤ 24) (a b : VL) : partV V T p [a, b] = match a, b with
    | some x, some y => bothV k x y
    | _, _ => none := by
  unfold partV
  rw [hk, if_neg (by omega), if_neg (by omega), if_neg (by omega), if_neg (by omega), if_neg (by omega), if_neg (by omega), if_neg (by omega)]
  cases a <;> cases b <;> rfl

/- what a formula comes to hangs on what it names alone -/
def namesIn (N : List (List UInt8)) (L : List PartL) : Prop := ∀ p ∈ L, (p.k = 2 ∨ p.k = 3) → p.m ∈ N
theorem bound_same (N : List (List UInt8)) {m : List UInt8} (hm : m ∈ N) : ∀ (V : List (List UInt8)) (T T' : List TermL), T.length = T'.length → (∀ i (h : i < V.length) (h1 : i < T.length) (h2 : i < T'.length), V[i] ∈ N → T[i] = T'[i]) → boundT m V T = boundT m V T'
  | [], T, T', _, _ => by unfold boundT; rfl
  | v :: V, [], [], _, _ => rfl
  | v :: V, t :: T, t' :: T', hl, h => by
    unfold boundT
    by_cases c : v = m
    · rw [if_pos c, if_pos c]
      exact h 0 (by simp) (by simp) (by simp) (by rw [← c] at hm; exact hm)
    · rw [if_neg c, if_neg c]
      exact bound_same N hm V T T' (by simpa using hl) (fun i a b d e => h (i + 1) (by simpa using a) (by simpa using b) (by simpa using d) (by simpa using e))
theorem part_same (N : List (List UInt8)) (V : List (List UInt8)) (T T' : List TermL) (hb : ∀ m ∈ N, boundT m V T = boundT m V T') (p : PartL) (hp : (p.k = 2 ∨ p.k = 3) → p.m ∈ N) (l : List VL) : partV V T p l = partV V T' p l := by
  unfold partV
  by_cases c2 : p.k = 2
  · rw [hb p.m (hp (.inl c2))]
  · by_cases c3 : p.k = 3
    · rw [hb p.m (hp (.inr c3))]
    · simp only [if_neg c2, if_neg c3]
theorem stk_same (N : List (List UInt8)) (V : List (List UInt8)) (T T' : List TermL) (hb : ∀ m ∈ N, boundT m V T = boundT m V T') : ∀ (L : List PartL), namesIn N L → ∀ s, stkGo V T L s = stkGo V T' L s
  | [], _, s => rfl
  | p :: r, h, s => by
    unfold stkGo
    rw [part_same N V T T' hb p (h p (by simp)), stk_same N V T T' hb r (fun q hq => h q (List.mem_cons_of_mem _ hq))]

/- = and != of two terms -/
theorem apart (a b : TermL) : (bothV 8 a b = none ∧ bothV 9 a b = none) ∨ ∃ c, bothV 8 a b = trueV c ∧ bothV 9 a b = trueV (!c) := by
  have e8 : bothV 8 a b = if equalZ a b < 0 then none else trueV (decide (equalZ a b = 1) == true) := rfl
  have e9 : bothV 9 a b = if equalZ a b < 0 then none else trueV (decide (equalZ a b = 1) == false) := rfl
  rw [e8, e9]
  by_cases h : equalZ a b < 0
  · rw [if_pos h, if_pos h]; exact .inl ⟨rfl, rfl⟩
  · rw [if_neg h, if_neg h]
    exact .inr ⟨decide (equalZ a b = 1), by cases decide (equalZ a b = 1) <;> rfl, by cases decide (equalZ a b = 1) <;> rfl⟩

end Go.Proofs.YtkfemnjblbnclaaGreatDoor

/- What comes of a part as a term (no program): none is nought's term; what is no error is a term of a kind. -/
namespace Go.Proofs.YtkfemnjblbnclaaGreatDoor

def toV (t : TermL) : VL := if t.k = 0 then none else some t
def unV (v : VL) : TermL := v.getD noTerm
/- what is no error has a kind -/
def OkV (v : VL) : Prop := ∀ s, v = some s → s.k ≠ 0
theorem ok_none : OkV none := fun _ h => by cases h
theorem ok_some {t : TermL} (h : t.k ≠ 0) : OkV (some t) := fun s e => by cases e; exact h
theorem ok_lit (x y : List UInt8) : OkV (some (litT x y)) := ok_some (by unfold litT; simp)
theorem ok_truth (b : Bool) : OkV (trueV b) := ok_lit _ _
theorem to_un {v : VL} (h : OkV v) : toV (unV v) = v := by
  cases v with
  | none => rfl
  | some t =>
    show (if t.k = 0 then none else some t) = _
    rw [if_neg (h t rfl)]
theorem un_to {t : TermL} (h : t.k ≠ 0) : unV (toV t) = t := by unfold toV unV; rw [if_neg h]; rfl
theorem to_ok (t : TermL) : OkV (toV t) := by
  intro s h
  unfold toV at h
  split at h
  · cases h
  · rename_i k; cases h; exact k
theorem to_of (t : TermL) (h : t.k = 0) : toV t = none := if_pos h
theorem to_some (t : TermL) (h : t.k ≠ 0) : toV t = some t := if_neg h
def truthT (b : Bool) : TermL := litT (if b then txT else txF) tyB
theorem un_truth (b : Bool) : unV (trueV b) = truthT b := rfl

theorem ok_and (a b : Int) : OkV (andV a b) := by
  unfold andV
  split
  · exact ok_truth _
  · split
    · exact ok_truth _
    · exact ok_none
theorem ok_or (a b : Int) : OkV (orV a b) := by
  unfold orV
  split
  · exact ok_truth _
  · split
    · exact ok_truth _
    · exact ok_none
theorem ok_reck (h : Int) (a b : TermL) : OkV (reckV h a b) := by
  unfold reckV
  split
  · split
    · exact ok_lit _ _
    · exact ok_none
  · exact ok_none
theorem ok_order (k : Int) (a b : TermL) : OkV (orderV k a b) := by
  unfold orderV
  split
  · exact ok_truth _
  · exact ok_none
theorem ok_both (k : Int) (a b : TermL) : OkV (bothV k a b) := by
  unfold bothV
  split
  · split
    · exact ok_none
    · exact ok_truth _
  · split
    · exact ok_order _ _ _
    · split
      · exact ok_truth _
      · exact ok_reck _ _ _
theorem ok_single (k : Int) (t : TermL) : OkV (singleV k t) := by
  unfold singleV
  repeat' split
  all_goals first | exact ok_none | exact ok_truth _ | exact ok_reck _ _ _ | exact ok_lit _ _ | exact ok_some (by simp)
theorem ok_coal : ∀ (l : List VL), (∀ v ∈ l, OkV v) → OkV (coalV l)
  | [], _ => ok_none
  | some t :: l, h => h (some t) (by simp)
  | none :: l, h => ok_coal l (fun v hv => h v (List.mem_cons_of_mem _ hv))
theorem ok_getD {l : List VL} (h : ∀ v ∈ l, OkV v) (i : Nat) : OkV (l.getD i none) := by
  rw [List.getD_eq_getElem?_getD]
  cases he : l[i]? with
  | none => exact ok_none
  | some v => exact h v (List.mem_of_getElem? he)
theorem ok_part (V : List (List UInt8)) (T : List TermL) {p : PartL} (hp : goodM p = true) {l : List VL} (h : ∀ v ∈ l, OkV v) : OkV (partV V T p l) := by
  unfold partV
  split
  · rename_i h1
    have hr := (need_good hp).2.2.2
    unfold rightM at hr
    rw [if_pos h1] at hr
    simp only [Bool.and_eq_true, valueT, Bool.or_eq_true, decide_eq_true_eq] at hr
    exact ok_some (by omega)
  · split
    · split
      · exact ok_none
      · rename_i h2; exact ok_some h2
    · split
      · exact ok_truth _
      · split
        · exact ok_and _ _
        · split
          · exact ok_or _ _
          · split
            · split
              · exact ok_none
              · exact ok_getD h _
            · split
              · exact ok_coal l h
              · split
                · exact ok_single _ _
                · exact ok_both _ _ _
                · exact ok_none
theorem ok_stk (V : List (List UInt8)) (T : List TermL) : ∀ (L : List PartL) (s : List VL), (∀ p ∈ L, goodM p = true) → (∀ v ∈ s, OkV v) → ∀ v ∈ stkGo V T L s, OkV v
  | [], s, _, hs => hs
  | p :: r, s, hL, hs => by
    unfold stkGo
    refine ok_stk V T r _ (fun q hq => hL q (List.mem_cons_of_mem _ hq)) (fun v hv => ?_)
    rcases List.mem_cons.1 hv with rfl | hv
    · exact ok_part V T (hL p (by simp)) (fun u hu => hs u (List.mem_of_mem_take (List.mem_reverse.1 hu)))
    · exact hs v (List.mem_of_mem_drop hv)

/- comparisons: three ways -/
theorem cmpP_num {a b : TermL} (h1 : (ofP a).2 = true) (h2 : (ofP b).2 = true) : cmpP a b = (cmpN (ofP a).1 (ofP b).1, true) := by unfold cmpP; rw [if_pos ⟨h1, h2⟩]
theorem cmpP_text {a b : TermL} (h : ¬ ((ofP a).2 = true ∧ (ofP b).2 = true)) (h1 : textsB a b = true) : cmpP a b = (Go.Lib.compareBytes a.x b.x, true) := by unfold cmpP; rw [if_neg h, if_pos h1]
theorem cmpP_bool {a b : TermL} (h : ¬ ((ofP a).2 = true ∧ (ofP b).2 = true)) (h1 : ¬ textsB a b = true) (h2 : boolB a = true ∧ boolB b = true) : cmpP a b = (onZ (decide (a.x = txT)) - onZ (decide (b.x = txT)), true) := by unfold cmpP; rw [if_neg h, if_neg h1, if_pos h2]
theorem cmpP_no {a b : TermL} (h : ¬ ((ofP a).2 = true ∧ (ofP b).2 = true)) (h1 : ¬ textsB a b = true) (h2 : ¬ (boolB a = true ∧ boolB b = true)) : cmpP a b = (0, false) := by unfold cmpP; rw [if_neg h, if_neg h1, if_neg h2]
theorem bool_tx {a : TermL} (h : boolB a = true) : a.k = 2 ∧ a.y = tyB ∧ (a.x = txT ∨ a.x = txF) := by
  unfold boolB at h
  simpa only [Bool.and_eq_true, Bool.or_eq_true, decide_eq_true_eq] using h
theorem bool_cmp {a b : TermL} (ha : boolB a = true) (hb : boolB b = true) : Go.Lib.compareBytes a.x b.x = onZ (decide (a.x = txT)) - onZ (decide (b.x = txT)) := by
  obtain ⟨_, _, h1⟩ := bool_tx ha
  obtain ⟨_, _, h2⟩ := bool_tx hb
  rcases h1 with h1 | h1 <;> rcases h2 with h2 | h2 <;> rw [h1, h2] <;> rfl
theorem onZ_dec (b : Bool) : (decide (onZ b = 1)) = b := by cases b <;> rfl
theorem truthZ_bool {t : TermL} (h : boolB t = true) : truthZ t = onZ (decide (t.x = txT)) := by unfold truthZ; rw [if_pos h]
theorem truthZ_num {t : TermL} (h : ¬ boolB t = true) (h1 : (ofP t).2 = true) : truthZ t = onZ (!decide ((ofP t).1.v = 0)) := by unfold truthZ; rw [if_neg h, if_pos h1]
theorem truthZ_text {t : TermL} (h : ¬ boolB t = true) (h1 : ¬ (ofP t).2 = true) (h2 : t.k = 2 ∧ (t.y = [] ∨ t.y = tyS)) : truthZ t = onZ (!t.x.isEmpty) := by unfold truthZ; rw [if_neg h, if_neg h1, if_pos h2]
theorem truthZ_no {t : TermL} (h : ¬ boolB t = true) (h1 : ¬ (ofP t).2 = true) (h2 : ¬ (t.k = 2 ∧ (t.y = [] ∨ t.y = tyS))) : truthZ t = -1 := by unfold truthZ; rw [if_neg h, if_neg h1, if_neg h2]
theorem of_kind {t : TermL} (h : (ofP t).2 = true) : t.k = 2 ∧ t.z = [] ∧ (t.y = tyIL ∨ t.y = tyDL) := by
  unfold ofP at h
  split at h
  · rename_i k
    refine ⟨k.1, k.2, ?_⟩
    split at h
    · rename_i k; exact .inl k
    · split at h
      · rename_i k; exact .inr k
      · cases h
  · cases h
theorem of_type {t : TermL} (h1 : ¬ t.y = tyIL) (h2 : ¬ t.y = tyDL) : ofP t = (Nm.noNum, false) := of_no (by
  cases h : (ofP t).2 with
  | false => rfl
  | true => rcases (of_kind h).2.2 with e | e
            · exact absurd e h1
            · exact absurd e h2)

end Go.Proofs.YtkfemnjblbnclaaGreatDoor
