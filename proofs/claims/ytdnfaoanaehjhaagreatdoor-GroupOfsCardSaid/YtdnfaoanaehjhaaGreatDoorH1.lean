/- TermPlain, TermAheadPlain, LexPlain, FormPlain, put together. -/
import Derived.WalkKit
import Derived.Lib.Strings
import Derived.Lib.Bytes2
import Derived.KernelRfl

/- Plain words on bytes and lists of bytes for terms (no program): which bytes a name, an IRI, a literal and a language may have, and how many of them a list begins with. -/
namespace Go.Proofs.YtdnfaoanaehjhaaGreatDoor

/- tests on a byte or a rune, as a number -/
def smallZ (c : Int) : Bool := decide (97 ≤ c ∧ c ≤ 122)
def bigZ (c : Int) : Bool := decide (65 ≤ c ∧ c ≤ 90)
def digitZ (c : Int) : Bool := decide (48 ≤ c ∧ c ≤ 57)
def letterZ (c : Int) : Bool := smallZ c || bigZ c
def wordZ (c : Int) : Bool := letterZ c || digitZ c || decide (c = 95)
def nameZ (c k : Int) : Bool := letterZ c || (decide (0 < k) && (decide (c = 95) || digitZ c))
def litZ (c : Int) : Bool := decide (32 ≤ c ∧ c ≤ 126) || decide (c = 10) || decide (c = 9)
def markZ (c : Int) : Bool := decide (c = 60 ∨ c = 62 ∨ c = 34 ∨ c = 123 ∨ c = 125 ∨ c = 124 ∨ c = 94 ∨ c = 96 ∨ c = 92)
def iriZ (c : Int) : Bool := decide (33 ≤ c ∧ c ≤ 126) && !markZ c

theorem small_high {c : Int} (h : 128 ≤ c) : smallZ c = false := by simp [smallZ]; omega
theorem name_high {c k : Int} (h : 128 ≤ c) : nameZ c k = false := by
  simp [nameZ, letterZ, smallZ, bigZ, digitZ]; omega
theorem lit_high {c : Int} (h : 128 ≤ c) : litZ c = false := by simp [litZ]; omega
theorem iri_high {c : Int} (h : 128 ≤ c) : iriZ c = false := by
  simp [iriZ]; omega

/- how many elements a list begins with that meet a test which may ask for the place -/
def lead (p : Nat → Int → Bool) : Nat → List UInt8 → Nat
  | _, [] => 0
  | k, b :: r => if p k (b.toNat : Int) then lead p (k + 1) r + 1 else 0

theorem lead_le (p : Nat → Int → Bool) (k : Nat) (l : List UInt8) : lead p k l ≤ l.length := by
  induction l generalizing k with
  | nil => simp [lead]
  | cons b r ih => simp only [lead, List.length_cons]; split <;> have := ih (k + 1) <;> omega

theorem lead_drop_yes (p : Nat → Int → Bool) (l : List UInt8) (k : Nat) (h : k < l.length) (hp : p k (l[k].toNat : Int) = true) :
    lead p k (l.drop k) = lead p (k + 1) (l.drop (k + 1)) + 1 := by
  rw [List.drop_eq_getElem_cons h]; simp [lead, hp]
theorem lead_drop_no (p : Nat → Int → Bool) (l : List UInt8) (k : Nat) (h : k < l.length) (hp : p k (l[k].toNat : Int) = false) :
    lead p k (l.drop k) = 0 := by
  rw [List.drop_eq_getElem_cons h]; simp [lead, hp]
theorem lead_drop_end (p : Nat → Int → Bool) (l : List UInt8) (k : Nat) (h : l.length ≤ k) : lead p k (l.drop k) = 0 := by
  rw [List.drop_eq_nil_of_le h]; rfl

theorem ret_bool {a b : Bool} (h : a = b) : Ending.returned (.bool a) = .returned (.bool b) := by rw [h]
theorem ret_int {k : IntKind} {a b : Int} (h : a = b) : Ending.returned (.int k a) = .returned (.int k b) := by rw [h]

def nameLead (l : List UInt8) : Nat := lead (fun k c => decide (k < 32) && nameZ c k) 0 l
def iriLead (l : List UInt8) : Nat := lead (fun k c => decide (k < 4096) && iriZ c) 0 l
def langLead (l : List UInt8) : Nat := lead (fun k c => decide (k ≤ 8) && smallZ c) 0 l

def nameL (l : List UInt8) : Bool := !l.isEmpty && nameLead l == l.length
def iriL (l : List UInt8) : Bool := !l.isEmpty && iriLead l == l.length
def langL (l : List UInt8) : Bool := !l.isEmpty && langLead l == l.length && decide (l.length ≤ 8)
def litL (l : List UInt8) : Bool := decide (l.length ≤ 4096) && l.all fun b => litZ (b.toNat : Int)

def tagL (y z : List UInt8) : Bool := if z.isEmpty then y.isEmpty || iriL y else y.isEmpty && langL z
def bareL (y z : List UInt8) : Bool := y.isEmpty && z.isEmpty
def rightL (k : Int) (x y z : List UInt8) : Bool :=
  if k = 1 then bareL y z && iriL x else if k = 3 ∨ k = 4 then bareL y z && nameL x else if k = 2 then litL x && tagL y z else decide (k = 0) && x.isEmpty && bareL y z

end Go.Proofs.YtdnfaoanaehjhaaGreatDoor

/- The term that a list of bytes begins with, as a plain function (no program), in the steps of package term's own functions. -/
namespace Go.Proofs.YtdnfaoanaehjhaaGreatDoor

/- a list as a text -/
def bs (l : List UInt8) : ByteArray := ⟨l.toArray⟩
theorem bs_data (l : List UInt8) : (bs l).data.toList = l := rfl
theorem bs_size (l : List UInt8) : (bs l).size = l.length := rfl
theorem bs_toList (l : List UInt8) : (bs l).toList = l := by rw [Lib.toList_data]; rfl
theorem bs_of (s : ByteArray) : bs s.data.toList = s := rfl
theorem bs_eq {s : ByteArray} {l : List UInt8} (h : s.data.toList = l) : s = bs l := by subst h; rfl
theorem bs_nil : bs [] = ⟨#[]⟩ := rfl
theorem bs_inj {a b : List UInt8} : bs a = bs b ↔ a = b := ⟨fun h => by have := congrArg (fun s => s.data.toList) h; exact this, fun h => by rw [h]⟩
theorem data_inj {a b : ByteArray} : a.data.toList = b.data.toList ↔ a = b := ⟨fun h => by rw [bs_eq h]; rfl, fun h => by rw [h]⟩

/- an IRI with its brackets -/
def bracketS (l : List UInt8) : List UInt8 × Nat :=
  if Lib.hasPrefix l [60] then
    if iriLead (l.drop 1) = 0 ∨ Lib.hasPrefix (l.drop (iriLead (l.drop 1) + 1)) [62] = false then ([], 0)
    else ((l.drop 1).take (iriLead (l.drop 1)), iriLead (l.drop 1) + 2)
  else ([], 0)

def typeS (l : List UInt8) : List UInt8 × Nat :=
  if (bracketS (l.drop 2)).2 = 0 then ([], 0) else ((bracketS (l.drop 2)).1, (bracketS (l.drop 2)).2 + 2)

def langS (l : List UInt8) : List UInt8 × Nat :=
  if langLead (l.drop 1) = 0 ∨ 8 < langLead (l.drop 1) then ([], 0) else ((l.drop 1).take (langLead (l.drop 1)), langLead (l.drop 1) + 1)

/- the byte that is meant by a backslash and a byte -/
def escB (b : UInt8) : Option UInt8 := if b = 110 then some 10 else if b = 116 then some 9 else if b = 34 ∨ b = 92 then some b else none

/- a literal's text behind its first double quote: what is taken so far, is a backslash open, how many bytes are gone -/
def unq : List UInt8 → List UInt8 → Bool → Nat → List UInt8 × Nat
  | [], _, _, _ => ([], 0)
  | b :: r, t, true, i => match escB b with
    | none => ([], 0)
    | some c => if 4096 < t.length + 1 then ([], 0) else unq r (t ++ [c]) false (i + 1)
  | b :: r, t, false, i =>
    if b = 34 then (t, i + 2)
    else if b = 92 then unq r t true (i + 1)
    else if b < 32 ∨ litZ (b.toNat : Int) = false then ([], 0)
    else if 4096 < t.length + 1 then ([], 0) else unq r (t ++ [b]) false (i + 1)
def unquoteS (l : List UInt8) : List UInt8 × Nat := unq (l.drop 1) [] false 0

/- the Type or the Lang behind a literal -/
def tagS (r : List UInt8) : List UInt8 × List UInt8 × Nat :=
  if Lib.hasPrefix r [94, 94] then ((typeS r).1, [], (typeS r).2) else if Lib.hasPrefix r [64] then ([], (langS r).1, (langS r).2) else ([], [], 0)

structure TermL where
  k : Int
  x : List UInt8
  y : List UInt8
  z : List UInt8
def noTerm : TermL := ⟨0, [], [], []⟩
def TermL.v (t : TermL) : Value := .agg #[.int .i64 t.k, .string (bs t.x), .string (bs t.y), .string (bs t.z)]

def iriS (l : List UInt8) : TermL × Nat := if (bracketS l).2 = 0 then (noTerm, 0) else (⟨1, (bracketS l).1, [], []⟩, (bracketS l).2)
def namedS (k : Int) (l : List UInt8) (n : Nat) : TermL × Nat := if nameLead (l.drop n) = 0 then (noTerm, 0) else (⟨k, (l.drop n).take (nameLead (l.drop n)), [], []⟩, n + nameLead (l.drop n))
def literalS (l : List UInt8) : TermL × Nat :=
  if (unquoteS l).2 = 0 then (noTerm, 0)
  else (⟨2, (unquoteS l).1, (tagS (l.drop (unquoteS l).2)).1, (tagS (l.drop (unquoteS l).2)).2.1⟩, (unquoteS l).2 + (tagS (l.drop (unquoteS l).2)).2.2)
def prefixS (l : List UInt8) : TermL × Nat :=
  if Lib.hasPrefix l [60] then iriS l else if Lib.hasPrefix l [95, 58] then namedS 3 l 2 else if Lib.hasPrefix l [63] then namedS 4 l 1
  else if Lib.hasPrefix l [34] then literalS l else (noTerm, 0)

theorem lead_drop_le (p : Nat → Int → Bool) (l : List UInt8) (n : Nat) : lead p 0 (l.drop n) ≤ l.length - n := by
  have := lead_le p 0 (l.drop n); simpa using this

theorem unq_le : ∀ (l t : List UInt8) (o : Bool) (i : Nat), (unq l t o i).2 ≤ l.length + i + 1 := by
  intro l
  induction l with
  | nil => intro t o i; simp [unq]
  | cons b r ih =>
    intro t o i
    cases o with
    | true =>
      unfold unq
      cases escB b with
      | none => simp
      | some c =>
        have := ih (t ++ [c]) false (i + 1)
        simp only [List.length_cons]
        split <;> simp <;> omega
    | false =>
      unfold unq
      repeat' split
      all_goals first | (simp; done) | (simp; omega) | skip
      · have := ih t true (i + 1); simp; omega
      · have := ih (t ++ [b]) false (i + 1); simp; omega

theorem bracketS_le (l : List UInt8) : (bracketS l).2 ≤ l.length + 1 := by
  have := lead_drop_le (fun k c => decide (k < 4096) && iriZ c) l 1
  rw [show lead (fun k c => decide (k < 4096) && iriZ c) 0 (l.drop 1) = iriLead (l.drop 1) from rfl] at this
  unfold bracketS
  repeat' split
  all_goals dsimp only
  all_goals omega
theorem typeS_le (l : List UInt8) : (typeS l).2 ≤ l.length + 3 := by
  have := bracketS_le (l.drop 2)
  rw [List.length_drop] at this
  unfold typeS
  split <;> dsimp only <;> omega
theorem langS_le (l : List UInt8) : (langS l).2 ≤ 9 := by
  unfold langS
  split <;> dsimp only <;> omega

def escZ (r : Int) : Int × Bool := if r = 110 then (10, true) else if r = 116 then (9, true) else if r = 34 ∨ r = 92 then (r, true) else (0, false)

theorem u8_of {b : UInt8} {n : Nat} (hn : n < 256) : (b.toNat : Int) = n ↔ b = UInt8.ofNat n := by
  constructor
  · intro h
    have h' : b.toNat = n := by omega
    rw [← h']; simp
  · intro h; subst h; simp; omega

theorem escZ_some {b c : UInt8} (h : escB b = some c) : escZ (b.toNat : Int) = ((c.toNat : Int), true) ∧ b.toNat < 128 := by
  unfold escB at h
  by_cases h1 : b = 110
  · subst h1; simp at h; subst h; decide
  · by_cases h2 : b = 116
    · subst h2; simp at h; subst h; decide
    · by_cases h3 : b = 34
      · subst h3; simp at h; subst h; decide
      · by_cases h4 : b = 92
        · subst h4; simp at h; subst h; decide
        · simp [h1, h2, h3, h4] at h
theorem escZ_none {b : UInt8} (h : escB b = none) : escZ (b.toNat : Int) = (0, false) := by
  unfold escB at h
  by_cases h1 : b = 110
  · subst h1; simp at h
  · by_cases h2 : b = 116
    · subst h2; simp at h
    · by_cases h3 : b = 34
      · subst h3; simp at h
      · by_cases h4 : b = 92
        · subst h4; simp at h
        · have e1 : ¬ (b.toNat : Int) = 110 := fun e => h1 ((u8_of (n := 110) (by omega)).1 e)
          have e2 : ¬ (b.toNat : Int) = 116 := fun e => h2 ((u8_of (n := 116) (by omega)).1 e)
          have e3 : ¬ (b.toNat : Int) = 34 := fun e => h3 ((u8_of (n := 34) (by omega)).1 e)
          have e4 : ¬ (b.toNat : Int) = 92 := fun e => h4 ((u8_of (n := 92) (by omega)).1 e)
          simp [escZ, e1, e2, e3, e4]
theorem escZ_high {r : Int} (h : 128 ≤ r) : escZ r = (0, false) := by
  have e1 : ¬ r = 110 := by omega
  have e2 : ¬ r = 116 := by omega
  have e3 : ¬ r = 34 := by omega
  have e4 : ¬ r = 92 := by omega
  simp [escZ, e1, e2, e3, e4]
theorem escB_high {b : UInt8} (h : 128 ≤ b.toNat) : escB b = none := by
  cases e : escB b with
  | none => rfl
  | some c => have := (escZ_some e).2; omega

theorem unq_end (t : List UInt8) (o : Bool) (l : List UInt8) (k : Nat) (h : l.length ≤ k) : unq (l.drop k) t o k = ([], 0) := by
  rw [List.drop_eq_nil_of_le h]; simp [unq]
theorem unq_esc_no (l t : List UInt8) (k : Nat) (h : k < l.length) (e : escB l[k] = none) : unq (l.drop k) t true k = ([], 0) := by
  rw [List.drop_eq_getElem_cons h]; simp [unq, e]
theorem unq_esc (l t : List UInt8) (k : Nat) (h : k < l.length) {c : UInt8} (e : escB l[k] = some c) :
    unq (l.drop k) t true k = if 4096 < t.length + 1 then ([], 0) else unq (l.drop (k + 1)) (t ++ [c]) false (k + 1) := by
  rw [List.drop_eq_getElem_cons h]; simp [unq, e]
theorem unq_close (l t : List UInt8) (k : Nat) (h : k < l.length) (e : (l[k].toNat : Int) = 34) : unq (l.drop k) t false k = (t, k + 2) := by
  rw [List.drop_eq_getElem_cons h, (u8_of (n := 34) (by omega)).1 e]; simp [unq]
theorem unq_open (l t : List UInt8) (k : Nat) (h : k < l.length) (e : (l[k].toNat : Int) = 92) : unq (l.drop k) t false k = unq (l.drop (k + 1)) t true (k + 1) := by
  rw [List.drop_eq_getElem_cons h, (u8_of (n := 92) (by omega)).1 e]; simp [unq]
theorem u8_lt32 (b : UInt8) : b < 32 ↔ (b.toNat : Int) < 32 := by rw [UInt8.lt_iff_toNat_lt]; simp; omega
theorem unq_cons (b : UInt8) (r t : List UInt8) (i : Nat) : unq (b :: r) t false i =
    if b = 34 then (t, i + 2)
    else if b = 92 then unq r t true (i + 1)
    else if b < 32 ∨ litZ (b.toNat : Int) = false then ([], 0)
    else if 4096 < t.length + 1 then ([], 0) else unq r (t ++ [b]) false (i + 1) := by rw [unq]
theorem not34 {b : UInt8} (e : (b.toNat : Int) ≠ 34) : ¬ b = 34 := fun c => e (by rw [c]; rfl)
theorem not92 {b : UInt8} (e : (b.toNat : Int) ≠ 92) : ¬ b = 92 := fun c => e (by rw [c]; rfl)
theorem unq_bad (l t : List UInt8) (k : Nat) (h : k < l.length) (e1 : (l[k].toNat : Int) ≠ 34) (e2 : (l[k].toNat : Int) ≠ 92) (e : (l[k].toNat : Int) < 32 ∨ litZ (l[k].toNat : Int) = false) : unq (l.drop k) t false k = ([], 0) := by
  rw [List.drop_eq_getElem_cons h, unq_cons, if_neg (not34 e1), if_neg (not92 e2), if_pos (by rw [u8_lt32]; exact e)]
theorem unq_take (l t : List UInt8) (k : Nat) (h : k < l.length) (e1 : (l[k].toNat : Int) ≠ 34) (e2 : (l[k].toNat : Int) ≠ 92) (e3 : ¬ (l[k].toNat : Int) < 32) (e4 : litZ (l[k].toNat : Int) = true) :
    unq (l.drop k) t false k = if 4096 < t.length + 1 then ([], 0) else unq (l.drop (k + 1)) (t ++ [l[k]]) false (k + 1) := by
  rw [List.drop_eq_getElem_cons h, unq_cons, if_neg (not34 e1), if_neg (not92 e2), if_neg (by rw [u8_lt32, e4]; simp; omega)]

def readS (l : List UInt8) : TermL × Int := if (prefixS l).2 = l.length then ((prefixS l).1, 0) else (noTerm, 2)

end Go.Proofs.YtdnfaoanaehjhaaGreatDoor

/- A query's text as words, in plain words (no program): the word that a list of bytes begins with, the first one from a place on, all of them. -/
namespace Go.Proofs.YtdnfaoanaehjhaaGreatDoor

def spaceZ (c : Int) : Bool := decide (c = 32 ∨ c = 9 ∨ c = 10)
def spaceLead (l : List UInt8) : Nat := lead (fun _ c => spaceZ c) 0 l
def letterLead (l : List UInt8) : Nat := lead (fun _ c => letterZ c) 0 l
def digitLead (l : List UInt8) : Nat := lead (fun _ c => digitZ c) 0 l
theorem letter_high {c : Int} (h : 128 ≤ c) : letterZ c = false := by simp [letterZ, smallZ, bigZ]; omega
theorem digit_high {c : Int} (h : 128 ≤ c) : digitZ c = false := by simp [digitZ]; omega

/- a test that doesn't ask for the place: where the count begins says nothing -/
theorem lead_free (q : Int → Bool) : ∀ (j k : Nat) (l : List UInt8), lead (fun _ c => q c) j l = lead (fun _ c => q c) k l
  | _, _, [] => rfl
  | j, k, b :: r => by simp only [lead]; rw [lead_free q (j + 1) (k + 1) r]
theorem lead_drop (q : Int → Bool) (k : Nat) (l : List UInt8) : lead (fun _ c => q c) 0 (l.drop k) = lead (fun _ c => q c) k (l.drop k) := lead_free q 0 k _

structure TokL where
  k : Int
  x : List UInt8
  t : TermL
  a : Int
def noTok : TokL := ⟨0, [], noTerm, 0⟩
/- its cells, side by side -/
def TokL.v (t : TokL) : Value := .agg #[.int .i64 t.k, .string (bs t.x), .int .i64 t.t.k, .string (bs t.t.x), .string (bs t.t.y), .string (bs t.t.z), .int .i64 t.a]
def TokL.at (t : TokL) (a : Int) : TokL := ⟨t.k, t.x, t.t, a⟩

def decT : List UInt8 := [104, 116, 116, 112, 58, 47, 47, 119, 119, 119, 46, 119, 51, 46, 111, 114, 103, 47, 50, 48, 48, 49, 47, 88, 77, 76, 83, 99, 104, 101, 109, 97, 35, 100, 101, 99, 105, 109, 97, 108]

/- a term as a word -/
def termTok (t : TermL) : TokL := if t.k = 4 then ⟨2, t.x, noTerm, 0⟩ else ⟨3, [], t, 0⟩
/- a full stop and the digits behind it: how many bytes they have -/
def placesS (l : List UInt8) : Nat := if Lib.hasPrefix l [46] = true ∧ 0 < digitLead (l.drop 1) then digitLead (l.drop 1) + 1 else 0
/- the number that a list begins with n digits of -/
def digitsS (l : List UInt8) (n : Nat) : TokL × Nat :=
  if 0 < placesS (l.drop n) then (⟨3, [], ⟨2, l.take (n + placesS (l.drop n)), decT, []⟩, 0⟩, n + placesS (l.drop n)) else (⟨4, l.take n, noTerm, 0⟩, n)
/- how many bytes the sign has that a list begins with -/
def twoB (l : List UInt8) : Bool := Lib.hasPrefix l [60, 61] || Lib.hasPrefix l [62, 61] || Lib.hasPrefix l [33, 61] || Lib.hasPrefix l [38, 38] || Lib.hasPrefix l [124, 124]
def oneZ (c : Int) : Bool := decide (c = 123 ∨ c = 125 ∨ c = 40 ∨ c = 41 ∨ c = 46 ∨ c = 44 ∨ c = 42 ∨ c = 43 ∨ c = 45 ∨ c = 47 ∨ c = 61 ∨ c = 60 ∨ c = 62 ∨ c = 33)
def oneB : List UInt8 → Bool
  | [] => false
  | c :: _ => oneZ (c.toNat : Int)
def signN (l : List UInt8) : Nat := if twoB l then 2 else if oneB l then 1 else 0
def signS (l : List UInt8) : TokL × Nat := if signN l = 0 then (noTok, 0) else (⟨5, l.take (signN l), noTerm, 0⟩, signN l)
/- the word that a list begins with, and how many bytes it has -/
def wordS (l : List UInt8) : TokL × Nat :=
  if 0 < (prefixS l).2 then (termTok (prefixS l).1, (prefixS l).2)
  else if 0 < letterLead l then (⟨1, l.take (letterLead l), noTerm, 0⟩, letterLead l)
  else if 0 < digitLead l then digitsS l (digitLead l)
  else signS l
/- where the first word from a place on begins -/
def begS (l : List UInt8) (a : Nat) : Nat := a + spaceLead (l.drop a)
/- the first word from a place on, the place behind it, and the error's number -/
def nextS (l : List UInt8) (a : Nat) : TokL × Nat × Int :=
  if begS l a = l.length then (noTok, begS l a, 0)
  else if (wordS (l.drop (begS l a))).2 = 0 then (noTok, 0, 2)
  else ((wordS (l.drop (begS l a))).1.at (begS l a), begS l a + (wordS (l.drop (begS l a))).2, 0)
/- all words from a place on; or the place of what is none -/
def toksS (l : List UInt8) : Nat → Nat → List TokL × Nat × Int
  | 0, _ => ([], 0, 0)
  | f + 1, a =>
    if (nextS l a).2.2 ≠ 0 then ([], begS l a, 2)
    else if begS l a = l.length then ([], 0, 0)
    else if (toksS l f (nextS l a).2.1).2.2 = 0 then ((nextS l a).1 :: (toksS l f (nextS l a).2.1).1, 0, 0)
    else ([], (toksS l f (nextS l a).2.1).2.1, 2)
def lexS (l : List UInt8) : List TokL × Nat × Int := if 4096 < l.length then ([], 0, 3) else toksS l (l.length + 1) 0

theorem tok_at_k (t : TokL) (a : Int) : (t.at a).k = t.k := rfl

theorem begS_le {l : List UInt8} {a : Nat} (h : a ≤ l.length) : begS l a ≤ l.length := by
  have := lead_le (fun _ c => spaceZ c) 0 (l.drop a)
  rw [List.length_drop] at this
  unfold begS spaceLead; omega
theorem begS_ge (l : List UInt8) (a : Nat) : a ≤ begS l a := by unfold begS; omega

/- a word's length -/
theorem named_le (k : Int) (l : List UInt8) (n : Nat) (h : n ≤ l.length) : (namedS k l n).2 ≤ l.length := by
  have := lead_drop_le (fun k c => decide (k < 32) && nameZ c k) l n
  rw [show lead (fun k c => decide (k < 32) && nameZ c k) 0 (l.drop n) = nameLead (l.drop n) from rfl] at this
  unfold namedS
  split
  · exact Nat.zero_le _
  · dsimp only; omega
theorem hasPrefix_len {l p : List UInt8} (h : Lib.hasPrefix l p = true) : p.length ≤ l.length := Lib.hasPrefix_le h
theorem bracket_le' (l : List UInt8) : (bracketS l).2 ≤ l.length := by
  have h1 := lead_drop_le (fun k c => decide (k < 4096) && iriZ c) l 1
  rw [show lead (fun k c => decide (k < 4096) && iriZ c) 0 (l.drop 1) = iriLead (l.drop 1) from rfl] at h1
  unfold bracketS
  split
  · split
    · exact Nat.zero_le _
    · rename_i h
      have h2 : Lib.hasPrefix (l.drop (iriLead (l.drop 1) + 1)) [62] = true := by
        cases e : Lib.hasPrefix (l.drop (iriLead (l.drop 1) + 1)) [62] with
        | true => rfl
        | false => exact absurd (.inr e) h
      have h3 := Lib.hasPrefix_le h2
      rw [List.length_drop, List.length_singleton] at h3
      dsimp only; omega
  · exact Nat.zero_le _
theorem unq_le' : ∀ (l t : List UInt8) (o : Bool) (i : Nat), (unq l t o i).2 = 0 ∨ (unq l t o i).2 ≤ l.length + i + 1 := fun l t o i => .inr (unq_le l t o i)
theorem tag_le' (l : List UInt8) : (tagS l).2.2 ≤ l.length := by
  unfold tagS
  split
  · rename_i h
    have h0 := Lib.hasPrefix_le h
    have h1 := bracket_le' (l.drop 2)
    rw [List.length_drop] at h1
    unfold typeS
    split
    · exact Nat.zero_le _
    · simp at h0; dsimp only; omega
  · split
    · rename_i h
      have h0 := Lib.hasPrefix_le h
      have h1 := lead_drop_le (fun k c => decide (k ≤ 8) && smallZ c) l 1
      rw [show lead (fun k c => decide (k ≤ 8) && smallZ c) 0 (l.drop 1) = langLead (l.drop 1) from rfl] at h1
      unfold langS
      split
      · exact Nat.zero_le _
      · simp at h0; dsimp only; omega
    · exact Nat.zero_le _
theorem prefix_le (l : List UInt8) : (prefixS l).2 ≤ l.length := by
  unfold prefixS
  split
  · unfold iriS
    split
    · exact Nat.zero_le _
    · exact bracket_le' l
  · split
    · rename_i h; exact named_le 3 l 2 (by have := Lib.hasPrefix_le h; simpa using this)
    · split
      · rename_i h; exact named_le 4 l 1 (by have := Lib.hasPrefix_le h; simpa using this)
      · split
        · rename_i h
          have h0 := Lib.hasPrefix_le h
          have h1 := unq_le (l.drop 1) [] false 0
          rw [List.length_drop, Nat.add_zero] at h1
          unfold literalS
          split
          · exact Nat.zero_le _
          · have h2 := tag_le' (l.drop (unquoteS l).2)
            rw [List.length_drop] at h2
            have h3 : (unquoteS l).2 ≤ l.length := by unfold unquoteS; simp at h0; omega
            dsimp only; omega
        · exact Nat.zero_le _
theorem digits_le (l : List UInt8) (n : Nat) (h : n ≤ l.length) : (digitsS l n).2 ≤ l.length := by
  unfold digitsS
  split
  · unfold placesS
    split
    · rename_i h1
      have h2 := Lib.hasPrefix_le h1.1
      have h3 := lead_drop_le (fun _ c => digitZ c) (l.drop n) 1
      rw [show lead (fun _ c => digitZ c) 0 ((l.drop n).drop 1) = digitLead ((l.drop n).drop 1) from rfl] at h3
      rw [List.length_drop] at h2 h3
      simp at h2
      dsimp only; omega
    · exact h
  · exact h
theorem signN_le (l : List UInt8) : signN l ≤ l.length := by
  unfold signN
  split
  · rename_i h
    unfold twoB at h
    simp only [Bool.or_eq_true] at h
    rcases h with (((h | h) | h) | h) | h <;> (have := Lib.hasPrefix_le h; simpa using this)
  · split
    · rename_i h
      cases l with
      | nil => cases h
      | cons b r => simp
    · exact Nat.zero_le _
theorem word_le (l : List UInt8) : (wordS l).2 ≤ l.length := by
  unfold wordS
  split
  · exact prefix_le l
  · split
    · exact lead_le _ 0 l
    · split
      · exact digits_le l _ (lead_le _ 0 l)
      · unfold signS
        split
        · exact Nat.zero_le _
        · exact signN_le l
/- no word is of kind nought -/
theorem word_kind (l : List UInt8) (h : ¬ (wordS l).2 = 0) : (wordS l).1.k = 1 ∨ (wordS l).1.k = 2 ∨ (wordS l).1.k = 3 ∨ (wordS l).1.k = 4 ∨ (wordS l).1.k = 5 := by
  unfold wordS at h ⊢
  split
  · unfold termTok; split <;> simp
  · split
    · simp
    · split
      · unfold digitsS; split <;> simp
      · rename_i h1 h2 h3
        rw [if_neg h1, if_neg h2, if_neg h3] at h
        unfold signS at h ⊢
        split
        · rename_i h4; rw [if_pos h4] at h; exact absurd rfl h
        · simp

theorem nextS_err (l : List UInt8) (a : Nat) : (nextS l a).2.2 = 0 ∨ (nextS l a).2.2 = 2 := by
  unfold nextS
  split
  · exact .inl rfl
  · split
    · exact .inr rfl
    · exact .inl rfl
theorem toksS_err (l : List UInt8) : ∀ f a, (toksS l f a).2.2 = 0 ∨ (toksS l f a).2.2 = 2
  | 0, _ => .inl rfl
  | f + 1, a => by
    unfold toksS
    split
    · exact .inr rfl
    · split
      · exact .inl rfl
      · split
        · exact .inl rfl
        · exact .inr rfl

/- the three ways of a step -/
theorem next_end {l : List UInt8} {a : Nat} (h : begS l a = l.length) : nextS l a = (noTok, l.length, 0) := by unfold nextS; rw [if_pos h, h]
theorem next_bad {l : List UInt8} {a : Nat} (h : ¬ begS l a = l.length) (h2 : (wordS (l.drop (begS l a))).2 = 0) : nextS l a = (noTok, 0, 2) := by unfold nextS; rw [if_neg h, if_pos h2]
theorem next_word {l : List UInt8} {a : Nat} (h : ¬ begS l a = l.length) (h2 : ¬ (wordS (l.drop (begS l a))).2 = 0) : nextS l a = ((wordS (l.drop (begS l a))).1.at (begS l a), begS l a + (wordS (l.drop (begS l a))).2, 0) := by unfold nextS; rw [if_neg h, if_neg h2]

/- how far the words are taken: T so far, the place a; f rounds are left -/
def Run5 (l : List UInt8) (T : List TokL) (f a : Nat) : Prop :=
  a ≤ l.length ∧ T.length ≤ a ∧ l.length - a < f ∧ toksS l (l.length + 1) 0 = (if (toksS l f a).2.2 = 0 then (T ++ (toksS l f a).1, 0, 0) else ([], (toksS l f a).2.1, 2))
theorem run_start (l : List UInt8) : Run5 l [] (l.length + 1) 0 := by
  refine ⟨Nat.zero_le _, Nat.le_refl _, by omega, ?_⟩
  generalize hq : toksS l (l.length + 1) 0 = q
  rcases toksS_err l (l.length + 1) 0 with h | h
  · rw [hq] at h
    have h2 : q.2.1 = 0 := by
      rw [← hq] at h ⊢
      unfold toksS at h ⊢
      split
      · rename_i h0; rw [if_pos h0] at h; cases h
      · split
        · rfl
        · split
          · rfl
          · rename_i h0 h1 h2; rw [if_neg h0, if_neg h1, if_neg h2] at h; cases h
    rw [if_pos h]
    obtain ⟨x, y, z⟩ := q
    simp at h h2; subst h h2; rfl
  · rw [hq] at h
    have h2 : q.1 = [] := by
      rw [← hq] at h ⊢
      unfold toksS at h ⊢
      split
      · rfl
      · split
        · rfl
        · split
          · rename_i h0 h1 h2; rw [if_neg h0, if_neg h1, if_pos h2] at h; cases h
          · rfl
    rw [if_neg (by rw [h]; decide)]
    obtain ⟨x, y, z⟩ := q
    simp at h h2; subst h h2; rfl
theorem run_end {l : List UInt8} {T : List TokL} {f a : Nat} (h : Run5 l T f a) (hb : begS l a = l.length) : toksS l (l.length + 1) 0 = (T, 0, 0) := by
  obtain ⟨_, _, h2, h3⟩ := h
  obtain ⟨f, rfl⟩ : ∃ g, f = g + 1 := ⟨f - 1, by omega⟩
  have e : toksS l (f + 1) a = ([], 0, 0) := by unfold toksS; rw [next_end hb, if_neg (by simp), if_pos hb]
  rw [h3, e, if_pos rfl]; simp
theorem run_bad {l : List UInt8} {T : List TokL} {f a : Nat} (h : Run5 l T f a) (hb : ¬ begS l a = l.length) (hw : (wordS (l.drop (begS l a))).2 = 0) : toksS l (l.length + 1) 0 = ([], begS l a, 2) := by
  obtain ⟨_, _, h2, h3⟩ := h
  obtain ⟨f, rfl⟩ : ∃ g, f = g + 1 := ⟨f - 1, by omega⟩
  have e : toksS l (f + 1) a = ([], begS l a, 2) := by unfold toksS; rw [next_bad hb hw, if_pos (by simp)]
  rw [h3, e, if_neg (by simp)]
theorem run_word {l : List UInt8} {T : List TokL} {f a : Nat} (h : Run5 l T (f + 1) a) (hb : ¬ begS l a = l.length) (hw : ¬ (wordS (l.drop (begS l a))).2 = 0) :
    Run5 l (T ++ [(nextS l a).1]) f (nextS l a).2.1 ∧ a < (nextS l a).2.1 := by
  obtain ⟨h0, h1, h2, h3⟩ := h
  have hle := word_le (l.drop (begS l a))
  have hb2 := begS_le h0
  have hb3 := begS_ge l a
  rw [List.length_drop] at hle
  have hn := next_word hb hw
  have e : toksS l (f + 1) a = if (toksS l f (nextS l a).2.1).2.2 = 0 then ((nextS l a).1 :: (toksS l f (nextS l a).2.1).1, 0, 0) else ([], (toksS l f (nextS l a).2.1).2.1, 2) := by
    conv => lhs; unfold toksS
    rw [if_neg (by rw [hn]; simp), if_neg hb]
  rw [e] at h3
  have hn2 : (nextS l a).2.1 = begS l a + (wordS (l.drop (begS l a))).2 := by rw [hn]
  generalize nextS l a = q at *
  rw [hn2] at h3 ⊢
  refine ⟨⟨by omega, by rw [List.length_append, List.length_singleton]; omega, by omega, ?_⟩, by omega⟩
  rw [h3]
  rcases toksS_err l f (begS l a + (wordS (l.drop (begS l a))).2) with g | g
  · simp [g]
  · simp [g]

end Go.Proofs.YtdnfaoanaehjhaaGreatDoor

/- Formulas in plain words (no program): parts, their cells; the kind whose mark a text is; what a chain of variables with signs between them comes to. -/
namespace Go.Proofs.YtdnfaoanaehjhaaGreatDoor

structure PartL where
  k : Int
  t : TermL
  m : List UInt8
  c : Int
def noPart : PartL := ⟨0, noTerm, [], 0⟩
def signPart (k : Int) : PartL := ⟨k, noTerm, [], 0⟩
def varPart (x : List UInt8) : PartL := ⟨2, noTerm, x, 0⟩
/- its cells, side by side -/
def PartL.cells (p : PartL) : List Value := [.int .i64 p.k, .int .i64 p.t.k, .string (bs p.t.x), .string (bs p.t.y), .string (bs p.t.z), .string (bs p.m), .int .i64 p.c]
def PartL.v (p : PartL) : Value := .agg #[.int .i64 p.k, .int .i64 p.t.k, .string (bs p.t.x), .string (bs p.t.y), .string (bs p.t.z), .string (bs p.m), .int .i64 p.c]
def partCells (l : List PartL) : List Value := l.flatMap PartL.cells
theorem PartL.cells_length (p : PartL) : p.cells.length = 7 := rfl
theorem partCells_length (l : List PartL) : (partCells l).length = l.length * 7 := by
  induction l with
  | nil => rfl
  | cons t r ih => unfold partCells at *; rw [List.flatMap_cons, List.length_append, ih, PartL.cells_length, List.length_cons]; omega
theorem partCells_append (l r : List PartL) : partCells (l ++ r) = partCells l ++ partCells r := by unfold partCells; exact List.flatMap_append
theorem partCells_one (t : PartL) : partCells [t] = t.cells := by unfold partCells; simp
theorem partCells_at : ∀ (L : List PartL) (k : Nat) (hk : k < L.length) (i : Nat), i < 7 → (partCells L)[k * 7 + i]? = L[k].cells[i]?
  | [], k, hk, _, _ => absurd hk (Nat.not_lt_zero _)
  | t :: L, 0, _, i, hi => by
    show (t.cells ++ partCells L)[0 * 7 + i]? = _
    rw [List.getElem?_append_left (by rw [PartL.cells_length]; omega), Nat.zero_mul, Nat.zero_add]; rfl
  | t :: L, k + 1, hk, i, hi => by
    show (t.cells ++ partCells L)[(k + 1) * 7 + i]? = _
    rw [List.getElem?_append_right (by rw [PartL.cells_length]; omega), PartL.cells_length, show (k + 1) * 7 + i - 7 = k * 7 + i by omega, partCells_at L k (by simpa using hk) i hi]
    simp

/- the marks of all kinds; the levels: from, to, just once -/
def marksL : List (List UInt8) := [[], [], [], [66, 79, 85, 78, 68], [33], [45], [38, 38], [124, 124], [61], [33, 61], [60], [62], [60, 61], [62, 61], [43], [45], [42], [47], [83, 84, 82], [76, 65, 78, 71], [68, 65, 84, 65, 84, 89, 80, 69], [73, 83, 73, 82, 73], [73, 83, 76, 73, 84, 69, 82, 65, 76], [73, 83, 66, 76, 65, 78, 75], [83, 65, 77, 69, 84, 69, 82, 77], [73, 70], [67, 79, 65, 76, 69, 83, 67, 69]]
def markN (k : Nat) : List UInt8 := marksL.getD k []
def levelsL : List (Nat × Nat × Bool) := [(7, 7, false), (6, 6, false), (8, 13, true), (14, 15, false), (16, 17, false)]
def lev (i : Nat) : Nat × Nat × Bool := levelsL.getD i (0, 0, false)

/- the first one of c kinds from a on whose mark a text is; nought: none -/
def kindM (s : List UInt8) : Nat → Nat → Nat
  | _, 0 => 0
  | a, c + 1 => if markN a = s then a else kindM s (a + 1) c
/- the kind of the sign that a word is -/
def signK (L : List TokL) (a f t : Nat) : Nat :=
  match L[a]? with
  | none => 0
  | some w => if w.k = 5 then kindM w.x f (t + 1 - f) else 0
/- the place, the parts so far -/
abbrev StL := Nat × List PartL
/- a variable is read (of all else nothing is said here) -/
def signedM (L : List TokL) (q : StL) : Option StL :=
  match L[q.1]? with
  | none => none
  | some w => if w.k = 2 ∧ nameL w.x = true then some (q.1 + 1, q.2 ++ [varPart w.x]) else none
def levsM (gath : Nat → StL → Option StL) (n : Nat) : Nat → StL → Option StL
  | 0, q => some q
  | k + 1, q => (gath (n + k) q).bind (levsM gath n k)
def chainOf (gath : Nat → StL → Option StL) (L : List TokL) (n : Nat) (q : StL) : Option StL := (signedM L q).bind (levsM gath n (5 - n))
def gatherM (L : List TokL) : Nat → Nat → StL → Option StL
  | 0, _, _ => none
  | f + 1, i, q =>
    if signK L q.1 (lev i).1 (lev i).2.1 = 0 then some q
    else (chainOf (gatherM L f) L (i + 1) (q.1 + 1, q.2)).bind fun r =>
      if (lev i).2.2 = true then some (r.1, r.2 ++ [signPart (signK L q.1 (lev i).1 (lev i).2.1)])
      else gatherM L f i (r.1, r.2 ++ [signPart (signK L q.1 (lev i).1 (lev i).2.1)])
def chainM (L : List TokL) (f n : Nat) (q : StL) : Option StL := chainOf (gatherM L f) L n q

theorem kindM_range (s : List UInt8) : ∀ c a, kindM s a c = 0 ∨ (a ≤ kindM s a c ∧ kindM s a c < a + c) := by
  intro c
  induction c with
  | zero => intro a; exact .inl rfl
  | succ c ih =>
    intro a
    unfold kindM
    split
    · exact .inr ⟨Nat.le_refl _, by omega⟩
    · rcases ih (a + 1) with h | h
      · exact .inl h
      · exact .inr (by omega)
theorem signK_at {L : List TokL} {a f t : Nat} (h : a < L.length) : signK L a f t = if (L[a]).k = 5 then kindM (L[a]).x f (t + 1 - f) else 0 := by unfold signK; rw [List.getElem?_eq_getElem h]
theorem signK_le {L : List TokL} {a f t : Nat} (h : signK L a f t ≠ 0) : a < L.length ∧ f ≤ signK L a f t ∧ signK L a f t ≤ t := by
  have ha : a < L.length := by
    by_cases hc : a < L.length
    · exact hc
    · exact absurd (by unfold signK; rw [List.getElem?_eq_none (by omega)]) h
  refine ⟨ha, ?_⟩
  have e : signK L a f t = if (L[a]).k = 5 then kindM (L[a]).x f (t + 1 - f) else 0 := by unfold signK; rw [List.getElem?_eq_getElem ha]
  rw [e] at h ⊢
  split at h
  · rename_i h5
    rw [if_pos h5]
    rcases kindM_range (L[a]).x (t + 1 - f) f with hz | hz
    · exact absurd hz h
    · omega
  · exact absurd rfl h
/- how far a reading that ends comes: no more parts than words -/
def StIn (L : List TokL) (q : StL) : Prop := q.2.length ≤ q.1 ∧ q.1 ≤ L.length
theorem signed_in {L : List TokL} {q r : StL} (h : signedM L q = some r) (hq : StIn L q) : StIn L r ∧ q.1 < L.length := by
  have ha : q.1 < L.length := by
    by_cases hc : q.1 < L.length
    · exact hc
    · exact absurd h (by unfold signedM; rw [List.getElem?_eq_none (by omega)]; simp)
  unfold signedM at h
  rw [List.getElem?_eq_getElem ha] at h
  simp only at h
  split at h
  · simp only [Option.some.injEq] at h
    subst h
    exact ⟨⟨by rw [List.length_append]; exact Nat.add_le_add_right hq.1 1, ha⟩, ha⟩
  · cases h

/- what the five words come to: of two signs the closer one first, of two as close the first one -/
def noTok5 (k : Int) (x : List UInt8) : TokL := ⟨k, x, noTerm, 0⟩
def bindsL (a b : Nat) : List TokL := [noTok5 2 [97], noTok5 5 (markN a), noTok5 2 [98], noTok5 5 (markN b), noTok5 2 [99]]
def closeN (k : Nat) : Nat := if k = 7 then 0 else if k = 6 then 1 else if k ≤ 13 then 2 else if k ≤ 15 then 3 else 4
def bindsR (a b : Nat) : StL :=
  if closeN a = 2 ∧ closeN b = 2 then (3, [varPart [97], varPart [98], signPart a])
  else if closeN b ≤ closeN a then (5, [varPart [97], varPart [98], signPart a, varPart [99], signPart b])
  else (5, [varPart [97], varPart [98], varPart [99], signPart b, signPart a])
theorem binds_all : ((List.range 12).map fun a => (List.range 12).map fun b => chainM (bindsL (a + 6) (b + 6)) 6 0 (0, [])) = ((List.range 12).map fun a => (List.range 12).map fun b => some (bindsR (a + 6) (b + 6))) := by kernel_rfl
theorem binds_ans (a b : Nat) (ha : 6 ≤ a) (ha' : a < 18) (hb : 6 ≤ b) (hb' : b < 18) : chainM (bindsL a b) 6 0 (0, []) = some (bindsR a b) := by
  have h := congrArg (fun l => (l[a - 6]?.getD [])[b - 6]?) binds_all
  simp only [List.getElem?_map, List.getElem?_range (show a - 6 < 12 by omega), Option.map_some, Option.getD_some, List.getElem?_range (show b - 6 < 12 by omega), Nat.sub_add_cancel ha, Nat.sub_add_cancel hb, Option.some.injEq] at h
  exact h

end Go.Proofs.YtdnfaoanaehjhaaGreatDoor
