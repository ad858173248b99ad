/- Texts of numbers, as plain functions on lists of bytes (no program): the sign, the full stop, the digits, the number read. -/
import Derived.Test.YtdoagbengfdcgaaDoorNumPlain
import Derived.Lib.Strings
import Derived.Lib.Bytes2
import Derived.Lib.Bytealg
namespace Go.Proofs.YtdoagbengfdcgaaDoor

/- a list as a text -/
def bs (l : List UInt8) : ByteArray := ⟨l.toArray⟩
theorem bs_data (l : List UInt8) : (bs l).data.toList = l := rfl
theorem bs_size (l : List UInt8) : (bs l).size = l.length := rfl
theorem bs_toList (l : List UInt8) : (bs l).toList = l := by rw [Lib.toList_data]; rfl
theorem bs_of (s : ByteArray) : bs s.data.toList = s := rfl
theorem bs_eq {s : ByteArray} {l : List UInt8} (h : s.data.toList = l) : s = bs l := by subst h; rfl
theorem bs_nil : bs [] = ⟨#[]⟩ := rfl
theorem bs_app (a b : List UInt8) : bs a ++ bs b = bs (a ++ b) := bs_eq (by show (bs a ++ bs b).data.toList = _; simp [bs])
theorem drop_bs (s : ByteArray) (a : Nat) : s.extract a s.size = bs (s.data.toList.drop a) := bs_eq (by rw [Lib.extract_data, List.take_of_length_le]; rw [List.length_drop, ← Lib.size_eq]; exact Nat.le_refl _)
theorem piece_bs (s : ByteArray) (a b : Nat) : s.extract a b = bs ((s.data.toList.drop a).take (b - a)) := bs_eq (Lib.extract_data s a b)

/- what stands ahead of the first full stop, and behind it -/
def dotAhead : List UInt8 → List UInt8
  | [] => []
  | c :: r => if c = 46 then [] else c :: dotAhead r
def dotBehind : List UInt8 → List UInt8
  | [] => []
  | c :: r => if c = 46 then r else dotBehind r
def hasDot : List UInt8 → Bool
  | [] => false
  | c :: r => if c = 46 then true else hasDot r

def DotYes (l : List UInt8) : Prop := Lib.indexByte l 46 = (dotAhead l).length ∧ (dotAhead l).length < l.length ∧ l.take (dotAhead l).length = dotAhead l ∧ l.drop ((dotAhead l).length + 1) = dotBehind l
def DotNo (l : List UInt8) : Prop := Lib.indexByte l 46 = -1 ∧ dotAhead l = l ∧ dotBehind l = []
theorem dot_cases (l : List UInt8) : (hasDot l = true ∧ DotYes l) ∨ (hasDot l = false ∧ DotNo l) := by
  unfold DotYes DotNo
  induction l with
  | nil => right; simp [hasDot, Lib.indexByte, dotAhead, dotBehind]
  | cons c r ih =>
    by_cases hc : c = 46
    · left; simp [hasDot, Lib.indexByte, dotAhead, dotBehind, hc]
    · have hb : (c == 46) = false := by simpa using hc
      rcases ih with ⟨h, h1, h2, h3, h4⟩ | ⟨h, h1, h2, h3⟩
      · left
        refine ⟨by simp [hasDot, hc, h], ?_, ?_, ?_, ?_⟩
        · simp only [Lib.indexByte, hb, dotAhead, hc, h1]
          have : (((dotAhead r).length : Int) == -1) = false := beq_eq_false_iff_ne.2 (by omega)
          simp [this]
        · simp [dotAhead, hc, h2]
        · simp [dotAhead, hc, h3]
        · simp [dotAhead, dotBehind, hc, h4]
      · right
        refine ⟨by simp [hasDot, hc, h], ?_, ?_, ?_⟩
        · simp [Lib.indexByte, hb, h1]
        · simp [dotAhead, hc, h2]
        · simp [dotBehind, hc, h3]

/- the sign -/
def unsigned : List UInt8 → List UInt8
  | [] => []
  | c :: r => if c = 45 then r else if c = 43 then r else c :: r
def signOf : List UInt8 → Int
  | [] => 1
  | c :: _ => if c = 45 then -1 else 1
theorem sign_cases (l : List UInt8) : (Lib.hasPrefix l [45] = true ∧ 1 ≤ l.length ∧ unsigned l = l.drop 1 ∧ signOf l = -1) ∨ (Lib.hasPrefix l [45] = false ∧ Lib.hasPrefix l [43] = true ∧ 1 ≤ l.length ∧ unsigned l = l.drop 1 ∧ signOf l = 1) ∨ (Lib.hasPrefix l [45] = false ∧ Lib.hasPrefix l [43] = false ∧ unsigned l = l ∧ signOf l = 1) := by
  match l with
  | [] => right; right; simp [Lib.hasPrefix, unsigned, signOf]
  | c :: r =>
    by_cases h1 : c = 45
    · left; subst h1; simp [Lib.hasPrefix, unsigned, signOf]
    · have h1' : (45 == c) = false := beq_eq_false_iff_ne.2 fun h => h1 h.symm
      by_cases h2 : c = 43
      · right; left; subst h2; simp [Lib.hasPrefix, List.isPrefixOf, unsigned, signOf]
      · have h2' : (43 == c) = false := beq_eq_false_iff_ne.2 fun h => h2 h.symm
        right; right
        refine ⟨?_, ?_, ?_, ?_⟩
        · simp only [Lib.hasPrefix, List.isPrefixOf, h1', Bool.false_and]
        · simp only [Lib.hasPrefix, List.isPrefixOf, h2', Bool.false_and]
        · simp [unsigned, h1, h2]
        · simp [signOf, h1]

/- how much digits are -/
def digitB (c : UInt8) : Bool := decide (48 ≤ (c.toNat : Int) ∧ (c.toNat : Int) ≤ 57)
def amt13 : Int → List UInt8 → Int × Bool
  | a, [] => (a, true)
  | a, c :: r => if digitB c then amt13 (a * 10 + ((c.toNat : Int) - 48)) r else (0, false)

def countZ (a h : Int) (dec : Bool) : Bool := decide (a + h ≤ 13) && (if dec then decide (1 ≤ h ∧ h ≤ 4) else decide (1 ≤ a))

/- the number that a text is -/
def readB (b : List UInt8) (sg : Int) (dec : Bool) : NumL × Bool :=
  if (hasDot b != dec) = true then (noNum, false)
  else if countZ (dotAhead b).length (dotBehind b).length dec = false then (noNum, false)
  else if (amt13 0 (dotAhead b ++ dotBehind b)).2 = false then (noNum, false)
  else madeL (sg * (amt13 0 (dotAhead b ++ dotBehind b)).1) (dotBehind b).length dec
def readL (l : List UInt8) (dec : Bool) : NumL × Bool := readB (unsigned l) (signOf l) dec

theorem amt13_bound (l : List UInt8) : ∀ (k : Nat) (a : Int), 0 ≤ a → a < ten k → (amt13 a l).2 = true → 0 ≤ (amt13 a l).1 ∧ (amt13 a l).1 < ten (k + l.length) := by
  induction l with
  | nil => intro k a h0 h1 _; exact ⟨h0, h1⟩
  | cons c r ih =>
    intro k a h0 h1 h
    unfold amt13 at h ⊢
    by_cases hd : digitB c = true
    · rw [if_pos hd] at h ⊢
      have hd' : 48 ≤ (c.toNat : Int) ∧ (c.toNat : Int) ≤ 57 := by simpa [digitB] using hd
      have e : ten (k + 1) = 10 * ten k := rfl
      have := ih (k + 1) (a * 10 + ((c.toNat : Int) - 48)) (by omega) (by omega) h
      rw [show k + (c :: r).length = k + 1 + r.length by simp; omega]
      exact this
    · rw [if_neg hd] at h; cases h

end Go.Proofs.YtdoagbengfdcgaaDoor
