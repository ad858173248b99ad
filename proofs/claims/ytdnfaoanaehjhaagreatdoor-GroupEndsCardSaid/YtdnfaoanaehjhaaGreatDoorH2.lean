/- FormCheckPlain, NumPlain, NumReadPlain, NumDigits, EvalPlain, put together. -/
import Derived.Test.YtdnfaoanaehjhaaGreatDoorH1
import Derived.WalkKit
import Derived.Lib.Strings
import Derived.Lib.Bytes2
import Derived.Lib.Bytealg
import Derived.Lib.ItoaMem
import Derived.Lib.Repeat

/- Which rows of parts are formulas, in plain words: what a part needs, whether it is right, how many results there are; where the parts begin whose result a part makes. -/
namespace Go.Proofs.YtdnfaoanaehjhaaGreatDoor

def needK (k : Int) : Int := if k = 1 ∨ k = 2 ∨ k = 3 then 0 else if k = 4 ∨ k = 5 ∨ (18 ≤ k ∧ k ≤ 23) then 1 else if (6 ≤ k ∧ k ≤ 17) ∨ k = 24 then 2 else if k = 25 then 3 else -1
def coalN (c : Int) : Int := if 1 ≤ c ∧ c ≤ 16 then c else -1
def needM (p : PartL) : Int := if p.k = 26 then coalN p.c else if p.c = 0 then needK p.k else -1
def refNeed (p : PartL) : Int := if p.k = 26 then coalN p.c else needK p.k
def zeroT (t : TermL) : Bool := decide (t.k = 0) && t.x.isEmpty && t.y.isEmpty && t.z.isEmpty
def valueT (t : TermL) : Bool := (decide (t.k = 1) || decide (t.k = 2)) && rightL t.k t.x t.y t.z
def rightM (p : PartL) : Bool := if p.k = 1 then valueT p.t && p.m.isEmpty else if p.k = 2 ∨ p.k = 3 then nameL p.m && zeroT p.t else p.m.isEmpty && zeroT p.t
def goodM (p : PartL) : Bool := decide (0 ≤ needM p) && rightM p
def nd (p : PartL) : Nat := (needM p).toNat

def chkGo : List PartL → Nat → Option Nat
  | [], h => some h
  | p :: r, h => if goodM p = true ∧ nd p ≤ h then chkGo r (h - nd p + 1) else none
def chkE (L : List PartL) : Int := if 256 < L.length then 3 else if chkGo L 0 = some 1 then 0 else 2

theorem need_good {p : PartL} (h : goodM p = true) : needM p = (nd p : Int) ∧ refNeed p = (nd p : Int) ∧ (p.k = 26 ∨ p.c = 0) ∧ rightM p = true := by
  unfold goodM at h
  simp only [Bool.and_eq_true, decide_eq_true_eq] at h
  obtain ⟨h0, hr⟩ := h
  have e : needM p = (nd p : Int) := by unfold nd; omega
  refine ⟨e, ?_, ?_, hr⟩
  · rw [← e]
    unfold refNeed needM at *
    split
    · rfl
    · rename_i hk
      rw [if_neg hk] at h0
      split at h0
      · rename_i hc; rw [if_pos hc]
      · omega
  · unfold needM at h0
    split at h0
    · rename_i hk; exact .inl hk
    · split at h0
      · rename_i hc; exact .inr hc
      · omega
theorem nd_most {p : PartL} (h : goodM p = true) : nd p ≤ 16 := by
  have h1 := (need_good h).1
  unfold needM coalN needK at h1
  split at h1
  · split at h1 <;> omega
  · split at h1
    · repeat (split at h1)
      all_goals omega
    · omega
/- one more part -/
theorem chk_step {p : PartL} {r : List PartL} {h : Nat} (hp : goodM p = true) (hn : nd p ≤ h) : chkGo (p :: r) h = chkGo r (h - nd p + 1) := by rw [chkGo, if_pos ⟨hp, hn⟩]
theorem chk_stop {p : PartL} {r : List PartL} {h : Nat} (hp : ¬ (goodM p = true ∧ nd p ≤ h)) : chkGo (p :: r) h = none := by rw [chkGo, if_neg hp]

/- the heights: how many results there are ahead of each part -/
structure Hts (L : List PartL) (hh : Nat → Nat) : Prop where
  zero : hh 0 = 0
  step : ∀ k (h : k < L.length), goodM L[k] = true ∧ nd L[k] ≤ hh k ∧ hh (k + 1) + nd L[k] = hh k + 1
theorem hts_le {L : List PartL} {hh : Nat → Nat} (H : Hts L hh) : ∀ k, k ≤ L.length → hh k ≤ k
  | 0, _ => by rw [H.zero]; exact Nat.le_refl _
  | k + 1, h => by
    have h1 := hts_le H k (by omega)
    obtain ⟨_, _, hs⟩ := H.step k (by omega)
    omega
theorem hts_of : ∀ (L : List PartL) (h r : Nat), chkGo L h = some r → ∃ hh : Nat → Nat, hh 0 = h ∧ hh L.length = r ∧ ∀ k (hk : k < L.length), goodM L[k] = true ∧ nd L[k] ≤ hh k ∧ hh (k + 1) + nd L[k] = hh k + 1
  | [], h, r, e => ⟨fun _ => h, rfl, by simpa [chkGo] using e, fun k hk => absurd hk (Nat.not_lt_zero _)⟩
  | p :: L, h, r, e => by
    rw [chkGo] at e
    split at e
    · rename_i hc
      obtain ⟨hh, h0, hl, hs⟩ := hts_of L _ r e
      refine ⟨fun k => match k with | 0 => h | k + 1 => hh k, rfl, by simpa using hl, fun k hk => ?_⟩
      cases k with
      | zero =>
        refine ⟨hc.1, hc.2, ?_⟩
        show hh 0 + nd p = h + 1
        have := hc.2
        omega
      | succ k => exact hs k (by simpa using hk)
    · cases e

/- what the parts from a place on make, taken by themselves: never less, never more -/
theorem chk_sound {L : List PartL} {hh : Nat → Nat} (H : Hts L hh) : ∀ n a h r, a + n ≤ L.length → chkGo ((L.drop a).take n) h = some r → r + hh a = h + hh (a + n)
  | 0, a, h, r, _, e => by simp [chkGo] at e; subst e; rfl
  | n + 1, a, h, r, hl, e => by
    have ha : a < L.length := by omega
    obtain ⟨_, _, hs⟩ := H.step a ha
    rw [List.drop_eq_getElem_cons ha, List.take_succ_cons, chkGo] at e
    split at e
    · rename_i hc
      have := chk_sound H n (a + 1) _ r (by omega) e
      rw [show a + 1 + n = a + (n + 1) by omega] at this
      have := hc.2
      omega
    · cases e
theorem chk_whole {L : List PartL} {hh : Nat → Nat} (H : Hts L hh) (b : Nat) : ∀ n a, a + n ≤ L.length → b ≤ hh a → (∀ k (h : k < L.length), a ≤ k → k < a + n → nd L[k] + b ≤ hh k) → chkGo ((L.drop a).take n) (hh a - b) = some (hh (a + n) - b)
  | 0, a, _, _, _ => by simp [chkGo]
  | n + 1, a, hl, hb, hk => by
    have ha : a < L.length := by omega
    obtain ⟨hg, _, hs⟩ := H.step a ha
    have h1 := hk a ha (Nat.le_refl _) (by omega)
    rw [List.drop_eq_getElem_cons ha, List.take_succ_cons, chk_step hg (by omega), show hh a - b - nd L[a] + 1 = hh (a + 1) - b by omega]
    rw [chk_whole H b n (a + 1) (by omega) (by omega) (fun k h h2 h3 => hk k h (by omega) (by omega)), show a + 1 + n = a + (n + 1) by omega]

/- where the parts begin whose result part i makes -/
structure FromAt (hh : Nat → Nat) (i p : Nat) : Prop where
  le : p ≤ i
  at_ : hh p + 1 = hh (i + 1)
  up : ∀ q, p < q → q ≤ i + 1 → hh (i + 1) ≤ hh q
theorem from_ex {L : List PartL} {hh : Nat → Nat} (H : Hts L hh) {i : Nat} (hi : i < L.length) : ∃ p, FromAt hh i p := by
  have hpos : 0 < hh (i + 1) := by have := H.step i hi; omega
  have key : ∀ d, d ≤ i → (∀ q, i - d < q → q ≤ i + 1 → hh (i + 1) ≤ hh q) → ∃ p, FromAt hh i p := by
    intro d
    induction h : i - d generalizing d with
    | zero =>
      intro hd hup
      refine ⟨0, Nat.zero_le _, ?_, fun q h1 h2 => hup q h1 h2⟩
      have h1 := hup 1 (by omega) (by omega)
      obtain ⟨_, _, hs⟩ := H.step 0 (by omega)
      rw [Nat.zero_add, H.zero] at hs
      rw [H.zero]
      omega
    | succ m ih =>
      intro hd hup
      by_cases hc : hh (m + 1) < hh (i + 1)
      · refine ⟨m + 1, by omega, ?_, fun q h1 h2 => hup q h1 h2⟩
        have h1 := hup (m + 1 + 1) (by omega) (by omega)
        obtain ⟨_, _, hs⟩ := H.step (m + 1) (by omega)
        omega
      · refine ih (d + 1) (by omega) (by omega) (fun q h1 h2 => ?_)
        by_cases hq : q = m + 1
        · subst hq; omega
        · exact hup q (by omega) h2
  exact key 0 (Nat.zero_le _) (fun q h1 h2 => Nat.le_of_eq (congrArg hh (show i + 1 = q by omega)))
/- the part there needs none -/
theorem from_first {L : List PartL} {hh : Nat → Nat} (H : Hts L hh) {i p : Nat} (hi : i < L.length) (F : FromAt hh i p) : nd (L[p]'(Nat.lt_of_le_of_lt F.le hi)) = 0 ∧ hh (p + 1) = hh (i + 1) := by
  have hp : p < L.length := Nat.lt_of_le_of_lt F.le hi
  obtain ⟨_, _, hs⟩ := H.step p hp
  have h1 := F.up (p + 1) (by omega) (by have := F.le; omega)
  have h2 := F.at_
  omega
theorem from_good {L : List PartL} {hh : Nat → Nat} (H : Hts L hh) (h256 : L.length ≤ 256) {i p : Nat} (hi : i < L.length) (F : FromAt hh i p) : chkE ((L.drop p).take (i + 1 - p)) = 0 := by
  have hp := F.le
  have hw := chk_whole H (hh p) (i + 1 - p) p (by omega) (Nat.le_refl _) (fun k h h1 h2 => by
    obtain ⟨_, hn, hs⟩ := H.step k h
    by_cases hk : k = p
    · subst hk
      have := (from_first H hi F).1
      omega
    · have u1 := F.up k (by omega) (by omega)
      have u2 := F.up (k + 1) (by omega) (by omega)
      have := F.at_
      omega)
  rw [Nat.sub_self, show p + (i + 1 - p) = i + 1 by omega, show hh (i + 1) - hh p = 1 by have := F.at_; omega] at hw
  unfold chkE
  rw [if_neg (by rw [List.length_take, List.length_drop]; omega), if_pos hw]
theorem from_bad {L : List PartL} {hh : Nat → Nat} (H : Hts L hh) {i p a : Nat} (hi : i < L.length) (F : FromAt hh i p) (ha : p < a) (hai : a ≤ i) : chkE ((L.drop a).take (i + 1 - a)) ≠ 0 := by
  unfold chkE
  split
  · decide
  · rw [if_neg]
    · decide
    · intro e
      have := chk_sound H (i + 1 - a) a 0 1 (by omega) e
      rw [show a + (i + 1 - a) = i + 1 by omega] at this
      have := F.up a ha (by omega)
      omega

end Go.Proofs.YtdnfaoanaehjhaaGreatDoor

/- Plain words on numbers (no program): a number, which ones are right, how a value is cut down, what is reckoned. -/
namespace Go.Proofs.YtdnfaoanaehjhaaGreatDoor.Nm

theorem ret_bool {a b : Bool} (h : a = b) : Ending.returned (.bool a) = .returned (.bool b) := by rw [h]
theorem ret_int {k : IntKind} {a b : Int} (h : a = b) : Ending.returned (.int k a) = .returned (.int k b) := by rw [h]

structure NumL where
  v : Int
  s : Int
  d : Bool
def NumL.val (n : NumL) : Value := .agg #[.int .i64 n.v, .int .i64 n.s, .bool n.d]
def noNum : NumL := ⟨0, 0, false⟩

def boundZ (v : Int) : Bool := decide (-999999999 ≤ v ∧ v ≤ 999999999)
def rightZ (v s : Int) (d : Bool) : Bool := boundZ v && decide (0 ≤ s ∧ s ≤ 4) && (decide (s = 0) || (d && !decide (v.tmod 10 = 0)))

theorem rightZ_iff (v s : Int) (d : Bool) : rightZ v s d = true ↔ (-999999999 ≤ v ∧ v ≤ 999999999) ∧ (0 ≤ s ∧ s ≤ 4) ∧ (s = 0 ∨ (d = true ∧ v.tmod 10 ≠ 0)) := by
  simp [rightZ, boundZ]
  constructor
  · rintro ⟨⟨⟨a, b⟩, c, e⟩, f⟩; exact ⟨⟨a, b⟩, ⟨c, e⟩, f⟩
  · rintro ⟨⟨a, b⟩, ⟨c, e⟩, f⟩; exact ⟨⟨⟨a, b⟩, c, e⟩, f⟩

/- 10 to so many -/
def ten : Nat → Int
  | 0 => 1
  | k + 1 => 10 * ten k

/- noughts behind are left out, as long as there are places -/
def strip : Nat → Int → Int × Nat
  | 0, v => (v, 0)
  | k + 1, v => if v.tmod 10 = 0 then strip k (v.tdiv 10) else (v, k + 1)

/- a value and a scale cut down -/
def cutZ (v : Int) (s : Nat) : Int × Nat := strip (min s 4) (v.tdiv (ten (s - 4)))

def madeL (v : Int) (s : Nat) (d : Bool) : NumL × Bool :=
  if boundZ (cutZ v s).1 then (⟨(cutZ v s).1, (cutZ v s).2, d⟩, true) else (noNum, false)

theorem strip_le (k : Nat) : ∀ v : Int, (strip k v).2 ≤ k := by
  induction k with
  | zero => intro v; simp [strip]
  | succ k ih =>
    intro v; unfold strip; split
    · have := ih (v.tdiv 10); omega
    · simp

theorem tdiv_le (v c : Int) (h : 1 ≤ c) (b : Int) (h1 : -b ≤ v) (h2 : v ≤ b) : -b ≤ v.tdiv c ∧ v.tdiv c ≤ b := by
  rcases Int.le_total 0 v with hv | hv
  · have e : v.tdiv c = v / c := Int.tdiv_eq_ediv_of_nonneg hv
    have l1 := Int.ediv_nonneg hv (by omega : 0 ≤ c)
    have l2 := Int.ediv_le_self c hv
    omega
  · have e : (-v).tdiv c = (-v) / c := Int.tdiv_eq_ediv_of_nonneg (by omega)
    have l1 := Int.ediv_nonneg (by omega : 0 ≤ -v) (by omega : 0 ≤ c)
    have l2 := Int.ediv_le_self c (by omega : 0 ≤ -v)
    rw [Int.neg_tdiv] at e
    omega

end Go.Proofs.YtdnfaoanaehjhaaGreatDoor.Nm

/- Texts of numbers, as plain functions on lists of bytes (no program): the sign, the full stop, the digits, the number read. -/
namespace Go.Proofs.YtdnfaoanaehjhaaGreatDoor.Nm

/- a list as a text -/
def bs (l : List UInt8) : ByteArray := ⟨l.toArray⟩
theorem bs_data (l : List UInt8) : (bs l).data.toList = l := rfl
theorem bs_size (l : List UInt8) : (bs l).size = l.length := rfl
theorem bs_toList (l : List UInt8) : (bs l).toList = l := by rw [Lib.toList_data]; rfl
theorem bs_of (s : ByteArray) : bs s.data.toList = s := rfl
theorem bs_eq {s : ByteArray} {l : List UInt8} (h : s.data.toList = l) : s = bs l := by subst h; rfl
theorem bs_nil : bs [] = ⟨#[]⟩ := rfl
theorem bs_app (a b : List UInt8) : bs a ++ bs b = bs (a ++ b) := bs_eq (by show (bs a ++ bs b).data.toList = _; simp [bs])
theorem drop_bs (s : ByteArray) (a : Nat) : s.extract a s.size = bs (s.data.toList.drop a) := bs_eq (by rw [Lib.extract_data, List.take_of_length_le]; rw [List.length_drop, ← Lib.size_eq]; exact Nat.le_refl _)
theorem piece_bs (s : ByteArray) (a b : Nat) : s.extract a b = bs ((s.data.toList.drop a).take (b - a)) := bs_eq (Lib.extract_data s a b)

/- what stands ahead of the first full stop, and behind it -/
def dotAhead : List UInt8 → List UInt8
  | [] => []
  | c :: r => if c = 46 then [] else c :: dotAhead r
def dotBehind : List UInt8 → List UInt8
  | [] => []
  | c :: r => if c = 46 then r else dotBehind r
def hasDot : List UInt8 → Bool
  | [] => false
  | c :: r => if c = 46 then true else hasDot r

def DotYes (l : List UInt8) : Prop := Lib.indexByte l 46 = (dotAhead l).length ∧ (dotAhead l).length < l.length ∧ l.take (dotAhead l).length = dotAhead l ∧ l.drop ((dotAhead l).length + 1) = dotBehind l
def DotNo (l : List UInt8) : Prop := Lib.indexByte l 46 = -1 ∧ dotAhead l = l ∧ dotBehind l = []
theorem dot_cases (l : List UInt8) : (hasDot l = true ∧ DotYes l) ∨ (hasDot l = false ∧ DotNo l) := by
  unfold DotYes DotNo
  induction l with
  | nil => right; simp [hasDot, Lib.indexByte, dotAhead, dotBehind]
  | cons c r ih =>
    by_cases hc : c = 46
    · left; simp [hasDot, Lib.indexByte, dotAhead, dotBehind, hc]
    · have hb : (c == 46) = false := by simpa using hc
      rcases ih with ⟨h, h1, h2, h3, h4⟩ | ⟨h, h1, h2, h3⟩
      · left
        refine ⟨by simp [hasDot, hc, h], ?_, ?_, ?_, ?_⟩
        · simp only [Lib.indexByte, hb, dotAhead, hc, h1]
          have : (((dotAhead r).length : Int) == -1) = false := beq_eq_false_iff_ne.2 (by omega)
          simp [this]
        · simp [dotAhead, hc, h2]
        · simp [dotAhead, hc, h3]
        · simp [dotAhead, dotBehind, hc, h4]
      · right
        refine ⟨by simp [hasDot, hc, h], ?_, ?_, ?_⟩
        · simp [Lib.indexByte, hb, h1]
        · simp [dotAhead, hc, h2]
        · simp [dotBehind, hc, h3]

/- the sign -/
def unsigned : List UInt8 → List UInt8
  | [] => []
  | c :: r => if c = 45 then r else if c = 43 then r else c :: r
def signOf : List UInt8 → Int
  | [] => 1
  | c :: _ => if c = 45 then -1 else 1
theorem sign_cases (l : List UInt8) : (Lib.hasPrefix l [45] = true ∧ 1 ≤ l.length ∧ unsigned l = l.drop 1 ∧ signOf l = -1) ∨ (Lib.hasPrefix l [45] = false ∧ Lib.hasPrefix l [43] = true ∧ 1 ≤ l.length ∧ unsigned l = l.drop 1 ∧ signOf l = 1) ∨ (Lib.hasPrefix l [45] = false ∧ Lib.hasPrefix l [43] = false ∧ unsigned l = l ∧ signOf l = 1) := by
  match l with
  | [] => right; right; simp [Lib.hasPrefix, unsigned, signOf]
  | c :: r =>
    by_cases h1 : c = 45
    · left; subst h1; simp [Lib.hasPrefix, unsigned, signOf]
    · have h1' : (45 == c) = false := beq_eq_false_iff_ne.2 fun h => h1 h.symm
      by_cases h2 : c = 43
      · right; left; subst h2; simp [Lib.hasPrefix, List.isPrefixOf, unsigned, signOf]
      · have h2' : (43 == c) = false := beq_eq_false_iff_ne.2 fun h => h2 h.symm
        right; right
        refine ⟨?_, ?_, ?_, ?_⟩
        · simp only [Lib.hasPrefix, List.isPrefixOf, h1', Bool.false_and]
        · simp only [Lib.hasPrefix, List.isPrefixOf, h2', Bool.false_and]
        · simp [unsigned, h1, h2]
        · simp [signOf, h1]

/- how much digits are -/
def digitB (c : UInt8) : Bool := decide (48 ≤ (c.toNat : Int) ∧ (c.toNat : Int) ≤ 57)
def amt13 : Int → List UInt8 → Int × Bool
  | a, [] => (a, true)
  | a, c :: r => if digitB c then amt13 (a * 10 + ((c.toNat : Int) - 48)) r else (0, false)

def countZ (a h : Int) (dec : Bool) : Bool := decide (a + h ≤ 13) && (if dec then decide (1 ≤ h ∧ h ≤ 4) else decide (1 ≤ a))

/- the number that a text is -/
def readB (b : List UInt8) (sg : Int) (dec : Bool) : NumL × Bool :=
  if (hasDot b != dec) = true then (noNum, false)
  else if countZ (dotAhead b).length (dotBehind b).length dec = false then (noNum, false)
  else if (amt13 0 (dotAhead b ++ dotBehind b)).2 = false then (noNum, false)
  else madeL (sg * (amt13 0 (dotAhead b ++ dotBehind b)).1) (dotBehind b).length dec
def readL (l : List UInt8) (dec : Bool) : NumL × Bool := readB (unsigned l) (signOf l) dec

theorem amt13_bound (l : List UInt8) : ∀ (k : Nat) (a : Int), 0 ≤ a → a < ten k → (amt13 a l).2 = true → 0 ≤ (amt13 a l).1 ∧ (amt13 a l).1 < ten (k + l.length) := by
  induction l with
  | nil => intro k a h0 h1 _; exact ⟨h0, h1⟩
  | cons c r ih =>
    intro k a h0 h1 h
    unfold amt13 at h ⊢
    by_cases hd : digitB c = true
    · rw [if_pos hd] at h ⊢
      have hd' : 48 ≤ (c.toNat : Int) ∧ (c.toNat : Int) ≤ 57 := by simpa [digitB] using hd
      have e : ten (k + 1) = 10 * ten k := rfl
      have := ih (k + 1) (a * 10 + ((c.toNat : Int) - 48)) (by omega) (by omega) h
      rw [show k + (c :: r).length = k + 1 + r.length by simp; omega]
      exact this
    · rw [if_neg hd] at h; cases h

end Go.Proofs.YtdnfaoanaehjhaaGreatDoor.Nm

/- Digits, as plain lists of bytes (no program): the lowest so many digits of a number, its numeral, a number's text. -/
namespace Go.Proofs.YtdnfaoanaehjhaaGreatDoor.Nm
open Go.Lib (decDigits nDigits)

def dB (x : Nat) : UInt8 := UInt8.ofNat (48 + x)
def lowD : Nat → Nat → List UInt8
  | 0, _ => []
  | k + 1, u => lowD k (u / 10) ++ [dB (u % 10)]

theorem lowD_length (k : Nat) : ∀ u, (lowD k u).length = k := by
  induction k with
  | zero => intro u; rfl
  | succ k ih => intro u; simp [lowD, ih]
theorem lowD_split (a b : Nat) : ∀ u, lowD (a + b) u = lowD a (u / 10 ^ b) ++ lowD b u := by
  induction b with
  | zero => intro u; simp [lowD]
  | succ b ih =>
    intro u
    show lowD (a + b) (u / 10) ++ [dB (u % 10)] = _
    rw [ih (u / 10), Nat.div_div_eq_div_mul, Nat.pow_succ, Nat.mul_comm 10 (10 ^ b), List.append_assoc]
    rfl
theorem lowD_mod (b : Nat) : ∀ u, lowD b (u % 10 ^ b) = lowD b u := by
  induction b with
  | zero => intro u; rfl
  | succ b ih =>
    intro u
    have e1 : u % 10 ^ (b + 1) / 10 = u / 10 % 10 ^ b := by
      rw [Nat.pow_succ, Nat.mul_comm, Nat.mod_mul_right_div_self]
    have e2 : u % 10 ^ (b + 1) % 10 = u % 10 := by
      rw [Nat.pow_succ]; exact Nat.mod_mod_of_dvd u (Nat.dvd_mul_left 10 (10 ^ b))
    show lowD b (u % 10 ^ (b + 1) / 10) ++ [dB (u % 10 ^ (b + 1) % 10)] = lowD b (u / 10) ++ [dB (u % 10)]
    rw [e1, e2, ih (u / 10)]
theorem lowD_zero (k : Nat) : lowD k 0 = List.replicate k 48 := by
  induction k with
  | zero => rfl
  | succ k ih =>
    show lowD k (0 / 10) ++ [dB (0 % 10)] = _
    rw [show 0 / 10 = 0 from rfl, ih, List.replicate_succ']
    rfl
theorem dec_low (u : Nat) : decDigits u = lowD (nDigits u) u := by
  induction u using Nat.strongRecOn with
  | _ u ih =>
    by_cases h : u < 10
    · rw [Lib.decDigits_one h, Lib.nDigits_small h]
      simp [lowD, dB, Nat.mod_eq_of_lt h]
    · rw [decDigits, dif_neg h, Lib.nDigits_big h, ih (u / 10) (by omega)]
      rfl
theorem nDigits_le (s : Nat) : ∀ u, 1 ≤ s → u < 10 ^ s → nDigits u ≤ s := by
  induction s with
  | zero => intro u h; omega
  | succ s ih =>
    intro u _ hu
    by_cases h : u < 10
    · rw [Lib.nDigits_small h]; omega
    · rw [Lib.nDigits_big h]
      rw [Nat.pow_succ] at hu
      have h1 : 1 ≤ s := by
        rcases Nat.eq_zero_or_pos s with e | e
        · subst e; simp at hu; omega
        · exact e
      have := ih (u / 10) h1 (by omega)
      omega
theorem low_pad (s u : Nat) (hs : 1 ≤ s) (hu : u < 10 ^ s) : List.replicate (s - nDigits u) 48 ++ decDigits u = lowD s u := by
  have hn := nDigits_le s u hs hu
  have e := lowD_split (s - nDigits u) (nDigits u) u
  rw [show s - nDigits u + nDigits u = s by omega, Nat.div_eq_of_lt (Lib.lt_pow_nDigits u), lowD_zero] at e
  rw [e, dec_low u]
theorem rep_rep (c : Nat) : Lib.repeatL [48] c = List.replicate c 48 := by
  induction c with
  | zero => rfl
  | succ c ih => show [48] ++ Lib.repeatL [48] c = _; rw [ih]; rfl

/- a decimal's digits -/
def decimalL (u s : Nat) : List UInt8 := decDigits (u / 10 ^ s) ++ 46 :: (if s = 0 then [48] else lowD s u)
/- a number's text -/
def textL (v : Int) (s : Nat) (d : Bool) : List UInt8 := (if v < 0 then [45] else []) ++ (if d then decimalL v.natAbs s else decDigits v.natAbs)

/- the digits behind the full stop, as package number lays them -/
theorem behind_low (u s : Nat) : List.replicate (s - nDigits (u % 10 ^ s)) 48 ++ decDigits (u % 10 ^ s) = if s = 0 then [48] else lowD s u := by
  by_cases h : s = 0
  · subst h
    rw [if_pos rfl, show u % 10 ^ 0 = 0 by simp [Nat.mod_one], Lib.nDigits_small (by omega), Lib.decDigits_one (by omega)]
    rfl
  · rw [if_neg h, low_pad s (u % 10 ^ s) (by omega) (Nat.mod_lt _ (Nat.pow_pos (by omega))), lowD_mod]

theorem ten_pow (k : Nat) : ten k = ((10 ^ k : Nat) : Int) := by
  induction k with
  | zero => rfl
  | succ k ih => show 10 * ten k = _; rw [ih, Nat.pow_succ, Nat.mul_comm]; rfl

end Go.Proofs.YtdnfaoanaehjhaaGreatDoor.Nm

/- What a formula comes to, in plain words (no program): truths, comparisons, numbers reckoned, part by part, by the document's chapter. -/
namespace Go.Proofs.YtdnfaoanaehjhaaGreatDoor

instance eqTermL : DecidableEq TermL := fun a b => decidable_of_iff (a.k = b.k ∧ a.x = b.x ∧ a.y = b.y ∧ a.z = b.z) ⟨fun h => by cases a; cases b; simp at h; obtain ⟨rfl, rfl, rfl, rfl⟩ := h; rfl, fun h => by rw [h]; exact ⟨rfl, rfl, rfl, rfl⟩⟩

def txT : List UInt8 := [116, 114, 117, 101]
def txF : List UInt8 := [102, 97, 108, 115, 101]
def tyB : List UInt8 := [104, 116, 116, 112, 58, 47, 47, 119, 119, 119, 46, 119, 51, 46, 111, 114, 103, 47, 50, 48, 48, 49, 47, 88, 77, 76, 83, 99, 104, 101, 109, 97, 35, 98, 111, 111, 108, 101, 97, 110]
def tyS : List UInt8 := [104, 116, 116, 112, 58, 47, 47, 119, 119, 119, 46, 119, 51, 46, 111, 114, 103, 47, 50, 48, 48, 49, 47, 88, 77, 76, 83, 99, 104, 101, 109, 97, 35, 115, 116, 114, 105, 110, 103]
def tyIL : List UInt8 := [104, 116, 116, 112, 58, 47, 47, 119, 119, 119, 46, 119, 51, 46, 111, 114, 103, 47, 50, 48, 48, 49, 47, 88, 77, 76, 83, 99, 104, 101, 109, 97, 35, 105, 110, 116, 101, 103, 101, 114]
def tyDL : List UInt8 := [104, 116, 116, 112, 58, 47, 47, 119, 119, 119, 46, 119, 51, 46, 111, 114, 103, 47, 50, 48, 48, 49, 47, 88, 77, 76, 83, 99, 104, 101, 109, 97, 35, 100, 101, 99, 105, 109, 97, 108]

/- a literal's number -/
def ofP (t : TermL) : Nm.NumL × Bool :=
  if t.k = 2 ∧ t.z = [] then (if t.y = tyIL then Nm.readL t.x false else if t.y = tyDL then Nm.readL t.x true else (Nm.noNum, false)) else (Nm.noNum, false)
def litT (x y : List UInt8) : TermL := ⟨2, x, y, []⟩
def boolB (t : TermL) : Bool := decide (t.k = 2) && (decide (t.y = tyB) && (decide (t.x = txT) || decide (t.x = txF)))
def onZ (b : Bool) : Int := if b then 1 else 0
/- a term's truth: 1, 0, -1 -/
def truthZ (t : TermL) : Int :=
  if boolB t = true then onZ (decide (t.x = txT))
  else if (ofP t).2 = true then onZ (!decide ((ofP t).1.v = 0))
  else if t.k = 2 ∧ (t.y = [] ∨ t.y = tyS) then onZ (!t.x.isEmpty) else -1
def textsB (a b : TermL) : Bool := decide (a.k = 2) && (decide (b.k = 2) && (a.z.isEmpty && (b.z.isEmpty && ((a.y.isEmpty && b.y.isEmpty) || (decide (a.y = tyS) && decide (b.y = tyS))))))
def amtZ (v : Int) (s : Nat) : Int := v * Nm.ten (4 - s)
def cmpZ (a b : Int) : Int := if a < b then -1 else if b < a then 1 else 0
def cmpN (a b : Nm.NumL) : Int := cmpZ (amtZ a.v a.s.toNat) (amtZ b.v b.s.toNat)
def cmpP (a b : TermL) : Int × Bool :=
  if (ofP a).2 = true ∧ (ofP b).2 = true then (cmpN (ofP a).1 (ofP b).1, true)
  else if textsB a b = true then (Go.Lib.compareBytes a.x b.x, true)
  else if boolB a = true ∧ boolB b = true then (onZ (decide (a.x = txT)) - onZ (decide (b.x = txT)), true)
  else (0, false)
def equalZ (a b : TermL) : Int :=
  if (cmpP a b).2 = true then onZ (decide ((cmpP a b).1 = 0))
  else if a = b then 1
  else if a.k = 2 ∧ b.k = 2 ∧ a.z = [] ∧ b.z = [] then -1 else 0

/- what comes of it: none is an error -/
abbrev VL := Option TermL
def trueV (b : Bool) : VL := some (litT (if b then txT else txF) tyB)
def reckP (how : Int) (m n : Nm.NumL) : Nm.NumL × Bool :=
  if how = 1 then Nm.madeL (amtZ m.v m.s.toNat + amtZ n.v n.s.toNat) 4 (m.d || n.d)
  else if how = 2 then Nm.madeL (amtZ m.v m.s.toNat - amtZ n.v n.s.toNat) 4 (m.d || n.d)
  else if how = 3 then Nm.madeL (m.v * n.v) (m.s.toNat + n.s.toNat) (m.d || n.d)
  else if n.v = 0 then (Nm.noNum, false)
  else Nm.madeL ((amtZ m.v m.s.toNat * 10000).tdiv (amtZ n.v n.s.toNat)) 4 true
def termN (n : Nm.NumL) : TermL := litT (Nm.textL n.v n.s.toNat n.d) (if n.d then tyDL else tyIL)
def reckV (how : Int) (a b : TermL) : VL :=
  if (ofP a).2 = true ∧ (ofP b).2 = true then
    (if (reckP how (ofP a).1 (ofP b).1).2 = true then some (termN (reckP how (ofP a).1 (ofP b).1).1) else none)
  else none
def orderV (k : Int) (a b : TermL) : VL :=
  if (cmpP a b).2 = true then
    trueV (if k = 10 then decide ((cmpP a b).1 < 0) else if k = 11 then decide (0 < (cmpP a b).1) else if k = 12 then decide ((cmpP a b).1 ≤ 0) else decide (0 ≤ (cmpP a b).1))
  else none
def bothV (k : Int) (a b : TermL) : VL :=
  if k = 8 ∨ k = 9 then (if equalZ a b < 0 then none else trueV (decide (equalZ a b = 1) == decide (k = 8)))
  else if 10 ≤ k ∧ k ≤ 13 then orderV k a b
  else if k = 24 then trueV (decide (a = b))
  else reckV (k - 13) a b
def singleV (k : Int) (t : TermL) : VL :=
  if k = 4 then (if 0 ≤ truthZ t then trueV (decide (truthZ t = 0)) else none)
  else if k = 5 then reckV 2 (litT [48] tyIL) t
  else if k = 18 then (if t.k = 2 ∨ t.k = 1 then some (litT t.x []) else none)
  else if k = 19 then (if t.k = 2 then some (litT t.z []) else none)
  else if k = 20 then (if t.k = 2 ∧ t.z = [] then some ⟨1, if t.y = [] then tyS else t.y, [], []⟩ else none)
  else if k = 21 then trueV (decide (t.k = 1))
  else if k = 22 then trueV (decide (t.k = 2))
  else if k = 23 then trueV (decide (t.k = 3))
  else none
def ofZ : VL → Int
  | none => -1
  | some t => truthZ t
def andV (a b : Int) : VL := if a = 0 ∨ b = 0 then trueV false else if a = 1 ∧ b = 1 then trueV true else none
def orV (a b : Int) : VL := if a = 1 ∨ b = 1 then trueV true else if a = 0 ∧ b = 0 then trueV false else none
def boundT : List UInt8 → List (List UInt8) → List TermL → TermL
  | m, v :: V, t :: T => if v = m then t else boundT m V T
  | _, _, _ => noTerm
def coalV : List VL → VL
  | [] => none
  | some t :: _ => some t
  | none :: l => coalV l
/- what a part comes to, from what it needs, the first one first -/
def partV (V : List (List UInt8)) (T : List TermL) (p : PartL) (l : List VL) : VL :=
  if p.k = 1 then some p.t
  else if p.k = 2 then (if (boundT p.m V T).k = 0 then none else some (boundT p.m V T))
  else if p.k = 3 then trueV (!decide ((boundT p.m V T).k = 0))
  else if p.k = 6 then andV (ofZ (l.getD 0 none)) (ofZ (l.getD 1 none))
  else if p.k = 7 then orV (ofZ (l.getD 0 none)) (ofZ (l.getD 1 none))
  else if p.k = 25 then (if ofZ (l.getD 0 none) < 0 then none else l.getD (2 - (ofZ (l.getD 0 none)).toNat) none)
  else if p.k = 26 then coalV l
  else match l with
    | [some a] => singleV p.k a
    | [some a, some b] => bothV p.k a b
    | _ => none

/- the stack: what the parts gone through come to, the last one first -/
def stkGo (V : List (List UInt8)) (T : List TermL) : List PartL → List VL → List VL
  | [], s => s
  | p :: r, s => stkGo V T r (partV V T p (s.take (nd p)).reverse :: s.drop (nd p))
def evalL (V : List (List UInt8)) (T : List TermL) (F : List PartL) : VL := (stkGo V T F []).headD none
def valAt (V : List (List UInt8)) (T : List TermL) (F : List PartL) (i : Nat) : VL := (stkGo V T (F.take (i + 1)) []).headD none

theorem stk_append (V : List (List UInt8)) (T : List TermL) (a b : List PartL) : ∀ s, stkGo V T (a ++ b) s = stkGo V T b (stkGo V T a s) := by
  induction a with
  | nil => intro s; rfl
  | cons p a ih => intro s; show stkGo V T (a ++ b) _ = _; rw [ih]; rfl
theorem stk_snoc (V : List (List UInt8)) (T : List TermL) {F : List PartL} {k : Nat} (h : k < F.length) : stkGo V T (F.take (k + 1)) [] =
    partV V T F[k] ((stkGo V T (F.take k) []).take (nd F[k])).reverse :: (stkGo V T (F.take k) []).drop (nd F[k]) := by
  rw [List.take_succ_eq_append_getElem h, stk_append]; rfl
theorem stk_len (V : List (List UInt8)) (T : List TermL) {F : List PartL} {hh : Nat → Nat} (H : Hts F hh) : ∀ k, k ≤ F.length → (stkGo V T (F.take k) []).length = hh k
  | 0, _ => by rw [H.zero]; rfl
  | k + 1, h => by
    obtain ⟨_, h2, h3⟩ := H.step k (by omega)
    rw [stk_snoc V T (by omega), List.length_cons, List.length_drop, stk_len V T H k (by omega)]
    omega
/- from where the parts begin whose result a part makes, on: below that result there is what was there ahead -/
theorem stk_from (V : List (List UInt8)) (T : List TermL) {F : List PartL} {hh : Nat → Nat} (H : Hts F hh) {p : Nat} : ∀ k, p ≤ k → k ≤ F.length → (∀ q, p < q → q ≤ k → hh p < hh q) →
    (stkGo V T (F.take k) []).drop (hh k - hh p) = stkGo V T (F.take p) []
  | 0, h, _, _ => by
    obtain rfl : p = 0 := by omega
    simp
  | k + 1, h, hl, hq => by
    by_cases e : p = k + 1
    · subst e; simp
    · have ih := stk_from V T H k (by omega) (by omega) (fun q a b => hq q a (by omega))
      obtain ⟨_, h2, h3⟩ := H.step k (by omega)
      have g1 := hq (k + 1) (by omega) (by omega)
      have g0 : hh p ≤ hh k := by
        by_cases e2 : p = k
        · rw [e2]; exact Nat.le_refl _
        · exact Nat.le_of_lt (hq k (by omega) (by omega))
      rw [stk_snoc V T (by omega)]
      obtain ⟨d, hd⟩ : ∃ d, hh (k + 1) - hh p = d + 1 := ⟨hh (k + 1) - hh p - 1, by omega⟩
      rw [hd, List.drop_succ_cons, List.drop_drop, ← ih]
      congr 1
      omega
theorem stk_at (V : List (List UInt8)) (T : List TermL) {F : List PartL} {hh : Nat → Nat} (H : Hts F hh) {i p : Nat} (hi : i < F.length) (P : FromAt hh i p) :
    stkGo V T (F.take (i + 1)) [] = valAt V T F i :: stkGo V T (F.take p) [] := by
  have h := stk_from V T H (i + 1) (by have := P.le; omega) (by omega) (p := p) (fun q a b => by have := P.up q a b; have := P.at_; omega)
  have e := P.at_
  rw [show hh (i + 1) - hh p = 1 by omega] at h
  have hl := stk_len V T H (i + 1) (by omega)
  unfold valAt
  cases hs : stkGo V T (F.take (i + 1)) [] with
  | nil => rw [hs] at hl; simp at hl; omega
  | cons a r => rw [hs] at h; rw [← h]; rfl

/- what a part needs, one by one, the last one first -/
theorem need_step (V : List (List UInt8)) (T : List TermL) {F : List PartL} {hh : Nat → Nat} (H : Hts F hh) {S : List VL} {n P k : Nat} (hl : P ≤ F.length) (hP : hh P + k = n) (hd : S.drop k = stkGo V T (F.take P) []) (hk : k < n) :
    1 ≤ P ∧ ∃ p, FromAt hh (P - 1) p ∧ p ≤ P ∧ hh p + (k + 1) = n ∧ S.drop (k + 1) = stkGo V T (F.take p) [] ∧ (S.take (k + 1)).reverse = valAt V T F (P - 1) :: (S.take k).reverse := by
  have h1 : 1 ≤ P := by
    cases P with
    | zero => rw [H.zero] at hP; omega
    | succ => omega
  obtain ⟨p, hp⟩ := from_ex H (i := P - 1) (by omega)
  have e := stk_at V T H (by omega) hp
  have ea := hp.at_
  have hle := hp.le
  rw [show P - 1 + 1 = P by omega] at e ea
  rw [e] at hd
  refine ⟨h1, p, hp, by omega, by omega, ?_, ?_⟩
  · rw [← List.drop_drop, hd]; rfl
  · have hk2 : k < S.length := by
      have := congrArg List.length hd
      rw [List.length_drop, List.length_cons] at this
      omega
    have hg : S[k] = valAt V T F (P - 1) := by
      have := List.drop_eq_getElem_cons hk2
      rw [hd] at this
      exact (List.cons.inj this).1.symm
    rw [List.take_succ_eq_append_getElem hk2, List.reverse_append, hg]; rfl
theorem val_at (V : List (List UInt8)) (T : List TermL) {F : List PartL} {i : Nat} (hi : i < F.length) : valAt V T F i = partV V T F[i] ((stkGo V T (F.take i) []).take (nd F[i])).reverse := by
  unfold valAt
  rw [stk_snoc V T hi]; rfl
theorem val_last (V : List (List UInt8)) (T : List TermL) {F : List PartL} (h : 0 < F.length) : valAt V T F (F.length - 1) = evalL V T F := by
  unfold valAt evalL
  rw [show F.length - 1 + 1 = F.length by omega, List.take_length]

end Go.Proofs.YtdnfaoanaehjhaaGreatDoor
