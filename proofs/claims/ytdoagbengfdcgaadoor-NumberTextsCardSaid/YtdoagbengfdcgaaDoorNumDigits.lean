/- Digits, as plain lists of bytes (no program): the lowest so many digits of a number, its numeral, a number's text. -/
import Derived.Test.YtdoagbengfdcgaaDoorNumReadPlain
import Derived.Lib.ItoaMem
import Derived.Lib.Repeat
namespace Go.Proofs.YtdoagbengfdcgaaDoor
open Go.Lib (decDigits nDigits)

def dB (x : Nat) : UInt8 := UInt8.ofNat (48 + x)
def lowD : Nat → Nat → List UInt8
  | 0, _ => []
  | k + 1, u => lowD k (u / 10) ++ [dB (u % 10)]

theorem lowD_length (k : Nat) : ∀ u, (lowD k u).length = k := by
  induction k with
  | zero => intro u; rfl
  | succ k ih => intro u; simp [lowD, ih]
theorem lowD_split (a b : Nat) : ∀ u, lowD (a + b) u = lowD a (u / 10 ^ b) ++ lowD b u := by
  induction b with
  | zero => intro u; simp [lowD]
  | succ b ih =>
    intro u
    show lowD (a + b) (u / 10) ++ [dB (u % 10)] = _
    rw [ih (u / 10), Nat.div_div_eq_div_mul, Nat.pow_succ, Nat.mul_comm 10 (10 ^ b), List.append_assoc]
    rfl
theorem lowD_mod (b : Nat) : ∀ u, lowD b (u % 10 ^ b) = lowD b u := by
  induction b with
  | zero => intro u; rfl
  | succ b ih =>
    intro u
    have e1 : u % 10 ^ (b + 1) / 10 = u / 10 % 10 ^ b := by
      rw [Nat.pow_succ, Nat.mul_comm, Nat.mod_mul_right_div_self]
    have e2 : u % 10 ^ (b + 1) % 10 = u % 10 := by
      rw [Nat.pow_succ]; exact Nat.mod_mod_of_dvd u (Nat.dvd_mul_left 10 (10 ^ b))
    show lowD b (u % 10 ^ (b + 1) / 10) ++ [dB (u % 10 ^ (b + 1) % 10)] = lowD b (u / 10) ++ [dB (u % 10)]
    rw [e1, e2, ih (u / 10)]
theorem lowD_zero (k : Nat) : lowD k 0 = List.replicate k 48 := by
  induction k with
  | zero => rfl
  | succ k ih =>
    show lowD k (0 / 10) ++ [dB (0 % 10)] = _
    rw [show 0 / 10 = 0 from rfl, ih, List.replicate_succ']
    rfl
theorem dec_low (u : Nat) : decDigits u = lowD (nDigits u) u := by
  induction u using Nat.strongRecOn with
  | _ u ih =>
    by_cases h : u < 10
    · rw [Lib.decDigits_one h, Lib.nDigits_small h]
      simp [lowD, dB, Nat.mod_eq_of_lt h]
    · rw [decDigits, dif_neg h, Lib.nDigits_big h, ih (u / 10) (by omega)]
      rfl
theorem nDigits_le (s : Nat) : ∀ u, 1 ≤ s → u < 10 ^ s → nDigits u ≤ s := by
  induction s with
  | zero => intro u h; omega
  | succ s ih =>
    intro u _ hu
    by_cases h : u < 10
    · rw [Lib.nDigits_small h]; omega
    · rw [Lib.nDigits_big h]
      rw [Nat.pow_succ] at hu
      have h1 : 1 ≤ s := by
        rcases Nat.eq_zero_or_pos s with e | e
        · subst e; simp at hu; omega
        · exact e
      have := ih (u / 10) h1 (by omega)
      omega
theorem low_pad (s u : Nat) (hs : 1 ≤ s) (hu : u < 10 ^ s) : List.replicate (s - nDigits u) 48 ++ decDigits u = lowD s u := by
  have hn := nDigits_le s u hs hu
  have e := lowD_split (s - nDigits u) (nDigits u) u
  rw [show s - nDigits u + nDigits u = s by omega, Nat.div_eq_of_lt (Lib.lt_pow_nDigits u), lowD_zero] at e
  rw [e, dec_low u]
theorem rep_rep (c : Nat) : Lib.repeatL [48] c = List.replicate c 48 := by
  induction c with
  | zero => rfl
  | succ c ih => show [48] ++ Lib.repeatL [48] c = _; rw [ih]; rfl

/- a decimal's digits -/
def decimalL (u s : Nat) : List UInt8 := decDigits (u / 10 ^ s) ++ 46 :: (if s = 0 then [48] else lowD s u)
/- a number's text -/
def textL (v : Int) (s : Nat) (d : Bool) : List UInt8 := (if v < 0 then [45] else []) ++ (if d then decimalL v.natAbs s else decDigits v.natAbs)

/- the digits behind the full stop, as package number lays them -/
theorem behind_low (u s : Nat) : List.replicate (s - nDigits (u % 10 ^ s)) 48 ++ decDigits (u % 10 ^ s) = if s = 0 then [48] else lowD s u := by
  by_cases h : s = 0
  · subst h
    rw [if_pos rfl, show u % 10 ^ 0 = 0 by simp [Nat.mod_one], Lib.nDigits_small (by omega), Lib.decDigits_one (by omega)]
    rfl
  · rw [if_neg h, low_pad s (u % 10 ^ s) (by omega) (Nat.mod_lt _ (Nat.pow_pos (by omega))), lowD_mod]

theorem ten_pow (k : Nat) : ten k = ((10 ^ k : Nat) : Int) := by
  induction k with
  | zero => rfl
  | succ k ih => show 10 * ten k = _; rw [ih, Nat.pow_succ, Nat.mul_comm]; rfl

end Go.Proofs.YtdoagbengfdcgaaDoor
