/- Percent's texts in plain words (no program): which bytes stand as they are, a text encoded and decoded. -/
import Derived.Test.YtnfmjkinahbilaaDoorTermPlain
namespace Go.Proofs.YtnfmjkinahbilaaDoor

def plainZ (c : Int) : Bool := wordZ c || decide (c = 45 ∨ c = 46 ∨ c = 126)
def hexN (n : Nat) : Nat := if n < 10 then 48 + n else 55 + n
def hexD (n : Nat) : UInt8 := UInt8.ofNat (hexN n)
def enc1 (b : UInt8) : List UInt8 := if plainZ (b.toNat : Int) then [b] else [37, hexD (b.toNat / 16), hexD (b.toNat % 16)]
def encS (l : List UInt8) : List UInt8 := l.flatMap enc1
/- a digit's value; -1: it is none -/
def valZ (c : Int) : Int := if 48 ≤ c ∧ c ≤ 57 then c - 48 else if 65 ≤ c ∧ c ≤ 70 then c - 55 else -1
def two (h k : UInt8) : Int := 16 * valZ (h.toNat : Int) + valZ (k.toNat : Int)
/- what a text was, read byte by byte: whatever stands as it is is taken as it is -/
def rawS : List UInt8 → Option (List UInt8)
  | [] => some []
  | [b] => if b = 37 then none else some [b]
  | [b, c] => if b = 37 then none else (rawS [c]).map (b :: ·)
  | b :: c :: d :: r => if b = 37 then (if valZ (c.toNat : Int) < 0 ∨ valZ (d.toNat : Int) < 0 then none else (rawS r).map (UInt8.ofNat (two c d).toNat :: ·)) else (rawS (c :: d :: r)).map (b :: ·)
/- what a text was -/
def decS (l : List UInt8) : Option (List UInt8) := (rawS l).bind fun o => if encS o = l then some o else none

theorem encS_nil : encS [] = [] := rfl
theorem encS_cons (b : UInt8) (l : List UInt8) : encS (b :: l) = enc1 b ++ encS l := rfl
theorem encS_append (a b : List UInt8) : encS (a ++ b) = encS a ++ encS b := List.flatMap_append
theorem plain_not (b : UInt8) (h : plainZ (b.toNat : Int) = true) : b ≠ 37 := by
  intro e; subst e; simp [plainZ, wordZ, letterZ, smallZ, bigZ, digitZ] at h
theorem val_hex (n : Nat) (h : n < 16) : valZ ((hexD n).toNat : Int) = n := by
  have : ∀ n : Fin 16, valZ ((hexD n.1).toNat : Int) = n.1 := by decide
  exact this ⟨n, h⟩
theorem two_hex (b : UInt8) : two (hexD (b.toNat / 16)) (hexD (b.toNat % 16)) = b.toNat := by
  have hb : b.toNat < 256 := b.toNat_lt
  rw [two, val_hex _ (by omega), val_hex _ (by omega)]; omega
theorem raw_plain (b : UInt8) (r : List UInt8) (h : b ≠ 37) : rawS (b :: r) = (rawS r).map (b :: ·) := by
  match r with
  | [] => simp [rawS, h]
  | [c] => simp [rawS, h]
  | c :: d :: r => simp [rawS, h]
theorem raw_enc : ∀ l : List UInt8, rawS (encS l) = some l
  | [] => rfl
  | b :: r => by
    rw [encS_cons, enc1]
    split
    · rename_i h
      rw [List.singleton_append, raw_plain b _ (plain_not b h), raw_enc r]; rfl
    · have hb : b.toNat < 256 := b.toNat_lt
      have h1 : ¬ (valZ ((hexD (b.toNat / 16)).toNat : Int) < 0 ∨ valZ ((hexD (b.toNat % 16)).toNat : Int) < 0) := by
        rw [val_hex _ (by omega), val_hex _ (by omega)]; omega
      simp only [List.cons_append, List.nil_append, rawS, if_true, if_neg h1, raw_enc r, two_hex]
      simp
theorem dec_enc (l : List UInt8) : decS (encS l) = some l := by simp [decS, raw_enc]
theorem enc_dec (l o : List UInt8) (h : decS l = some o) : encS o = l := by
  unfold decS at h
  cases hr : rawS l with
  | none => simp [hr] at h
  | some p =>
    simp only [hr, Option.bind_some] at h
    split at h
    · rename_i he; cases h; exact he
    · cases h
theorem enc1_len (b : UInt8) : (enc1 b).length ≤ 3 := by unfold enc1; split <;> simp
theorem encS_len (l : List UInt8) : (encS l).length ≤ 3 * l.length := by
  induction l with
  | nil => simp [encS]
  | cons b r ih => rw [encS_cons, List.length_append, List.length_cons]; have := enc1_len b; omega
/- how the encoding of a text goes on from a place -/
theorem encS_drop (l : List UInt8) (k : Nat) (h : k < l.length) : encS (l.take (k + 1)) = encS (l.take k) ++ enc1 (l[k]) := by
  rw [List.take_succ_eq_append_getElem h, encS_append]; congr 1; simp [encS]

end Go.Proofs.YtnfmjkinahbilaaDoor
