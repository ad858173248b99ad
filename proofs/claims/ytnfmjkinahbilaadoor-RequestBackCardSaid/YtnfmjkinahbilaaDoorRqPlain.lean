/- A request in plain words (no program): its bytes, the request of bytes; the document's way to it is the program's. -/
import Derived.Test.YtnfmjkinahbilaaDoorPctPairs
import Derived.Lib.AtoiAll
import Derived.Lib.ItoaMem
namespace Go.Proofs.YtnfmjkinahbilaaDoor
open Go.Lib (decDigits nDigits)

/- the numeral of a number is read as that number -/
def numOf (x : List UInt8) : Int := match Lib.atoiAll x with | .ok v => v | .range => Lib.atoiSat x | _ => 0
def dB (x : Nat) : UInt8 := UInt8.ofNat (48 + x)
theorem dB_nat (x : Nat) (h : x < 10) : (dB x).toNat = 48 + x := by
  unfold dB
  simp; omega
theorem dec_big (u : Nat) (h : ¬ u < 10) : decDigits u = decDigits (u / 10) ++ [dB (u % 10)] := by rw [decDigits, dif_neg h]; rfl
theorem dec_small (u : Nat) (h : u < 10) : decDigits u = [dB u] := Lib.decDigits_one h
theorem parse_one (a x : Nat) (r : List UInt8) (ha : a * 10 + x < 1000000) (hx : x < 10) : Lib.parseUint10 a (dB x :: r) = Lib.parseUint10 (a * 10 + x) r := by
  have hd := dB_nat x hx
  rw [Lib.parseUint10, hd, if_pos (by omega), if_neg (by omega), if_neg (by omega), show 48 + x - 48 = x by omega]
theorem parse_dec (u : Nat) : ∀ r : List UInt8, u < 1000000 → Lib.parseUint10 0 (decDigits u ++ r) = Lib.parseUint10 u r := by
  induction u using Nat.strongRecOn with
  | _ u ih =>
    intro r hu
    by_cases h : u < 10
    · rw [dec_small u h, List.singleton_append, parse_one 0 u r (by omega) h, Nat.zero_mul, Nat.zero_add]
    · rw [dec_big u h, List.append_assoc, ih (u / 10) (by omega) _ (by omega), List.singleton_append, parse_one _ _ r (by omega) (by omega)]
      congr 1; omega
theorem dec_head (u : Nat) : ∃ c r, decDigits u = c :: r ∧ 48 ≤ c.toNat ∧ c.toNat ≤ 57 := by
  induction u using Nat.strongRecOn with
  | _ u ih =>
    by_cases h : u < 10
    · exact ⟨dB u, [], dec_small u h, by rw [dB_nat u h]; omega, by rw [dB_nat u h]; omega⟩
    · obtain ⟨c, r, h1, h2, h3⟩ := ih (u / 10) (by omega)
      exact ⟨c, r ++ [dB (u % 10)], by rw [dec_big u h, h1]; rfl, h2, h3⟩
theorem num_dec (u : Nat) (h : u < 1000000) : numOf (decDigits u) = u := by
  have e := parse_dec u [] h
  rw [List.append_nil] at e
  obtain ⟨c, r, h1, h2, h3⟩ := dec_head u
  have key : Lib.atoiAll (decDigits u) = .ok (u : Int) := by
    have hm : Lib.parseMag (decDigits u) = .ok u := by
      rw [Lib.parseMag, if_neg (by rw [h1]; exact List.cons_ne_nil _ _), e]; rfl
    rw [h1] at hm ⊢
    unfold Lib.atoiAll
    have n1 : ¬ (c.toNat = 43 ∨ c.toNat = 45) := by omega
    have n2 : ¬ c.toNat = 45 := by omega
    dsimp only
    rw [if_neg n1, hm]
    dsimp only
    rw [if_neg (by omega), if_neg (by omega), if_neg n2]
  unfold numOf
  rw [key]
theorem num_itoa (n : Int) (h0 : 0 ≤ n) (h1 : n < 1000000) : numOf (Lib.itoa n) = n := by
  obtain ⟨u, rfl⟩ : ∃ u : Nat, n = u := ⟨n.toNat, by omega⟩
  rw [Lib.itoa_nonneg, num_dec u (by omega)]

/- what is read is written as it was -/
theorem wr_one {l : List UInt8} {p : PairL} (h : oneP l = some p) : wr1 p = l := by
  unfold oneP at h
  split at h
  · rename_i hc
    split at h
    · rename_i a b ha hb
      cases h
      obtain ⟨h1, _⟩ := cut_yes hc
      unfold wr1
      rw [enc_dec _ _ ha, enc_dec _ _ hb, ← h1]
    · cases h
  · cases h
theorem wrS_two (p q : PairL) (r : List PairL) : wrS (p :: q :: r) = wr1 p ++ 38 :: wrS (q :: r) := by simp [wrS]
theorem wrS_one (p : PairL) : wrS [p] = wr1 p := by simp [wrS]
theorem wr_rd : ∀ (n : Nat) (l : List UInt8) (L : List PairL), rdP n l = some L → wrS L = l ∧ L ≠ []
  | 0, _, _, h => by cases h
  | n + 1, l, L, h => by
    unfold rdP at h
    split at h
    · cases h
    · rename_i p hp
      have h1 := wr_one hp
      split at h
      · rename_i hc
        obtain ⟨h2, _⟩ := cut_yes hc
        cases hr : rdP n (cutB 38 l) with
        | none => rw [hr] at h; cases h
        | some M =>
          obtain ⟨h3, h4⟩ := wr_rd n _ M hr
          rw [hr] at h
          cases h
          match M, h3, h4 with
          | [], _, h4 => exact absurd rfl h4
          | q :: r, h3, _ => exact ⟨by rw [wrS_two, h1, h3, ← h2], List.cons_ne_nil _ _⟩
      · rename_i hc
        cases h
        obtain ⟨h2, _⟩ := cut_none 38 l (cut_no (by simpa using hc))
        exact ⟨by rw [wrS_one, h1, h2], List.cons_ne_nil _ _⟩
theorem wr_of_rd {l : List UInt8} {p q : PairL} (h : (rdS l).1 = [p, q]) : wrS [p, q] = l := by
  unfold rdS at h
  split at h
  · cases h
  · split at h
    · cases h
    · rename_i L hL
      split at h
      · cases h
      · have e : L = [p, q] := h
        subst e
        exact (wr_rd _ _ _ hL).1
theorem rd_err (l : List UInt8) : (rdS l).2 = 0 ∨ (rdS l).1 = [] := by
  unfold rdS
  split
  · exact .inl rfl
  · split
    · exact .inr rfl
    · split
      · exact .inr rfl
      · exact .inl rfl
theorem rd_len (l : List UInt8) : (rdS l).1.length ≤ 64 := by
  unfold rdS
  split
  · exact Nat.zero_le _
  · split
    · exact Nat.zero_le _
    · split
      · exact Nat.zero_le _
      · rename_i L _ h
        exact Nat.le_of_not_lt h

/- a request -/
structure ReqL where
  id : Int
  x : List UInt8
def noneR : ReqL := ⟨0, []⟩
def kId : List UInt8 := [105, 100]
def kText : List UInt8 := [113, 117, 101, 114, 121]
def chkR (r : ReqL) : Int := if r.id < 0 ∨ 4096 ≤ r.id then 1 else if 4096 < r.x.length then 3 else 0
def twoL (r : ReqL) : List PairL := [⟨kId, Lib.itoa r.id⟩, ⟨kText, r.x⟩]
def putR (r : ReqL) : List UInt8 × Int := if chkR r = 0 then (wrS (twoL r), 0) else ([], chkR r)
/- the request of two pairs, and whether they are its own -/
def unP (p q : PairL) : ReqL := ⟨numOf p.v, q.v⟩
def isP (p q : PairL) : Bool := decide (p.k = kId) && decide (p.v = Lib.itoa (numOf p.v)) && decide (q.k = kText)
def getP : List PairL → Option ReqL
  | [p, q] => if isP p q = true ∧ chkR (unP p q) = 0 then some (unP p q) else none
  | _ => none
theorem getP_two (p q : PairL) : getP [p, q] = if isP p q = true ∧ chkR (unP p q) = 0 then some (unP p q) else none := rfl
def getR (l : List UInt8) : Option ReqL := getP (rdS l).1
def outR : Option ReqL → ReqL × Int
  | some r => (r, 0)
  | none => (noneR, 2)

theorem chk_ok {r : ReqL} (h : chkR r = 0) : 0 ≤ r.id ∧ r.id < 4096 ∧ r.x.length ≤ 4096 := by
  unfold chkR at h
  split at h
  · cases h
  · split at h
    · cases h
    · omega
theorem is_own {p q : PairL} (h : isP p q = true) : twoL (unP p q) = [p, q] := by
  unfold isP at h
  simp only [Bool.and_eq_true, decide_eq_true_eq] at h
  obtain ⟨⟨h1, h2⟩, h3⟩ := h
  obtain ⟨a, b⟩ := p
  obtain ⟨c, d⟩ := q
  unfold twoL unP
  dsimp only at h1 h2 h3 ⊢
  rw [← h2, h1, h3]
theorem own_is (r : ReqL) (h : chkR r = 0) : isP ⟨kId, Lib.itoa r.id⟩ ⟨kText, r.x⟩ = true ∧ unP ⟨kId, Lib.itoa r.id⟩ ⟨kText, r.x⟩ = r := by
  obtain ⟨h0, h1, _⟩ := chk_ok h
  have e := num_itoa r.id h0 (by omega)
  unfold isP unP
  dsimp only
  rw [e]
  simp
/- Get of Put, Put of Get -/
theorem get_put (r : ReqL) (h : chkR r = 0) : getR (wrS (twoL r)) = some r := by
  unfold getR
  rw [rd_wr _ (by show 2 ≤ 64; omega)]
  obtain ⟨h1, h2⟩ := own_is r h
  show getP [_, _] = _
  rw [getP_two, if_pos ⟨h1, by rw [h2]; exact h⟩, h2]
theorem put_get {l : List UInt8} {r : ReqL} (h : getR l = some r) : chkR r = 0 ∧ wrS (twoL r) = l := by
  unfold getR at h
  match hl : (rdS l).1, h with
  | [], h => cases h
  | [_], h => cases h
  | _ :: _ :: _ :: _, h => cases h
  | [p, q], h =>
    rw [getP_two] at h
    split at h
    · rename_i hc
      cases h
      exact ⟨hc.2, by rw [is_own hc.1, wr_of_rd hl]⟩
    · cases h
/- the document's way: the first id whose digits they are -/
theorem get_some {p q : PairL} {n : Nat} (h1 : p.k = kId) (h2 : q.k = kText) (h3 : q.v.length ≤ 4096) (hn : n < 4096) (h4 : decDigits n = p.v) : getP [p, q] = some ⟨n, q.v⟩ := by
  have e := num_dec n (by omega)
  have hu : unP p q = ⟨n, q.v⟩ := by unfold unP; rw [← h4, e]
  have hi : isP p q = true := by
    unfold isP
    rw [h1, h2, ← h4, e, Lib.itoa_nonneg]; simp
  have hc : chkR ⟨(n : Int), q.v⟩ = 0 := by
    unfold chkR
    rw [if_neg (by dsimp only; omega), if_neg (by dsimp only; omega)]
  rw [getP_two, hu, if_pos ⟨hi, hc⟩]
theorem get_none {p q : PairL} (h : ∀ n : Nat, n < 4096 → decDigits n ≠ p.v) : getP [p, q] = none := by
  rw [getP_two, if_neg]
  rintro ⟨h1, h2⟩
  obtain ⟨h3, h4, _⟩ := chk_ok h2
  unfold isP at h1
  simp only [Bool.and_eq_true, decide_eq_true_eq] at h1
  have e : (unP p q).id = numOf p.v := rfl
  rw [e] at h3 h4
  obtain ⟨n, hn⟩ : ∃ n : Nat, numOf p.v = n := ⟨(numOf p.v).toNat, by omega⟩
  have h5 := h1.1.2
  rw [hn, Lib.itoa_nonneg] at h5
  exact h n (by omega) h5.symm
theorem get_other {p q : PairL} (h : p.k ≠ kId ∨ q.k ≠ kText ∨ 4096 < q.v.length) : getP [p, q] = none := by
  rw [getP_two, if_neg]
  rintro ⟨h1, h2⟩
  obtain ⟨_, _, h5⟩ := chk_ok h2
  unfold isP at h1
  simp only [Bool.and_eq_true, decide_eq_true_eq] at h1
  rcases h with h | h | h
  · exact h h1.1.1
  · exact h h1.2
  · have h6 : q.v.length ≤ 4096 := h5
    omega
theorem get_len {L : List PairL} (h : L.length ≠ 2) : getP L = none := by
  match L, h with
  | [], _ => rfl
  | [_], _ => rfl
  | [_, _], h => exact absurd rfl h
  | _ :: _ :: _ :: _, _ => rfl
/- the bytes of a right request, as the document joins them -/
theorem put_bytes (r : ReqL) : wrS (twoL r) = (kId ++ [61]) ++ Lib.itoa r.id ++ (38 :: kText ++ [61]) ++ encS r.x ∨ encS (Lib.itoa r.id) ≠ Lib.itoa r.id := by
  by_cases h : encS (Lib.itoa r.id) = Lib.itoa r.id
  · left
    have e1 : encS kId = kId := by decide
    have e2 : encS kText = kText := by decide
    unfold twoL
    rw [wrS_two, wrS_one, wr1, wr1]
    dsimp only
    rw [e1, e2, h]
    simp
  · exact .inr h
theorem enc_digit (x : Nat) (h : x < 10) : encS [dB x] = [dB x] := by
  have : ∀ n : Fin 10, encS [dB n.1] = [dB n.1] := by decide
  exact this ⟨x, h⟩
theorem enc_dec_digits (u : Nat) : encS (decDigits u) = decDigits u := by
  induction u using Nat.strongRecOn with
  | _ u ih =>
    by_cases h : u < 10
    · rw [dec_small u h, enc_digit u h]
    · rw [dec_big u h, encS_append, ih (u / 10) (by omega), enc_digit _ (by omega)]
theorem put_bytes_dec (u : Nat) (x : List UInt8) : wrS (twoL ⟨u, x⟩) = [105, 100, 61] ++ decDigits u ++ [38, 113, 117, 101, 114, 121, 61] ++ encS x := by
  rcases put_bytes ⟨u, x⟩ with h | h
  · rw [h]; simp [kId, kText, Lib.itoa_nonneg]
  · exact absurd (by dsimp only; rw [Lib.itoa_nonneg, enc_dec_digits]) h
theorem digits_len (u : Nat) (h : u < 4096) : (decDigits u).length ≤ 4 := by
  rw [Lib.decDigits_length]
  by_cases h1 : u < 10
  · rw [Lib.nDigits_small h1]; omega
  · rw [Lib.nDigits_big h1]
    by_cases h2 : u / 10 < 10
    · rw [Lib.nDigits_small h2]; omega
    · rw [Lib.nDigits_big h2]
      by_cases h3 : u / 10 / 10 < 10
      · rw [Lib.nDigits_small h3]; omega
      · rw [Lib.nDigits_big h3, Lib.nDigits_small (by omega)]; omega

end Go.Proofs.YtnfmjkinahbilaaDoor
