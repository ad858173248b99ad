/- Percent's pairs in plain words (no program): the byte that an encoded text begins with; pairs written and read; the value of a key. -/
import Derived.Test.YtnfmjkinahbilaaDoorPctPlain
namespace Go.Proofs.YtnfmjkinahbilaaDoor

/- the digits -/
theorem val_lt (c : UInt8) : valZ (c.toNat : Int) < 16 := by unfold valZ; split <;> (try split) <;> omega
theorem val_ge (c : UInt8) : -1 ≤ valZ (c.toNat : Int) := by unfold valZ; split <;> (try split) <;> omega
set_option maxRecDepth 100000 in
theorem hex_val (c : UInt8) (h : ¬ valZ (c.toNat : Int) < 0) : hexD (valZ (c.toNat : Int)).toNat = c := by
  have key : ∀ n : Fin 256, ¬ valZ ((n.1 : Nat) : Int) < 0 → hexN (valZ ((n.1 : Nat) : Int)).toNat = n.1 := by decide
  have hb : c.toNat < 256 := c.toNat_lt
  have := key ⟨c.toNat, hb⟩ h
  unfold hexD
  rw [this]; simp

/- the byte that an encoded text begins with -/
def firstS : List UInt8 → Option UInt8
  | [] => none
  | b :: r => if plainZ (b.toNat : Int) then some b else if b = 37 then (match r with
    | c :: d :: _ => if valZ (c.toNat : Int) < 0 ∨ valZ (d.toNat : Int) < 0 then none else if plainZ (two c d) then none else some (UInt8.ofNat (two c d).toNat)
    | _ => none) else none
theorem two_lt {c d : UInt8} (h : ¬ (valZ (c.toNat : Int) < 0 ∨ valZ (d.toNat : Int) < 0)) : 0 ≤ two c d ∧ two c d < 256 := by
  have h1 := val_lt c; have h2 := val_lt d
  unfold two; omega
theorem two_byte {c d : UInt8} (h : ¬ (valZ (c.toNat : Int) < 0 ∨ valZ (d.toNat : Int) < 0)) : ((UInt8.ofNat (two c d).toNat).toNat : Int) = two c d := by
  have := two_lt h
  simp; omega
theorem first_enc (b : UInt8) (t : List UInt8) : firstS (enc1 b ++ t) = some b := by
  unfold enc1
  split
  · rename_i h
    simp [firstS, h]
  · rename_i h
    have hb : b.toNat < 256 := b.toNat_lt
    have h1 : ¬ (valZ ((hexD (b.toNat / 16)).toNat : Int) < 0 ∨ valZ ((hexD (b.toNat % 16)).toNat : Int) < 0) := by
      rw [val_hex _ (by omega), val_hex _ (by omega)]; omega
    have h2 : plainZ ((37 : UInt8).toNat : Int) = false := by decide
    have h3 : plainZ (b.toNat : Int) = false := by simpa using h
    simp only [List.cons_append, List.nil_append, firstS, h2, if_neg h1, two_hex, h3]
    simp
theorem first_plain (b : UInt8) (r : List UInt8) (h : plainZ (b.toNat : Int) = true) : firstS (b :: r) = some b := by simp [firstS, h]
theorem first_odd (b : UInt8) (r : List UInt8) (h : plainZ (b.toNat : Int) = false) (h2 : ¬ b = 37) : firstS (b :: r) = none := by simp [firstS, h, h2]
theorem first_short (r : List UInt8) (h : r.length < 2) : firstS (37 :: r) = none := by
  match r, h with
  | [], _ => rfl
  | [_], _ => rfl
theorem first_pc (c d : UInt8) (t : List UInt8) : firstS (37 :: c :: d :: t) = if valZ (c.toNat : Int) < 0 ∨ valZ (d.toNat : Int) < 0 then none else if plainZ (two c d) then none else some (UInt8.ofNat (two c d).toNat) := rfl
theorem first_some {l : List UInt8} {b : UInt8} (h : firstS l = some b) : ∃ t, l = enc1 b ++ t := by
  match l, h with
  | [], h => cases h
  | c :: r, h =>
    by_cases hp : plainZ (c.toNat : Int) = true
    · rw [first_plain c r hp] at h
      cases h
      exact ⟨r, by simp [enc1, hp]⟩
    · have hp' : plainZ (c.toNat : Int) = false := by simpa using hp
      by_cases h37 : c = 37
      · subst h37
        match r, h with
        | [], h => cases h
        | [_], h => cases h
        | d :: e :: t, h =>
          rw [first_pc] at h
          split at h
          · cases h
          · rename_i hv
            split at h
            · cases h
            · rename_i hq
              have hb : UInt8.ofNat (two d e).toNat = b := Option.some.inj h
              have h2 := two_byte hv
              rw [hb] at h2
              have hlt := two_lt hv
              have l1 := val_lt d; have l2 := val_lt e
              refine ⟨t, ?_⟩
              have e0 : plainZ (b.toNat : Int) = false := by rw [h2]; simpa using hq
              have e1 : b.toNat / 16 = (valZ (d.toNat : Int)).toNat := by unfold two at h2; omega
              have e2 : b.toNat % 16 = (valZ (e.toNat : Int)).toNat := by unfold two at h2; omega
              simp only [enc1, e0, e1, e2, hex_val d (fun c => hv (.inl c)), hex_val e (fun c => hv (.inr c))]
              simp
      · rw [first_odd c r hp' h37] at h; cases h
theorem enc1_pos (b : UInt8) : 0 < (enc1 b).length := by unfold enc1; split <;> simp
theorem enc_prefix : ∀ (o p r : List UInt8), encS p = encS o ++ r → ∃ q, p = o ++ q ∧ r = encS q
  | [], p, r, h => ⟨p, rfl, by simpa [encS] using h.symm⟩
  | b :: o, p, r, h => by
    rw [encS_cons, List.append_assoc] at h
    match p, h with
    | [], h =>
      have := congrArg List.length h
      have h1 := enc1_pos b
      simp [encS_nil] at this; omega
    | c :: p, h =>
      rw [encS_cons] at h
      have h1 := congrArg firstS h
      rw [first_enc, first_enc] at h1
      cases Option.some.inj h1
      obtain ⟨q, rfl, hr⟩ := enc_prefix o p r (List.append_cancel_left h)
      exact ⟨q, rfl, hr⟩
/- decoded byte by byte: at the end; at a text that begins with none -/
theorem dec_all {l o : List UInt8} (h : l = encS o) : decS l = some o := by rw [h, dec_enc]
theorem dec_no {l o r : List UInt8} (h : l = encS o ++ r) (hr : r ≠ []) (hf : firstS r = none) : decS l = none := by
  cases hd : decS l with
  | none => rfl
  | some p =>
    have he := enc_dec l p hd
    obtain ⟨q, _, hq⟩ := enc_prefix o p r (he.trans h)
    match q, hq with
    | [], hq => exact absurd hq hr
    | b :: q, hq => rw [hq, encS_cons, first_enc] at hf; cases hf
theorem dec_len {l o : List UInt8} (h : l = encS o) : o.length ≤ l.length := by
  subst h
  induction o with
  | nil => simp
  | cons b r ih => rw [encS_cons, List.length_append, List.length_cons]; have := enc1_pos b; omega
/- no percent sign's byte stands for another: & and = are in no encoding -/
set_option maxRecDepth 100000 in
theorem enc1_no (x : UInt8) (hx : x = 38 ∨ x = 61) (b : UInt8) : x ∉ enc1 b := by
  have hp : ∀ n : Fin 256, plainZ ((n.1 : Nat) : Int) = true → n.1 ≠ 38 ∧ n.1 ≠ 61 := by decide
  have hh : ∀ n : Fin 16, hexN n.1 ≠ 38 ∧ hexN n.1 ≠ 61 ∧ hexN n.1 < 256 := by decide
  have hb : b.toNat < 256 := b.toNat_lt
  have hx' : x.toNat = 38 ∨ x.toNat = 61 := by rcases hx with rfl | rfl <;> simp
  unfold enc1
  split
  · rename_i h
    have := hp ⟨b.toNat, hb⟩ h
    intro hm
    have e : x = b := by simpa using hm
    subst e
    rcases hx' with h | h <;> simp [h] at this
  · intro hm
    have h1 := hh ⟨b.toNat / 16, by omega⟩
    have h2 := hh ⟨b.toNat % 16, by omega⟩
    have e : ∀ n : Fin 16, (hexD n.1).toNat = hexN n.1 := by decide
    have e1 := e ⟨b.toNat / 16, by omega⟩
    have e2 := e ⟨b.toNat % 16, by omega⟩
    simp only [List.mem_cons, List.not_mem_nil, or_false] at hm
    rcases hm with h | h | h
    · subst h; simp at hx'
    · subst h; dsimp only at e1 h1; omega
    · subst h; dsimp only at e2 h2; omega
theorem enc_no (x : UInt8) (hx : x = 38 ∨ x = 61) (l : List UInt8) : x ∉ encS l := by
  intro h
  obtain ⟨b, _, hb⟩ := List.mem_flatMap.1 h
  exact enc1_no x hx b hb

/- pairs -/
structure PairL where
  k : List UInt8
  v : List UInt8
def wr1 (p : PairL) : List UInt8 := encS p.k ++ 61 :: encS p.v
def wrS : List PairL → List UInt8
  | [] => []
  | p :: r => wr1 p ++ r.flatMap fun q => 38 :: wr1 q
theorem wrS_more (p : PairL) (r : List PairL) (q : PairL) : wrS (p :: r ++ [q]) = wrS (p :: r) ++ 38 :: wr1 q := by
  simp [wrS, List.append_assoc]

/- a text, cut at the first byte of a kind: what is ahead, what is behind, whether there is one -/
def cutA (x : UInt8) : List UInt8 → List UInt8
  | [] => []
  | b :: r => if b = x then [] else b :: cutA x r
def cutB (x : UInt8) : List UInt8 → List UInt8
  | [] => []
  | b :: r => if b = x then r else cutB x r
def cutI (x : UInt8) (l : List UInt8) : Bool := l.any (· == x)
theorem cut_app (x : UInt8) (a r : List UInt8) (h : x ∉ a) : cutA x (a ++ x :: r) = a ∧ cutB x (a ++ x :: r) = r ∧ cutI x (a ++ x :: r) = true := by
  induction a with
  | nil => simp [cutA, cutB, cutI]
  | cons b a ih =>
    have hb : ¬ b = x := fun e => h (by simp [e])
    obtain ⟨h1, h2, _⟩ := ih fun e => h (List.mem_cons_of_mem _ e)
    refine ⟨?_, ?_, ?_⟩
    · rw [List.cons_append, cutA, if_neg hb, h1]
    · rw [List.cons_append, cutB, if_neg hb, h2]
    · simp [cutI]
theorem cut_none (x : UInt8) (a : List UInt8) (h : x ∉ a) : cutA x a = a ∧ cutB x a = [] ∧ cutI x a = false := by
  induction a with
  | nil => simp [cutA, cutB, cutI]
  | cons b a ih =>
    have hb : ¬ b = x := fun e => h (by simp [e])
    obtain ⟨h1, h2, h3⟩ := ih fun e => h (List.mem_cons_of_mem _ e)
    refine ⟨?_, ?_, ?_⟩
    · rw [cutA, if_neg hb, h1]
    · rw [cutB, if_neg hb, h2]
    · unfold cutI at h3 ⊢; rw [List.any_cons, h3]; simp [hb]
theorem cut_yes {x : UInt8} {l : List UInt8} (h : cutI x l = true) : l = cutA x l ++ x :: cutB x l ∧ x ∉ cutA x l := by
  induction l with
  | nil => simp [cutI] at h
  | cons b l ih =>
    by_cases hb : b = x
    · simp [cutA, cutB, hb]
    · have h1 : cutI x l = true := by simpa [cutI, hb] using h
      obtain ⟨h2, h3⟩ := ih h1
      rw [cutA, cutB, if_neg hb, if_neg hb]
      exact ⟨by rw [List.cons_append, ← h2], by simp [h3, Ne.symm hb]⟩
theorem cut_no {x : UInt8} {l : List UInt8} (h : cutI x l = false) : x ∉ l := by
  intro hm
  have : cutI x l = true := by unfold cutI; exact List.any_eq_true.2 ⟨x, hm, by simp⟩
  rw [h] at this; cases this
theorem cutB_len (x : UInt8) (l : List UInt8) (h : cutI x l = true) : (cutB x l).length < l.length := by
  have := congrArg List.length (cut_yes h).1
  simp at this; omega

/- the pair of a text -/
def oneP (l : List UInt8) : Option PairL := if cutI 61 l then (match decS (cutA 61 l), decS (cutB 61 l) with
  | some a, some b => some ⟨a, b⟩
  | _, _ => none) else none
theorem one_wr (p : PairL) : oneP (wr1 p) = some p := by
  obtain ⟨h1, h2, h3⟩ := cut_app 61 (encS p.k) (encS p.v) (enc_no 61 (.inr rfl) _)
  unfold oneP wr1
  rw [h1, h2, h3, dec_enc, dec_enc]; rfl
/- the pairs of a text, one behind the other; none: a part is none. n: how often at the most -/
def rdP : Nat → List UInt8 → Option (List PairL)
  | 0, _ => none
  | n + 1, l => match oneP (cutA 38 l) with
    | none => none
    | some p => if cutI 38 l then (rdP n (cutB 38 l)).map (p :: ·) else some [p]
def pairsP (l : List UInt8) : Option (List PairL) := rdP (l.length + 1) l
def rdS (l : List UInt8) : List PairL × Int := if l = [] then ([], 0) else match pairsP l with
  | none => ([], 2)
  | some L => if 64 < L.length then ([], 3) else (L, 0)
theorem rd_fuel : ∀ (n m : Nat) (l : List UInt8), l.length < n → l.length < m → rdP n l = rdP m l
  | 0, _, _, h, _ => absurd h (Nat.not_lt_zero _)
  | _ + 1, 0, _, _, h => absurd h (Nat.not_lt_zero _)
  | n + 1, m + 1, l, h1, h2 => by
    unfold rdP
    split
    · rfl
    · split
      · rename_i hc
        have := cutB_len 38 l hc
        rw [rd_fuel n m _ (by omega) (by omega)]
      · rfl
theorem pairs_step (l : List UInt8) : pairsP l = (match oneP (cutA 38 l) with
    | none => none
    | some p => if cutI 38 l then (pairsP (cutB 38 l)).map (p :: ·) else some [p]) := by
  show rdP (l.length + 1) l = _
  unfold rdP
  split
  · rfl
  · rename_i p h
    split
    · rename_i hc
      have := cutB_len 38 l hc
      rw [pairsP, rd_fuel _ ((cutB 38 l).length + 1) _ (by omega) (by omega)]
    · rfl
theorem wr1_no (p : PairL) : (38 : UInt8) ∉ wr1 p := by
  unfold wr1
  rw [List.mem_append, List.mem_cons]
  rintro (h | h | h)
  · exact enc_no 38 (.inl rfl) _ h
  · cases h
  · exact enc_no 38 (.inl rfl) _ h
theorem wr1_ne (p : PairL) : wr1 p ≠ [] := by simp [wr1]
theorem pairs_wr : ∀ (p : PairL) (r : List PairL), pairsP (wrS (p :: r)) = some (p :: r)
  | p, [] => by
    have e : wrS [p] = wr1 p := by simp [wrS]
    obtain ⟨h1, h2, h3⟩ := cut_none 38 (wr1 p) (wr1_no p)
    rw [e, pairs_step, h1, h3, one_wr]; rfl
  | p, q :: r => by
    have e : wrS (p :: q :: r) = wr1 p ++ 38 :: wrS (q :: r) := by simp [wrS]
    obtain ⟨h1, h2, h3⟩ := cut_app 38 (wr1 p) (wrS (q :: r)) (wr1_no p)
    rw [e, pairs_step, h1, h2, h3, one_wr, pairs_wr q r]; rfl
theorem rd_wr (L : List PairL) (h : L.length ≤ 64) : rdS (wrS L) = (L, 0) := by
  match L, h with
  | [], _ => rfl
  | p :: r, h =>
    have hne : wrS (p :: r) ≠ [] := by simp [wrS, wr1]
    rw [rdS, if_neg hne, pairs_wr]
    dsimp only
    rw [if_neg (by omega)]
/- the value of a key: how many there are, and the last one -/
def getN (L : List PairL) (k : List UInt8) : Nat × List UInt8 := L.foldl (fun a p => if p.k = k then (a.1 + 1, p.v) else a) (0, [])
def getS (L : List PairL) (k : List UInt8) : List UInt8 × Int := if (getN L k).1 = 1 then ((getN L k).2, 0) else ([], 2)
theorem getN_more (L : List PairL) (p : PairL) (k : List UInt8) : getN (L ++ [p]) k = if p.k = k then ((getN L k).1 + 1, p.v) else getN L k := by
  unfold getN; rw [List.foldl_append]; rfl
theorem getN_le (L : List PairL) (k : List UInt8) : (getN L k).1 ≤ L.length := by
  suffices h : ∀ (n : Nat) (L : List PairL), L.length = n → (getN L k).1 ≤ n from h _ _ rfl
  intro n
  induction n with
  | zero => intro L h; rw [List.eq_nil_of_length_eq_zero h]; exact Nat.le_refl _
  | succ n ih =>
    intro L h
    obtain ⟨q, p, rfl⟩ : ∃ q p, L = q ++ [p] := ⟨L.dropLast, L.getLast (by intro e; simp [e] at h), (List.dropLast_concat_getLast _).symm⟩
    rw [List.length_append, List.length_singleton] at h
    have := ih q (by omega)
    rw [getN_more]
    split <;> (try dsimp only) <;> omega

end Go.Proofs.YtnfmjkinahbilaaDoor
