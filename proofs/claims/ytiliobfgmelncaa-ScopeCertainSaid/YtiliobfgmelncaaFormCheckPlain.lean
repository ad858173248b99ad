/- Which rows of parts are formulas, in plain words: what a part needs, whether it is right, how many results there are; where the parts begin whose result a part makes. -/
import Derived.Test.YtiliobfgmelncaaFormPlain
import Derived.Test.YtiliobfgmelncaaTermPlains
namespace Go.Proofs.Ytiliobfgmelncaa

def needK (k : Int) : Int := if k = 1 ∨ k = 2 ∨ k = 3 then 0 else if k = 4 ∨ k = 5 ∨ (18 ≤ k ∧ k ≤ 23) then 1 else if (6 ≤ k ∧ k ≤ 17) ∨ k = 24 then 2 else if k = 25 then 3 else -1
def coalN (c : Int) : Int := if 1 ≤ c ∧ c ≤ 16 then c else -1
def needM (p : PartL) : Int := if p.k = 26 then coalN p.c else if p.c = 0 then needK p.k else -1
def refNeed (p : PartL) : Int := if p.k = 26 then coalN p.c else needK p.k
def zeroT (t : TermL) : Bool := decide (t.k = 0) && t.x.isEmpty && t.y.isEmpty && t.z.isEmpty
def valueT (t : TermL) : Bool := (decide (t.k = 1) || decide (t.k = 2)) && rightL t.k t.x t.y t.z
def rightM (p : PartL) : Bool := if p.k = 1 then valueT p.t && p.m.isEmpty else if p.k = 2 ∨ p.k = 3 then nameL p.m && zeroT p.t else p.m.isEmpty && zeroT p.t
def goodM (p : PartL) : Bool := decide (0 ≤ needM p) && rightM p
def nd (p : PartL) : Nat := (needM p).toNat

def chkGo : List PartL → Nat → Option Nat
  | [], h => some h
  | p :: r, h => if goodM p = true ∧ nd p ≤ h then chkGo r (h - nd p + 1) else none
def chkE (L : List PartL) : Int := if 256 < L.length then 3 else if chkGo L 0 = some 1 then 0 else 2

theorem need_good {p : PartL} (h : goodM p = true) : needM p = (nd p : Int) ∧ refNeed p = (nd p : Int) ∧ (p.k = 26 ∨ p.c = 0) ∧ rightM p = true := by
  unfold goodM at h
  simp only [Bool.and_eq_true, decide_eq_true_eq] at h
  obtain ⟨h0, hr⟩ := h
  have e : needM p = (nd p : Int) := by unfold nd; omega
  refine ⟨e, ?_, ?_, hr⟩
  · rw [← e]
    unfold refNeed needM at *
    split
    · rfl
    · rename_i hk
      rw [if_neg hk] at h0
      split at h0
      · rename_i hc; rw [if_pos hc]
      · omega
  · unfold needM at h0
    split at h0
    · rename_i hk; exact .inl hk
    · split at h0
      · rename_i hc; exact .inr hc
      · omega
theorem nd_most {p : PartL} (h : goodM p = true) : nd p ≤ 16 := by
  have h1 := (need_good h).1
  unfold needM coalN needK at h1
  split at h1
  · split at h1 <;> omega
  · split at h1
    · repeat (split at h1)
      all_goals omega
    · omega
/- one more part -/
theorem chk_step {p : PartL} {r : List PartL} {h : Nat} (hp : goodM p = true) (hn : nd p ≤ h) : chkGo (p :: r) h = chkGo r (h - nd p + 1) := by rw [chkGo, if_pos ⟨hp, hn⟩]
theorem chk_stop {p : PartL} {r : List PartL} {h : Nat} (hp : ¬ (goodM p = true ∧ nd p ≤ h)) : chkGo (p :: r) h = none := by rw [chkGo, if_neg hp]

/- the heights: how many results there are ahead of each part -/
structure Hts (L : List PartL) (hh : Nat → Nat) : Prop where
  zero : hh 0 = 0
  step : ∀ k (h : k < L.length), goodM L[k] = true ∧ nd L[k] ≤ hh k ∧ hh (k + 1) + nd L[k] = hh k + 1
theorem hts_le {L : List PartL} {hh : Nat → Nat} (H : Hts L hh) : ∀ k, k ≤ L.length → hh k ≤ k
  | 0, _ => by rw [H.zero]; exact Nat.le_refl _
  | k + 1, h => by
    have h1 := hts_le H k (by omega)
    obtain ⟨_, _, hs⟩ := H.step k (by omega)
    omega
theorem hts_of : ∀ (L : List PartL) (h r : Nat), chkGo L h = some r → ∃ hh : Nat → Nat, hh 0 = h ∧ hh L.length = r ∧ ∀ k (hk : k < L.length), goodM L[k] = true ∧ nd L[k] ≤ hh k ∧ hh (k + 1) + nd L[k] = hh k + 1
  | [], h, r, e => ⟨fun _ => h, rfl, by simpa [chkGo] using e, fun k hk => absurd hk (Nat.not_lt_zero _)⟩
  | p :: L, h, r, e => by
    rw [chkGo] at e
    split at e
    · rename_i hc
      obtain ⟨hh, h0, hl, hs⟩ := hts_of L _ r e
      refine ⟨fun k => match k with | 0 => h | k + 1 => hh k, rfl, by simpa using hl, fun k hk => ?_⟩
      cases k with
      | zero =>
        refine ⟨hc.1, hc.2, ?_⟩
        show hh 0 + nd p = h + 1
        have := hc.2
        omega
      | succ k => exact hs k (by simpa using hk)
    · cases e

/- what the parts from a place on make, taken by themselves: never less, never more -/
theorem chk_sound {L : List PartL} {hh : Nat → Nat} (H : Hts L hh) : ∀ n a h r, a + n ≤ L.length → chkGo ((L.drop a).take n) h = some r → r + hh a = h + hh (a + n)
  | 0, a, h, r, _, e => by simp [chkGo] at e; subst e; rfl
  | n + 1, a, h, r, hl, e => by
    have ha : a < L.length := by omega
    obtain ⟨_, _, hs⟩ := H.step a ha
    rw [List.drop_eq_getElem_cons ha, List.take_succ_cons, chkGo] at e
    split at e
    · rename_i hc
      have := chk_sound H n (a + 1) _ r (by omega) e
      rw [show a + 1 + n = a + (n + 1) by omega] at this
      have := hc.2
      omega
    · cases e
theorem chk_whole {L : List PartL} {hh : Nat → Nat} (H : Hts L hh) (b : Nat) : ∀ n a, a + n ≤ L.length → b ≤ hh a → (∀ k (h : k < L.length), a ≤ k → k < a + n → nd L[k] + b ≤ hh k) → chkGo ((L.drop a).take n) (hh a - b) = some (hh (a + n) - b)
  | 0, a, _, _, _ => by simp [chkGo]
  | n + 1, a, hl, hb, hk => by
    have ha : a < L.length := by omega
    obtain ⟨hg, _, hs⟩ := H.step a ha
    have h1 := hk a ha (Nat.le_refl _) (by omega)
    rw [List.drop_eq_getElem_cons ha, List.take_succ_cons, chk_step hg (by omega), show hh a - b - nd L[a] + 1 = hh (a + 1) - b by omega]
    rw [chk_whole H b n (a + 1) (by omega) (by omega) (fun k h h2 h3 => hk k h (by omega) (by omega)), show a + 1 + n = a + (n + 1) by omega]

/- where the parts begin whose result part i makes -/
structure FromAt (hh : Nat → Nat) (i p : Nat) : Prop where
  le : p ≤ i
  at_ : hh p + 1 = hh (i + 1)
  up : ∀ q, p < q → q ≤ i + 1 → hh (i + 1) ≤ hh q
theorem from_ex {L : List PartL} {hh : Nat → Nat} (H : Hts L hh) {i : Nat} (hi : i < L.length) : ∃ p, FromAt hh i p := by
  have hpos : 0 < hh (i + 1) := by have := H.step i hi; omega
  have key : ∀ d, d ≤ i → (∀ q, i - d < q → q ≤ i + 1 → hh (i + 1) ≤ hh q) → ∃ p, FromAt hh i p := by
    intro d
    induction h : i - d generalizing d with
    | zero =>
      intro hd hup
      refine ⟨0, Nat.zero_le _, ?_, fun q h1 h2 => hup q h1 h2⟩
      have h1 := hup 1 (by omega) (by omega)
      obtain ⟨_, _, hs⟩ := H.step 0 (by omega)
      rw [Nat.zero_add, H.zero] at hs
      rw [H.zero]
      omega
    | succ m ih =>
      intro hd hup
      by_cases hc : hh (m + 1) < hh (i + 1)
      · refine ⟨m + 1, by omega, ?_, fun q h1 h2 => hup q h1 h2⟩
        have h1 := hup (m + 1 + 1) (by omega) (by omega)
        obtain ⟨_, _, hs⟩ := H.step (m + 1) (by omega)
        omega
      · refine ih (d + 1) (by omega) (by omega) (fun q h1 h2 => ?_)
        by_cases hq : q = m + 1
        · subst hq; omega
        · exact hup q (by omega) h2
  exact key 0 (Nat.zero_le _) (fun q h1 h2 => Nat.le_of_eq (congrArg hh (show i + 1 = q by omega)))
/- the part there needs none -/
theorem from_first {L : List PartL} {hh : Nat → Nat} (H : Hts L hh) {i p : Nat} (hi : i < L.length) (F : FromAt hh i p) : nd (L[p]'(Nat.lt_of_le_of_lt F.le hi)) = 0 ∧ hh (p + 1) = hh (i + 1) := by
  have hp : p < L.length := Nat.lt_of_le_of_lt F.le hi
  obtain ⟨_, _, hs⟩ := H.step p hp
  have h1 := F.up (p + 1) (by omega) (by have := F.le; omega)
  have h2 := F.at_
  omega
theorem from_good {L : List PartL} {hh : Nat → Nat} (H : Hts L hh) (h256 : L.length ≤ 256) {i p : Nat} (hi : i < L.length) (F : FromAt hh i p) : chkE ((L.drop p).take (i + 1 - p)) = 0 := by
  have hp := F.le
  have hw := chk_whole H (hh p) (i + 1 - p) p (by omega) (Nat.le_refl _) (fun k h h1 h2 => by
    obtain ⟨_, hn, hs⟩ := H.step k h
    by_cases hk : k = p
    · subst hk
      have := (from_first H hi F).1
      omega
    · have u1 := F.up k (by omega) (by omega)
      have u2 := F.up (k + 1) (by omega) (by omega)
      have := F.at_
      omega)
  rw [Nat.sub_self, show p + (i + 1 - p) = i + 1 by omega, show hh (i + 1) - hh p = 1 by have := F.at_; omega] at hw
  unfold chkE
  rw [if_neg (by rw [List.length_take, List.length_drop]; omega), if_pos hw]
theorem from_bad {L : List PartL} {hh : Nat → Nat} (H : Hts L hh) {i p a : Nat} (hi : i < L.length) (F : FromAt hh i p) (ha : p < a) (hai : a ≤ i) : chkE ((L.drop a).take (i + 1 - a)) ≠ 0 := by
  unfold chkE
  split
  · decide
  · rw [if_neg]
    · decide
    · intro e
      have := chk_sound H (i + 1 - a) a 0 1 (by omega) e
      rw [show a + (i + 1 - a) = i + 1 by omega] at this
      have := F.up a ha (by omega)
      omega

end Go.Proofs.Ytiliobfgmelncaa
