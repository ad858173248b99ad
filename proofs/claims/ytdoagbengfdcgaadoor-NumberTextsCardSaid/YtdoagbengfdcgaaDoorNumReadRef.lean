/- The document's own reading of a number, a byte at a time (no program): the same number as package number's. -/
import Derived.Test.YtdoagbengfdcgaaDoorNumRead
namespace Go.Proofs.YtdoagbengfdcgaaDoor

def walkR (dec : Bool) : List UInt8 → Nat → Int → Int → Option (Nat × Int × Int)
  | [], n, b, v => some (n, b, v)
  | c :: r, n, b, v =>
    if c = 46 ∧ b < 0 ∧ dec = true then walkR dec r n 0 v
    else if digitB c = false ∨ n = 13 then none
    else walkR dec r (n + 1) (if 0 ≤ b then b + 1 else b) (10 * v + (c.toNat : Int) - 48)

theorem walk_cons (dec : Bool) (c : UInt8) (r : List UInt8) (n : Nat) (b v : Int) : walkR dec (c :: r) n b v = if c = 46 ∧ b < 0 ∧ dec = true then walkR dec r n 0 v else if digitB c = false ∨ n = 13 then none else walkR dec r (n + 1) (if 0 ≤ b then b + 1 else b) (10 * v + (c.toNat : Int) - 48) := rfl
theorem digit_dot : digitB 46 = false := by decide
theorem amt_dot (l : List UInt8) : ∀ a : Int, hasDot l = true → (amt13 a l).2 = false := by
  induction l with
  | nil => intro a h; cases h
  | cons c r ih =>
    intro a h
    unfold amt13
    by_cases hd : digitB c = true
    · rw [if_pos hd]
      have hc : c ≠ 46 := fun e => by rw [e, digit_dot] at hd; cases hd
      exact ih _ (by simpa [hasDot, hc] using h)
    · rw [if_neg hd]
theorem amt_app (A : List UInt8) : ∀ (a : Int) (H : List UInt8), amt13 a (A ++ H) = if (amt13 a A).2 = true then amt13 (amt13 a A).1 H else (0, false) := by
  induction A with
  | nil => intro a H; simp [amt13]
  | cons c r ih =>
    intro a H
    by_cases hd : digitB c = true
    · simp only [List.cons_append, amt13, if_pos hd]; exact ih _ H
    · simp only [List.cons_append, amt13, if_neg hd]; rfl
theorem amt_false (l : List UInt8) : ∀ a : Int, (amt13 a l).2 = false → amt13 a l = (0, false) := by
  induction l with
  | nil => intro a h; cases h
  | cons c r ih =>
    intro a h
    by_cases hd : digitB c = true
    · simp only [amt13, if_pos hd] at h ⊢; exact ih _ h
    · simp only [amt13, if_neg hd]

/- digits to the end -/
theorem walk_digits (dec : Bool) (l : List UInt8) : ∀ (n : Nat) (b v : Int), n ≤ 13 → (0 ≤ b ∨ dec = false ∨ hasDot l = false) →
    walkR dec l n b v = if (amt13 v l).2 = true ∧ n + l.length ≤ 13 then some (n + l.length, (if 0 ≤ b then b + l.length else b), (amt13 v l).1) else none := by
  induction l with
  | nil => intro n b v hn _; simp [walkR, amt13, hn]
  | cons c r ih =>
    intro n b v hn hs
    have h1 : ¬ (c = 46 ∧ b < 0 ∧ dec = true) := by
      rintro ⟨e1, e2, e3⟩
      rcases hs with h | h | h
      · omega
      · rw [e3] at h; cases h
      · simp [hasDot, e1] at h
    unfold walkR
    rw [if_neg h1]
    by_cases hd : digitB c = true
    · have hc : c ≠ 46 := fun e => by rw [e, digit_dot] at hd; cases hd
      have hs' : 0 ≤ (if 0 ≤ b then b + 1 else b) ∨ dec = false ∨ hasDot r = false := by
        rcases hs with h | h | h
        · left; rw [if_pos h]; omega
        · right; left; exact h
        · right; right; simpa [hasDot, hc] using h
      simp only [amt13, if_pos hd]
      by_cases h13 : n = 13
      · rw [if_pos (.inr h13), if_neg (by simp; omega)]
      · rw [if_neg (by rw [hd]; simp [h13]), ih (n + 1) _ _ (by omega) hs', show 10 * v + (c.toNat : Int) - 48 = v * 10 + ((c.toNat : Int) - 48) by omega]
        by_cases hb : 0 ≤ b
        · simp only [hb, if_true, List.length_cons, show 0 ≤ b + 1 by omega]
          have e1 : n + 1 + r.length = n + (r.length + 1) := by omega
          have e2 : b + 1 + (r.length : Int) = b + ((r.length + 1 : Nat) : Int) := by omega
          rw [e1, e2]
        · simp only [hb, if_false, List.length_cons]
          have e1 : n + 1 + r.length = n + (r.length + 1) := by omega
          rw [e1]
    · have hd' : digitB c = false := by simpa using hd
      simp only [amt13, if_neg hd]
      rw [if_pos (.inl hd'), if_neg (by simp)]

/- up to the full stop -/
theorem walk_dot (l : List UInt8) : ∀ (n : Nat) (b v : Int), n ≤ 13 → b < 0 → hasDot l = true →
    walkR true l n b v = if (amt13 v (dotAhead l)).2 = true ∧ n + (dotAhead l).length ≤ 13 then walkR true (dotBehind l) (n + (dotAhead l).length) 0 (amt13 v (dotAhead l)).1 else none := by
  induction l with
  | nil => intro n b v _ _ h; cases h
  | cons c r ih =>
    intro n b v hn hb h
    rw [walk_cons]
    by_cases hc : c = 46
    · rw [if_pos ⟨hc, hb, rfl⟩]
      simp [dotAhead, dotBehind, hc, amt13, hn]
    · have h' : hasDot r = true := by simpa [hasDot, hc] using h
      rw [if_neg (fun e => hc e.1)]
      simp only [dotAhead, dotBehind, if_neg hc, amt13]
      by_cases hd : digitB c = true
      · simp only [if_pos hd]
        by_cases h13 : n = 13
        · rw [if_pos (.inr h13), if_neg (by simp; omega)]
        · rw [if_neg (by rw [hd]; simp [h13]), if_neg (show ¬ 0 ≤ b by omega), ih (n + 1) b _ (by omega) hb h', show 10 * v + (c.toNat : Int) - 48 = v * 10 + ((c.toNat : Int) - 48) by omega]
          simp only [List.length_cons]
          have e1 : n + 1 + (dotAhead r).length = n + ((dotAhead r).length + 1) := by omega
          rw [e1]
      · have hd' : digitB c = false := by simpa using hd
        simp only [if_neg hd]
        rw [if_pos (.inl hd'), if_neg (by simp)]

/- what the document makes of it -/
def endR (dec : Bool) (sg : Int) : Option (Nat × Int × Int) → NumL × Bool
  | none => (noNum, false)
  | some (n, b, v) => if n = 0 ∨ (dec = true ∧ (b < 1 ∨ 4 < b)) then (noNum, false) else madeL (sg * v) (max b 0).toNat dec

theorem ref_read (b : List UInt8) (sg : Int) (dec : Bool) : endR dec sg (walkR dec b 0 (-1) 0) = readB b sg dec := by
  cases dec with
  | false =>
    have hw := walk_digits false b 0 (-1) 0 (by omega) (.inr (.inl rfl))
    rcases dot_cases b with ⟨hd, _⟩ | ⟨hd, _, hA, hH⟩
    · rw [if_neg (by rw [amt_dot b 0 hd]; simp)] at hw
      rw [hw, readB_dot (by rw [hd]; rfl)]
      rfl
    · have hst : (hasDot b != false) = false := by rw [hd]; rfl
      by_cases hok : (amt13 0 b).2 = true
      · by_cases hl : b.length ≤ 13
        · rw [if_pos ⟨hok, by omega⟩, if_neg (show ¬ (0 : Int) ≤ -1 by omega)] at hw
          rw [hw]
          by_cases h0 : b.length = 0
          · rw [readB_count hst (by rw [hA, hH]; simp [countZ, h0])]
            simp [endR, h0]
          · rw [readB_made hst (by rw [hA, hH]; simp [countZ]; omega) (by rw [hA, hH, List.append_nil]; exact hok), hA, hH, List.append_nil]
            unfold endR
            simp only [Nat.zero_add]
            rw [if_neg (by simp; exact fun e => h0 (by rw [e]; rfl))]
            rfl
        · rw [if_neg (by omega)] at hw
          rw [hw, readB_count hst (by rw [hA, hH]; simp [countZ]; omega)]
          rfl
      · have hok' : (amt13 0 b).2 = false := by simpa using hok
        rw [if_neg (by rw [hok']; simp)] at hw
        rw [hw]
        by_cases hc : countZ (dotAhead b).length (dotBehind b).length false = true
        · rw [readB_amt hst hc (by rw [hA, hH, List.append_nil]; exact hok')]
          rfl
        · rw [readB_count hst (by simpa using hc)]
          rfl
  | true =>
    rcases dot_cases b with ⟨hd, _⟩ | ⟨hd, _, hA, hH⟩
    · have hst : (hasDot b != true) = false := by rw [hd]; rfl
      have hw := walk_dot b 0 (-1) 0 (by omega) (by omega) hd
      have ha := amt_app (dotAhead b) 0 (dotBehind b)
      by_cases hok : (amt13 0 (dotAhead b)).2 = true
      · rw [if_pos hok] at ha
        by_cases hl : (dotAhead b).length ≤ 13
        · rw [if_pos ⟨hok, by omega⟩, walk_digits true (dotBehind b) (0 + (dotAhead b).length) 0 _ (by omega) (.inl (by omega)), if_pos (show (0 : Int) ≤ 0 by omega)] at hw
          rw [hw]
          by_cases hok2 : (amt13 (amt13 0 (dotAhead b)).1 (dotBehind b)).2 = true
          · by_cases hl2 : (dotAhead b).length + (dotBehind b).length ≤ 13
            · rw [if_pos ⟨hok2, by omega⟩]
              by_cases h14 : 1 ≤ (dotBehind b).length ∧ (dotBehind b).length ≤ 4
              · rw [readB_made hst (by simp [countZ]; omega) (by rw [ha]; exact hok2), ha]
                unfold endR
                simp only []
                rw [if_neg (by rintro (e | ⟨_, e⟩) <;> omega), show (max (0 + ((dotBehind b).length : Int)) 0).toNat = (dotBehind b).length by omega]
              · rw [readB_count hst (by simp [countZ]; omega)]
                unfold endR
                simp only []
                rw [if_pos (by simp; omega)]
            · rw [if_neg (by omega), readB_count hst (by simp [countZ]; omega)]
              rfl
          · have hok2' : (amt13 (amt13 0 (dotAhead b)).1 (dotBehind b)).2 = false := by simpa using hok2
            rw [if_neg (by rw [hok2']; simp)]
            by_cases hc : countZ (dotAhead b).length (dotBehind b).length true = true
            · rw [readB_amt hst hc (by rw [ha]; exact hok2')]
              rfl
            · rw [readB_count hst (by simpa using hc)]
              rfl
        · rw [if_neg (by omega)] at hw
          rw [hw, readB_count hst (by simp [countZ]; omega)]
          rfl
      · have hok' : (amt13 0 (dotAhead b)).2 = false := by simpa using hok
        rw [if_neg (by rw [hok']; simp)] at hw ha
        rw [hw]
        by_cases hc : countZ (dotAhead b).length (dotBehind b).length true = true
        · rw [readB_amt hst hc (by rw [ha])]
          rfl
        · rw [readB_count hst (by simpa using hc)]
          rfl
    · have hw := walk_digits true b 0 (-1) 0 (by omega) (.inr (.inr hd))
      rw [hw, readB_dot (by rw [hd]; rfl)]
      split
      · unfold endR
        simp only []
        rw [if_pos (.inr ⟨by simp, .inl (by rw [if_neg (by omega)]; omega)⟩)]
      · rfl

end Go.Proofs.YtdoagbengfdcgaaDoor
