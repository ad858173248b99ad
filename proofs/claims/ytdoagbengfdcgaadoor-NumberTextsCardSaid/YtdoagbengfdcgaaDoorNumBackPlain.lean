/- A number's text is read as that number; the text of a number that was read is not much longer than what was read (no program). -/
import Derived.Test.YtdoagbengfdcgaaDoorNumReadRef
import Derived.Test.YtdoagbengfdcgaaDoorNumSums
import Derived.Test.YtdoagbengfdcgaaDoorNumDigits
import Derived.Test.YtdoagbengfdcgaaDoorNumRefCut
namespace Go.Proofs.YtdoagbengfdcgaaDoor
open Go.Lib (decDigits nDigits)

theorem dB_nat (x : Nat) (h : x < 10) : (dB x).toNat = 48 + x := by
  unfold dB
  simp; omega
theorem dB_digit (x : Nat) (h : x < 10) : digitB (dB x) = true := by
  have := dB_nat x h
  simp [digitB]; omega
theorem amt_low (k : Nat) : ∀ (u : Nat) (a : Int) (H : List UInt8), amt13 a (lowD k u ++ H) = amt13 (a * ten k + ((u % 10 ^ k : Nat) : Int)) H := by
  induction k with
  | zero => intro u a H; simp [lowD, ten, Nat.mod_one]
  | succ k ih =>
    intro u a H
    show amt13 a (lowD k (u / 10) ++ [dB (u % 10)] ++ H) = _
    rw [List.append_assoc, ih (u / 10) a]
    have hd := dB_digit (u % 10) (Nat.mod_lt _ (by omega))
    have hn := dB_nat (u % 10) (Nat.mod_lt _ (by omega))
    show amt13 _ (dB (u % 10) :: H) = _
    rw [amt13, if_pos hd, hn]
    congr 1
    have e : u % 10 ^ (k + 1) = 10 * (u / 10 % 10 ^ k) + u % 10 := by
      rw [Nat.pow_succ, Nat.mul_comm (10 ^ k) 10, Nat.mod_mul]; omega
    rw [e, show ten (k + 1) = 10 * ten k from rfl]
    have e2 : a * (10 * ten k) = a * ten k * 10 := by rw [Int.mul_comm 10, Int.mul_assoc]
    rw [e2]
    omega
theorem low_nodot (k : Nat) : ∀ (u : Nat) (r : List UInt8), dotAhead (lowD k u ++ r) = lowD k u ++ dotAhead r ∧ dotBehind (lowD k u ++ r) = dotBehind r ∧ hasDot (lowD k u ++ r) = hasDot r := by
  induction k with
  | zero => intro u r; exact ⟨rfl, rfl, rfl⟩
  | succ k ih =>
    intro u r
    have hd := dB_digit (u % 10) (Nat.mod_lt _ (by omega))
    have hne : dB (u % 10) ≠ 46 := fun e => by rw [e, digit_dot] at hd; cases hd
    obtain ⟨h1, h2, h3⟩ := ih (u / 10) (dB (u % 10) :: r)
    show dotAhead (lowD k (u / 10) ++ [dB (u % 10)] ++ r) = lowD k (u / 10) ++ [dB (u % 10)] ++ dotAhead r ∧ dotBehind (lowD k (u / 10) ++ [dB (u % 10)] ++ r) = _ ∧ hasDot (lowD k (u / 10) ++ [dB (u % 10)] ++ r) = _
    rw [List.append_assoc, List.append_assoc, List.singleton_append, h1, h2, h3]
    simp [dotAhead, dotBehind, hasDot, hne]
theorem low_head (k : Nat) : ∀ u : Nat, 1 ≤ k → ∃ (c : UInt8) (r : List UInt8), lowD k u = c :: r ∧ digitB c = true := by
  induction k with
  | zero => intro u h; omega
  | succ k ih =>
    intro u _
    by_cases h : k = 0
    · subst h; exact ⟨dB (u % 10), [], rfl, dB_digit _ (Nat.mod_lt _ (by omega))⟩
    · obtain ⟨c, r, e, hd⟩ := ih (u / 10) (by omega)
      exact ⟨c, r ++ [dB (u % 10)], by show lowD k (u / 10) ++ _ = _; rw [e]; rfl, hd⟩

/- the digits of a text, ahead of the sign -/
theorem plus_body (c : UInt8) (r : List UInt8) (h : digitB c = true) : unsigned (c :: r) = c :: r ∧ signOf (c :: r) = 1 := by
  have h1 : c ≠ 45 := fun e => by rw [e] at h; revert h; decide
  have h2 : c ≠ 43 := fun e => by rw [e] at h; revert h; decide
  exact ⟨by simp [unsigned, h1, h2], by simp [signOf, h1]⟩
theorem read_sign (v : Int) (c : UInt8) (r : List UInt8) (dec : Bool) (h : digitB c = true) : readL ((if v < 0 then [45] else []) ++ (c :: r)) dec = readB (c :: r) (if v < 0 then -1 else 1) dec := by
  unfold readL
  by_cases hv : v < 0
  · rw [if_pos hv, if_pos hv]; rfl
  · rw [if_neg hv, if_neg hv, List.nil_append, (plus_body c r h).1, (plus_body c r h).2]
theorem sign_abs (v : Int) : (if v < 0 then -1 else 1) * (v.natAbs : Int) = v := by
  split <;> omega

theorem dec_body (u : Nat) : ∃ (c : UInt8) (r : List UInt8), decDigits u = c :: r ∧ digitB c = true := by
  rw [dec_low]; exact low_head _ u (Lib.nDigits_pos u)
theorem amt_dec (u : Nat) (H : List UInt8) : amt13 0 (decDigits u ++ H) = amt13 (u : Int) H := by
  rw [dec_low, amt_low, Nat.mod_eq_of_lt (Lib.lt_pow_nDigits u)]
  congr 1; omega

theorem count_ok {a h : Nat} (h1 : 1 ≤ h) (h4 : h ≤ 4) (ha : a ≤ 9) : countZ a h true = true := by simp [countZ]; omega

theorem read_text {v : Int} {s : Nat} {d : Bool} (hr : rightZ v s d = true) : readL (textL v s d) d = (⟨v, s, d⟩, true) := by
  obtain ⟨⟨p1, p2⟩, ⟨p3, p4⟩, p5⟩ := (rightZ_iff _ _ _).1 hr
  have hs4 : s ≤ 4 := by omega
  have hu : v.natAbs ≤ 999999999 := by omega
  have hbv : boundZ v = true := by simp [boundZ]; omega
  unfold textL
  cases d with
  | false =>
    have s0 : s = 0 := by
      rcases p5 with e | e
      · omega
      · cases e.1
    subst s0
    simp only [Bool.false_eq_true, if_false]
    obtain ⟨c, r, e, hd⟩ := dec_body v.natAbs
    have h9 : (decDigits v.natAbs).length ≤ 9 := by rw [Lib.decDigits_length]; exact nDigits_le 9 _ (by omega) (by omega)
    have h1 : 1 ≤ (decDigits v.natAbs).length := by rw [Lib.decDigits_length]; exact Lib.nDigits_pos _
    have hdots := low_nodot (nDigits v.natAbs) v.natAbs []
    rw [← dec_low, List.append_nil] at hdots
    have hamt := amt_dec v.natAbs []
    rw [List.append_nil] at hamt
    rw [e, read_sign v c r false hd, ← e]
    have ha : dotAhead (decDigits v.natAbs) = decDigits v.natAbs := by rw [hdots.1]; simp [dotAhead]
    have hb : dotBehind (decDigits v.natAbs) = [] := by rw [hdots.2.1]; rfl
    have hc : hasDot (decDigits v.natAbs) = false := by rw [hdots.2.2]; rfl
    rw [readB_made (by rw [hc]; rfl) (by rw [ha, hb]; simp [countZ]; omega) (by rw [ha, hb, List.append_nil, hamt]; rfl), ha, hb, List.append_nil, hamt]
    show madeL ((if v < 0 then -1 else 1) * (v.natAbs : Int)) 0 false = _
    rw [sign_abs, madeL_yes _ _ _ (by rw [cut_small _ _ (by omega)]; exact hbv), cut_small _ _ (by omega)]
    rfl
  | true =>
    simp only [if_true]
    unfold decimalL
    obtain ⟨c, r, e, hd⟩ := dec_body (v.natAbs / 10 ^ s)
    have hq : v.natAbs / 10 ^ s ≤ 999999999 := Nat.le_trans (Nat.div_le_self _ _) hu
    have h9 : (decDigits (v.natAbs / 10 ^ s)).length ≤ 9 := by rw [Lib.decDigits_length]; exact nDigits_le 9 _ (by omega) (by omega)
    obtain ⟨H, hH⟩ : ∃ H, (if s = 0 then [48] else lowD s v.natAbs) = H := ⟨_, rfl⟩
    rw [hH]
    have hHl : 1 ≤ H.length ∧ H.length ≤ 4 := by
      rw [← hH]
      split
      · simp
      · rw [lowD_length]; omega
    have hdots := low_nodot (nDigits (v.natAbs / 10 ^ s)) (v.natAbs / 10 ^ s) (46 :: H)
    rw [← dec_low] at hdots
    rw [e, List.cons_append, read_sign v c _ true hd, ← List.cons_append, ← e]
    have ha : dotAhead (decDigits (v.natAbs / 10 ^ s) ++ 46 :: H) = decDigits (v.natAbs / 10 ^ s) := by rw [hdots.1]; simp [dotAhead]
    have hb : dotBehind (decDigits (v.natAbs / 10 ^ s) ++ 46 :: H) = H := by rw [hdots.2.1]; simp [dotBehind]
    have hc : hasDot (decDigits (v.natAbs / 10 ^ s) ++ 46 :: H) = true := by rw [hdots.2.2]; simp [hasDot]
    by_cases h0 : s = 0
    · subst h0
      rw [if_pos rfl] at hH
      subst hH
      have hamt : amt13 0 (decDigits (v.natAbs / 10 ^ 0) ++ [48]) = ((v.natAbs : Int) * 10, true) := by
        rw [amt_dec, Nat.pow_zero, Nat.div_one]
        show amt13 _ (48 :: []) = _
        rw [amt13, if_pos (by decide)]
        show ((v.natAbs : Int) * 10 + (((48 : UInt8).toNat : Int) - 48), true) = _
        rw [show (((48 : UInt8).toNat : Int) - 48) = 0 from rfl, Int.add_zero]
      have hcut : cutZ (v * 10) 1 = (v, 0) := by
        rw [cut_small _ _ (by omega)]
        have := strip_back 1 0 v (.inl rfl)
        exact this
      rw [readB_made (by rw [hc]; rfl) (by rw [ha, hb]; exact count_ok hHl.1 hHl.2 h9) (by rw [ha, hb, hamt]), ha, hb, hamt]
      show madeL ((if v < 0 then -1 else 1) * ((v.natAbs : Int) * 10)) 1 true = _
      rw [← Int.mul_assoc, sign_abs, madeL_yes _ _ _ (by rw [hcut]; exact hbv), hcut]
    · rw [if_neg h0] at hH
      subst hH
      have hamt : amt13 0 (decDigits (v.natAbs / 10 ^ s) ++ lowD s v.natAbs) = ((v.natAbs : Int), true) := by
        rw [amt_dec]
        have := amt_low s v.natAbs ((v.natAbs / 10 ^ s : Nat) : Int) []
        rw [List.append_nil] at this
        rw [this]
        show (_, true) = _
        rw [ten_pow]
        have e2 : ((v.natAbs / 10 ^ s : Nat) : Int) * ((10 ^ s : Nat) : Int) + ((v.natAbs % 10 ^ s : Nat) : Int) = (v.natAbs : Int) := by
          have := Nat.div_add_mod v.natAbs (10 ^ s)
          rw [← Int.natCast_mul, ← Int.natCast_add, Nat.mul_comm, this]
        rw [e2]
      have hcut : cutZ v s = (v, s) := by
        rw [cut_small _ _ hs4]
        have := strip_back 0 s v (p5.imp (fun h => by omega) fun h => h.2)
        rw [show ten 0 = 1 from rfl, Int.mul_one] at this
        exact this
      rw [readB_made (by rw [hc]; rfl) (by rw [ha, hb]; exact count_ok hHl.1 hHl.2 h9) (by rw [ha, hb, hamt]), ha, hb, hamt, lowD_length]
      show madeL ((if v < 0 then -1 else 1) * (v.natAbs : Int)) s true = _
      rw [sign_abs, madeL_yes _ _ _ (by rw [hcut]; exact hbv), hcut]

theorem amt_lt {A : List UInt8} (h : (amt13 0 A).2 = true) : 0 ≤ (amt13 0 A).1 ∧ (amt13 0 A).1 < ten A.length := by
  have := amt13_bound A 0 0 (by omega) (by decide) h
  rw [Nat.zero_add] at this
  exact this
theorem lens (l : List UInt8) : (unsigned l).length + (if signOf l = -1 then 1 else 0) ≤ l.length ∧ (dotAhead (unsigned l)).length + (dotBehind (unsigned l)).length + (if hasDot (unsigned l) = true then 1 else 0) ≤ (unsigned l).length := by
  constructor
  · match l with
    | [] => simp [unsigned, signOf]
    | c :: r =>
      by_cases h1 : c = 45
      · simp [unsigned, signOf, h1]
      · by_cases h2 : c = 43
        · simp [unsigned, signOf, h2]
        · simp [unsigned, signOf, h1, h2]
  · generalize unsigned l = b
    induction b with
    | nil => simp [dotAhead, dotBehind, hasDot]
    | cons c r ih =>
      by_cases h : c = 46
      · simp [dotAhead, dotBehind, hasDot, h]
      · simp only [dotAhead, dotBehind, hasDot, if_neg h, List.length_cons]; omega

theorem readB_none {b : List UInt8} {sg : Int} {dec : Bool} (h : (readB b sg dec).2 = false) : readB b sg dec = (noNum, false) := by
  unfold readB at h ⊢
  split at h
  · rename_i k; rw [if_pos k]
  · rename_i k
    rw [if_neg k]
    split at h
    · rename_i k; rw [if_pos k]
    · rename_i k
      rw [if_neg k]
      split at h
      · rename_i k; rw [if_pos k]
      · rename_i k; rw [if_neg k]; exact madeL_false h

/- of a number that was read -/
theorem read_right {l : List UInt8} {dec : Bool} (h : (readL l dec).2 = true) :
    ∃ (y : Int) (j : Nat), readL l dec = (⟨y, j, dec⟩, true) ∧ rightZ y j dec = true ∧ (textL y j dec).length ≤ l.length + 2 := by
  obtain ⟨hl1, hl2⟩ := lens l
  have hsg := sign_one l
  unfold readL at h ⊢
  generalize unsigned l = b at h hl1 hl2 ⊢
  generalize signOf l = sg at h hl1 hsg ⊢
  have hst : (hasDot b != dec) = false := by
    cases e : (hasDot b != dec)
    · rfl
    · rw [readB_dot e] at h; cases h
  have hct : countZ (dotAhead b).length (dotBehind b).length dec = true := by
    cases e : countZ (dotAhead b).length (dotBehind b).length dec
    · rw [readB_count hst e] at h; cases h
    · rfl
  have hok : (amt13 0 (dotAhead b ++ dotBehind b)).2 = true := by
    cases e : (amt13 0 (dotAhead b ++ dotBehind b)).2
    · rw [readB_amt hst hct e] at h; cases h
    · rfl
  have hVb := amt_lt hok
  rw [readB_made hst hct hok] at h ⊢
  have hk4 := behind_4 hst hct
  generalize amt13 0 (dotAhead b ++ dotBehind b) = VV at h hVb hok ⊢
  obtain ⟨V0, ok⟩ := VV
  simp only at hok h hVb ⊢
  obtain ⟨V, rfl⟩ := Int.eq_ofNat_of_zero_le hVb.1
  have hbd : boundZ (cutZ (sg * (V : Int)) (dotBehind b).length).1 = true := by
    cases e : boundZ (cutZ (sg * (V : Int)) (dotBehind b).length).1
    · rw [madeL_no _ _ _ e] at h; cases h
    · rfl
  rw [madeL_yes _ _ _ hbd]
  rw [cut_small _ _ hk4] at hbd ⊢
  have hj := strip_le (dotBehind b).length (sg * (V : Int))
  have hend := strip_end (dotBehind b).length (sg * (V : Int))
  have ham := strip_amt (dotBehind b).length (sg * (V : Int)) hk4
  have hdot : hasDot b = dec := by
    revert hst
    cases hasDot b <;> cases dec <;> simp
  have hnd : dec = false → (dotBehind b).length = 0 := by
    intro e
    rcases dot_cases b with ⟨k, _⟩ | ⟨_, _, _, k⟩
    · rw [hdot, e] at k; cases k
    · rw [k]; rfl
  have hV : V < 10 ^ ((dotAhead b).length + (dotBehind b).length) := by
    have := hVb.2
    rw [List.length_append, ten_pow] at this
    exact Int.ofNat_lt.1 this
  unfold countZ at hct
  simp only [Bool.and_eq_true, decide_eq_true_eq] at hct
  rw [hdot] at hl2
  generalize (dotAhead b).length = na at hct hl2 hV
  generalize (dotBehind b).length = nh at hct hl2 hV hk4 hbd hj hend ham hnd ⊢
  generalize strip nh (sg * (V : Int)) = q at hbd hj hend ham ⊢
  obtain ⟨y, j⟩ := q
  simp only at hbd hj hend ham ⊢
  have hby : -999999999 ≤ y ∧ y ≤ 999999999 := by simpa [boundZ] using hbd
  refine ⟨y, j, rfl, ?_, ?_⟩
  · rw [rightZ_iff]
    refine ⟨hby, ⟨by omega, by omega⟩, ?_⟩
    rcases hend with e | e
    · left; omega
    · cases dec with
      | true => exact .inr ⟨rfl, e⟩
      | false => left; have := hnd rfl; omega
  · -- the amounts, without signs
    have hua : y.natAbs * 10 ^ (nh - j) = V := by
      have h1 : (y * ten (4 - j)).natAbs = (sg * (V : Int) * ten (4 - nh)).natAbs := by rw [ham]
      rw [ten_pow, ten_pow, Int.natAbs_mul, Int.natAbs_mul, Int.natAbs_mul, Int.natAbs_natCast, Int.natAbs_natCast, Int.natAbs_natCast] at h1
      have h2 : sg.natAbs = 1 := by rcases hsg with e | e <;> rw [e] <;> rfl
      rw [h2, Nat.one_mul, show 4 - j = (nh - j) + (4 - nh) by omega, Nat.pow_add, ← Nat.mul_assoc] at h1
      exact Nat.eq_of_mul_eq_mul_right (Nat.pow_pos (by omega)) h1
    have hneg : y < 0 → sg = -1 := by
      intro hy
      rcases hsg with e | e
      · exfalso
        rw [e, Int.one_mul] at ham
        have t1 := ten_pos (4 - j)
        have t2 := ten_pos (4 - nh)
        have : 0 ≤ (V : Int) * ten (4 - nh) := Int.mul_nonneg (by omega) (by omega)
        have : y * ten (4 - j) < 0 := Int.mul_neg_of_neg_of_pos hy (by omega)
        omega
      · exact e
    have hsl : (if y < 0 then [45] else ([] : List UInt8)).length ≤ if sg = -1 then 1 else 0 := by
      by_cases hy : y < 0
      · rw [if_pos hy, if_pos (hneg hy)]; simp
      · rw [if_neg hy]; simp
    have hq : y.natAbs / 10 ^ j < 10 ^ na := by
      have e1 : y.natAbs / 10 ^ j = V / 10 ^ nh := by
        have e2 : 10 ^ nh = 10 ^ j * 10 ^ (nh - j) := by rw [← Nat.pow_add]; congr 1; omega
        rw [← hua, e2, Nat.mul_div_mul_right _ _ (Nat.pow_pos (by omega))]
      rw [e1, Nat.div_lt_iff_lt_mul (Nat.pow_pos (by omega)), ← Nat.pow_add]
      exact hV
    have hnq : nDigits (y.natAbs / 10 ^ j) ≤ na + 1 := by
      by_cases h0 : na = 0
      · subst h0
        have : y.natAbs / 10 ^ j = 0 := by simpa using hq
        rw [this, Lib.nDigits_small (by omega)]; omega
      · have := nDigits_le na _ (by omega) hq; omega
    unfold textL
    rw [List.length_append]
    cases dec with
    | false =>
      have h0 := hnd rfl
      have hj0 : j = 0 := by omega
      subst hj0
      simp only [Nat.pow_zero, Nat.div_one] at hnq
      simp only [Bool.false_eq_true, if_false]
      rw [Lib.decDigits_length]
      simp only [Bool.false_eq_true, if_false] at hl2
      omega
    | true =>
      simp only [if_true] at hl2 hct ⊢
      unfold decimalL
      rw [List.length_append, List.length_cons, Lib.decDigits_length]
      have h14 : 1 ≤ nh := by
        have := hct.2
        simp at this
        omega
      by_cases hj0 : j = 0
      · rw [if_pos hj0]
        simp only [List.length_singleton]
        omega
      · rw [if_neg hj0, lowD_length]
        omega

end Go.Proofs.YtdoagbengfdcgaaDoor
