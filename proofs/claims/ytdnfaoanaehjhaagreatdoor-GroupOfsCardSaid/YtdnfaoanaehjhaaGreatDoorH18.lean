/- NumRefCut, NumBackPlain, GrpLaws, put together. -/
import Derived.Test.YtdnfaoanaehjhaaGreatDoorH15
import Derived.Test.YtdnfaoanaehjhaaGreatDoorH16
import Derived.Test.YtdnfaoanaehjhaaGreatDoorH17
import Derived.Test.YtdnfaoanaehjhaaGreatDoorH2
import Derived.Test.YtdnfaoanaehjhaaGreatDoorH9

/- The document's own answer for a value and a scale cut down: what package number makes of them, for every value and every scale up to 12. -/
namespace Go.Proofs.YtdnfaoanaehjhaaGreatDoor.Nm
open Go.RowKit

theorem tdiv_pos (x a b : Int) (hx : 0 ≤ x) (ha : 1 ≤ a) : (x.tdiv a).tdiv b = x.tdiv (a * b) := by
  rw [Int.tdiv_eq_ediv_of_nonneg hx, Int.tdiv_eq_ediv_of_nonneg (Int.ediv_nonneg hx (by omega)), Int.tdiv_eq_ediv_of_nonneg hx, Int.ediv_ediv_of_nonneg (by omega)]
theorem tdiv_twice (x a b : Int) (ha : 1 ≤ a) : (x.tdiv a).tdiv b = x.tdiv (a * b) := by
  rcases Int.le_total 0 x with hx | hx
  · exact tdiv_pos x a b hx ha
  · have h := tdiv_pos (-x) a b (by omega) ha
    rw [Int.neg_tdiv, Int.neg_tdiv, Int.neg_tdiv] at h
    omega
theorem cut_step (x : Int) (k : Nat) : cutZ x (k + 5) = cutZ (x.tdiv 10) (k + 4) := by
  unfold cutZ
  rw [show min (k + 5) 4 = 4 by omega, show min (k + 4) 4 = 4 by omega, show k + 5 - 4 = k + 1 by omega, show k + 4 - 4 = k by omega, tdiv_twice _ _ _ (by omega)]
  rfl
theorem cut_small (x : Int) (k : Nat) (h : k ≤ 4) : cutZ x k = strip k x := by
  unfold cutZ; rw [show min k 4 = k by omega, show k - 4 = 0 by omega]; simp [ten]

set_option maxHeartbeats 1000000 in
theorem rCut_calls (v : Int) (s : Nat) (d : Bool) (w : World) (hs : s ≤ 12) (h1 : -9223372036854775807 ≤ v) (h2 : v ≤ 9223372036854775807) :
    Calls Tryz.prog 83 #[.int .i64 v, .int .i64 s, .bool d] w fun e w' => e = .returned (NumL.ret (madeL v s d)) ∧ Below w.heap.size w w' := by
  have hm1 := madeL_yes v s d
  have hm2 := madeL_no v s d
  obtain ⟨R, hR⟩ : ∃ R, cutZ v s = R := ⟨_, rfl⟩
  rw [hR] at hm1 hm2
  have HR := Lib.hid hR
  have HM1 := Lib.hid hm1
  have HM2 := Lib.hid hm2
  clear hR hm1 hm2
  go_enter Tryz.func83, Tryz.ntmps83
  go_wp2
  go_loop [0, 1] (fun a b => ∃ (x : Int) (k : Nat), k ≤ 12 ∧ -9223372036854775807 ≤ x ∧ x ≤ 9223372036854775807 ∧ a = .int .i64 x ∧ b = .int .i64 k ∧ Hid (cutZ x k = R)) (fun _ b => (intOf b).toNat)
  case atStart => exact ⟨v, s, hs, h1, h2, rfl, rfl, HR⟩
  case round =>
    clear h1 h2
    obtain ⟨x, k, hk, hx1, hx2, rfl, rfl, HX⟩ := hrel
    by_cases h4 : k ≤ 4
    · have HX' := Lib.hid ((cut_small x k h4).symm.trans HX.out)
      clear HX
      go_wp2
      go_loop [0, 1] (fun a b => ∃ (x : Int) (k : Nat), k ≤ 4 ∧ -9223372036854775807 ≤ x ∧ x ≤ 9223372036854775807 ∧ a = .int .i64 x ∧ b = .int .i64 k ∧ Hid (strip k x = R)) (fun _ b => (intOf b).toNat)
      case atStart => exact ⟨x, k, h4, hx1, hx2, rfl, rfl, HX'⟩
      case round =>
        clear hx1 hx2 HX' hk h4
        rename_i x0 k0 _ _
        obtain ⟨x, k, hk, hx1, hx2, rfl, rfl, HX⟩ := hrel
        have hdone : strip k x = (x, k) → R = (x, k) := fun h => HX.out.symm.trans h
        by_cases hgo : 1 ≤ k ∧ x.tmod 10 = 0
        · obtain ⟨hk1, hm⟩ := hgo
          obtain ⟨k, rfl⟩ : ∃ j, k = j + 1 := ⟨k - 1, by omega⟩
          have hq := tdiv_le x 10 (by omega) 9223372036854775807 hx1 hx2
          obtain ⟨q1, q2⟩ := hq
          have g : (x.tmod 10 == 0) = true := beq_iff_eq.2 hm
          have HS := Lib.hid (strip_yes k x hm)
          clear hm hdone
          go_wp2
          go_round
          case rel => exact ⟨x.tdiv 10, k, by omega, q1, q2, rfl, by go_num, Lib.hid (by rw [← HS.out, HX.out])⟩
          case measure => simp [intOf]
        · have hst : R = (x, k) := hdone (by
            cases k with
            | zero => rfl
            | succ k => exact strip_no k x (fun h => hgo ⟨by omega, h⟩))
          have HST := Lib.hid hst
          have hcase : k = 0 ∨ (1 ≤ k ∧ (x.tmod 10 == 0) = false) := by
            by_cases h0 : k = 0
            · exact .inl h0
            · exact .inr ⟨by omega, beq_eq_false_iff_ne.2 fun h => hgo ⟨by omega, h⟩⟩
          clear hgo hst hdone
          rcases bound_cases x with ⟨b, b1, b2⟩ | ⟨b, b1⟩ | ⟨b, b1, b2⟩
          all_goals
            have HB := Lib.hid b
            clear b
            rcases hcase with rfl | ⟨c1, c2⟩
            all_goals try (have c3 : (x % 10 == 0) = false := by rw [← Int.tmod_eq_emod_of_nonneg (by omega)]; exact c2)
            all_goals
              go_wp2
              first
              | (refine bodyPost_ret (v := .tuple #[.agg #[.int .i64 x, .int .i64 0, .bool d], .bool true]) (by simp [results, Tryz.results83, go_sem]; done) rfl ⟨?_, box_below _ _⟩
                 rw [HM1.out (by rw [HST.out]; exact HB.out), HST.out]; rfl)
              | (refine bodyPost_ret (v := .tuple #[.agg #[.int .i64 x, .int .i64 k, .bool d], .bool true]) (by simp [results, Tryz.results83, go_sem]; done) rfl ⟨?_, box_below _ _⟩
                 rw [HM1.out (by rw [HST.out]; exact HB.out), HST.out]; rfl)
              | (refine bodyPost_ret (v := .tuple #[.agg #[.int .i64 0, .int .i64 0, .bool false], .bool false]) (by simp [results, Tryz.results83, go_sem]) rfl ⟨?_, box_below _ _⟩
                 rw [HM2.out (by rw [HST.out]; exact HB.out)]; rfl)
    · obtain ⟨k, rfl⟩ : ∃ j, k = j + 5 := ⟨k - 5, by omega⟩
      have hq := tdiv_le x 10 (by omega) 9223372036854775807 hx1 hx2
      obtain ⟨q1, q2⟩ := hq
      have HS := Lib.hid (cut_step x k)
      go_wp2
      go_round
      case rel => exact ⟨x.tdiv 10, k + 4, by omega, q1, q2, rfl, by go_num, Lib.hid (by rw [← HS.out, HX.out])⟩
      case measure => simp [intOf]; omega

end Go.Proofs.YtdnfaoanaehjhaaGreatDoor.Nm

/- A number's text is read as that number; the text of a number that was read is not much longer than what was read (no program). -/
namespace Go.Proofs.YtdnfaoanaehjhaaGreatDoor.Nm
open Go.Lib (decDigits nDigits)

theorem dB_nat (x : Nat) (h : x < 10) : (dB x).toNat = 48 + x := by
  unfold dB
  simp; omega
theorem dB_digit (x : Nat) (h : x < 10) : digitB (dB x) = true := by
  have := dB_nat x h
  simp [digitB]; omega
theorem amt_low (k : Nat) : ∀ (u : Nat) (a : Int) (H : List UInt8), amt13 a (lowD k u ++ H) = amt13 (a * ten k + ((u % 10 ^ k : Nat) : Int)) H := by
  induction k with
  | zero => intro u a H; simp [lowD, ten, Nat.mod_one]
  | succ k ih =>
    intro u a H
    show amt13 a (lowD k (u / 10) ++ [dB (u % 10)] ++ H) = _
    rw [List.append_assoc, ih (u / 10) a]
    have hd := dB_digit (u % 10) (Nat.mod_lt _ (by omega))
    have hn := dB_nat (u % 10) (Nat.mod_lt _ (by omega))
    show amt13 _ (dB (u % 10) :: H) = _
    rw [amt13, if_pos hd, hn]
    congr 1
    have e : u % 10 ^ (k + 1) = 10 * (u / 10 % 10 ^ k) + u % 10 := by
      rw [Nat.pow_succ, Nat.mul_comm (10 ^ k) 10, Nat.mod_mul]; omega
    rw [e, show ten (k + 1) = 10 * ten k from rfl]
    have e2 : a * (10 * ten k) = a * ten k * 10 := by rw [Int.mul_comm 10, Int.mul_assoc]
    rw [e2]
    omega
theorem low_nodot (k : Nat) : ∀ (u : Nat) (r : List UInt8), dotAhead (lowD k u ++ r) = lowD k u ++ dotAhead r ∧ dotBehind (lowD k u ++ r) = dotBehind r ∧ hasDot (lowD k u ++ r) = hasDot r := by
  induction k with
  | zero => intro u r; exact ⟨rfl, rfl, rfl⟩
  | succ k ih =>
    intro u r
    have hd := dB_digit (u % 10) (Nat.mod_lt _ (by omega))
    have hne : dB (u % 10) ≠ 46 := fun e => by rw [e, digit_dot] at hd; cases hd
    obtain ⟨h1, h2, h3⟩ := ih (u / 10) (dB (u % 10) :: r)
    show dotAhead (lowD k (u / 10) ++ [dB (u % 10)] ++ r) = lowD k (u / 10) ++ [dB (u % 10)] ++ dotAhead r ∧ dotBehind (lowD k (u / 10) ++ [dB (u % 10)] ++ r) = _ ∧ hasDot (lowD k (u / 10) ++ [dB (u % 10)] ++ r) = _
    rw [List.append_assoc, List.append_assoc, List.singleton_append, h1, h2, h3]
    simp [dotAhead, dotBehind, hasDot, hne]
theorem low_head (k : Nat) : ∀ u : Nat, 1 ≤ k → ∃ (c : UInt8) (r : List UInt8), lowD k u = c :: r ∧ digitB c = true := by
  induction k with
  | zero => intro u h; omega
  | succ k ih =>
    intro u _
    by_cases h : k = 0
    · subst h; exact ⟨dB (u % 10), [], rfl, dB_digit _ (Nat.mod_lt _ (by omega))⟩
    · obtain ⟨c, r, e, hd⟩ := ih (u / 10) (by omega)
      exact ⟨c, r ++ [dB (u % 10)], by show lowD k (u / 10) ++ _ = _; rw [e]; rfl, hd⟩

/- the digits of a text, ahead of the sign -/
theorem plus_body (c : UInt8) (r : List UInt8) (h : digitB c = true) : unsigned (c :: r) = c :: r ∧ signOf (c :: r) = 1 := by
  have h1 : c ≠ 45 := fun e => by rw [e] at h; revert h; decide
  have h2 : c ≠ 43 := fun e => by rw [e] at h; revert h; decide
  exact ⟨by simp [unsigned, h1, h2], by simp [signOf, h1]⟩
theorem read_sign (v : Int) (c : UInt8) (r : List UInt8) (dec : Bool) (h : digitB c = true) : readL ((if v < 0 then [45] else []) ++ (c :: r)) dec = readB (c :: r) (if v < 0 then -1 else 1) dec := by
  unfold readL
  by_cases hv : v < 0
  · rw [if_pos hv, if_pos hv]; rfl
  · rw [if_neg hv, if_neg hv, List.nil_append, (plus_body c r h).1, (plus_body c r h).2]
theorem sign_abs (v : Int) : (if v < 0 then -1 else 1) * (v.natAbs : Int) = v := by
  split <;> omega

theorem dec_body (u : Nat) : ∃ (c : UInt8) (r : List UInt8), decDigits u = c :: r ∧ digitB c = true := by
  rw [dec_low]; exact low_head _ u (Lib.nDigits_pos u)
theorem amt_dec (u : Nat) (H : List UInt8) : amt13 0 (decDigits u ++ H) = amt13 (u : Int) H := by
  rw [dec_low, amt_low, Nat.mod_eq_of_lt (Lib.lt_pow_nDigits u)]
  congr 1; omega

theorem count_ok {a h : Nat} (h1 : 1 ≤ h) (h4 : h ≤ 4) (ha : a ≤ 9) : countZ a h true = true := by simp [countZ]; omega

theorem read_text {v : Int} {s : Nat} {d : Bool} (hr : rightZ v s d = true) : readL (textL v s d) d = (⟨v, s, d⟩, true) := by
  obtain ⟨⟨p1, p2⟩, ⟨p3, p4⟩, p5⟩ := (rightZ_iff _ _ _).1 hr
  have hs4 : s ≤ 4 := by omega
  have hu : v.natAbs ≤ 999999999 := by omega
  have hbv : boundZ v = true := by simp [boundZ]; omega
  unfold textL
  cases d with
  | false =>
    have s0 : s = 0 := by
      rcases p5 with e | e
      · omega
      · cases e.1
    subst s0
    simp only [Bool.false_eq_true, if_false]
    obtain ⟨c, r, e, hd⟩ := dec_body v.natAbs
    have h9 : (decDigits v.natAbs).length ≤ 9 := by rw [Lib.decDigits_length]; exact nDigits_le 9 _ (by omega) (by omega)
    have h1 : 1 ≤ (decDigits v.natAbs).length := by rw [Lib.decDigits_length]; exact Lib.nDigits_pos _
    have hdots := low_nodot (nDigits v.natAbs) v.natAbs []
    rw [← dec_low, List.append_nil] at hdots
    have hamt := amt_dec v.natAbs []
    rw [List.append_nil] at hamt
    rw [e, read_sign v c r false hd, ← e]
    have ha : dotAhead (decDigits v.natAbs) = decDigits v.natAbs := by rw [hdots.1]; simp [dotAhead]
    have hb : dotBehind (decDigits v.natAbs) = [] := by rw [hdots.2.1]; rfl
    have hc : hasDot (decDigits v.natAbs) = false := by rw [hdots.2.2]; rfl
    rw [readB_made (by rw [hc]; rfl) (by rw [ha, hb]; simp [countZ]; omega) (by rw [ha, hb, List.append_nil, hamt]; rfl), ha, hb, List.append_nil, hamt]
    show madeL ((if v < 0 then -1 else 1) * (v.natAbs : Int)) 0 false = _
    rw [sign_abs, madeL_yes _ _ _ (by rw [cut_small _ _ (by omega)]; exact hbv), cut_small _ _ (by omega)]
    rfl
  | true =>
    simp only [if_true]
    unfold decimalL
    obtain ⟨c, r, e, hd⟩ := dec_body (v.natAbs / 10 ^ s)
    have hq : v.natAbs / 10 ^ s ≤ 999999999 := Nat.le_trans (Nat.div_le_self _ _) hu
    have h9 : (decDigits (v.natAbs / 10 ^ s)).length ≤ 9 := by rw [Lib.decDigits_length]; exact nDigits_le 9 _ (by omega) (by omega)
    obtain ⟨H, hH⟩ : ∃ H, (if s = 0 then [48] else lowD s v.natAbs) = H := ⟨_, rfl⟩
    rw [hH]
    have hHl : 1 ≤ H.length ∧ H.length ≤ 4 := by
      rw [← hH]
      split
      · simp
      · rw [lowD_length]; omega
    have hdots := low_nodot (nDigits (v.natAbs / 10 ^ s)) (v.natAbs / 10 ^ s) (46 :: H)
    rw [← dec_low] at hdots
    rw [e, List.cons_append, read_sign v c _ true hd, ← List.cons_append, ← e]
    have ha : dotAhead (decDigits (v.natAbs / 10 ^ s) ++ 46 :: H) = decDigits (v.natAbs / 10 ^ s) := by rw [hdots.1]; simp [dotAhead]
    have hb : dotBehind (decDigits (v.natAbs / 10 ^ s) ++ 46 :: H) = H := by rw [hdots.2.1]; simp [dotBehind]
    have hc : hasDot (decDigits (v.natAbs / 10 ^ s) ++ 46 :: H) = true := by rw [hdots.2.2]; simp [hasDot]
    by_cases h0 : s = 0
    · subst h0
      rw [if_pos rfl] at hH
      subst hH
      have hamt : amt13 0 (decDigits (v.natAbs / 10 ^ 0) ++ [48]) = ((v.natAbs : Int) * 10, true) := by
        rw [amt_dec, Nat.pow_zero, Nat.div_one]
        show amt13 _ (48 :: []) = _
        rw [amt13, if_pos (by decide)]
        show ((v.natAbs : Int) * 10 + (((48 : UInt8).toNat : Int) - 48), true) = _
        rw [show (((48 : UInt8).toNat : Int) - 48) = 0 from rfl, Int.add_zero]
      have hcut : cutZ (v * 10) 1 = (v, 0) := by
        rw [cut_small _ _ (by omega)]
        have := strip_back 1 0 v (.inl rfl)
        exact this
      rw [readB_made (by rw [hc]; rfl) (by rw [ha, hb]; exact count_ok hHl.1 hHl.2 h9) (by rw [ha, hb, hamt]), ha, hb, hamt]
      show madeL ((if v < 0 then -1 else 1) * ((v.natAbs : Int) * 10)) 1 true = _
      rw [← Int.mul_assoc, sign_abs, madeL_yes _ _ _ (by rw [hcut]; exact hbv), hcut]
    · rw [if_neg h0] at hH
      subst hH
      have hamt : amt13 0 (decDigits (v.natAbs / 10 ^ s) ++ lowD s v.natAbs) = ((v.natAbs : Int), true) := by
        rw [amt_dec]
        have := amt_low s v.natAbs ((v.natAbs / 10 ^ s : Nat) : Int) []
        rw [List.append_nil] at this
        rw [this]
        show (_, true) = _
        rw [ten_pow]
        have e2 : ((v.natAbs / 10 ^ s : Nat) : Int) * ((10 ^ s : Nat) : Int) + ((v.natAbs % 10 ^ s : Nat) : Int) = (v.natAbs : Int) := by
          have := Nat.div_add_mod v.natAbs (10 ^ s)
          rw [← Int.natCast_mul, ← Int.natCast_add, Nat.mul_comm, this]
        rw [e2]
      have hcut : cutZ v s = (v, s) := by
        rw [cut_small _ _ hs4]
        have := strip_back 0 s v (p5.imp (fun h => by omega) fun h => h.2)
        rw [show ten 0 = 1 from rfl, Int.mul_one] at this
        exact this
      rw [readB_made (by rw [hc]; rfl) (by rw [ha, hb]; exact count_ok hHl.1 hHl.2 h9) (by rw [ha, hb, hamt]), ha, hb, hamt, lowD_length]
      show madeL ((if v < 0 then -1 else 1) * (v.natAbs : Int)) s true = _
      rw [sign_abs, madeL_yes _ _ _ (by rw [hcut]; exact hbv), hcut]

theorem amt_lt {A : List UInt8} (h : (amt13 0 A).2 = true) : 0 ≤ (amt13 0 A).1 ∧ (amt13 0 A).1 < ten A.length := by
  have := amt13_bound A 0 0 (by omega) (by decide) h
  rw [Nat.zero_add] at this
  exact this
theorem lens (l : List UInt8) : (unsigned l).length + (if signOf l = -1 then 1 else 0) ≤ l.length ∧ (dotAhead (unsigned l)).length + (dotBehind (unsigned l)).length + (if hasDot (unsigned l) = true then 1 else 0) ≤ (unsigned l).length := by
  constructor
  · match l with
    | [] => simp [unsigned, signOf]
    | c :: r =>
      by_cases h1 : c = 45
      · simp [unsigned, signOf, h1]
      · by_cases h2 : c = 43
        · simp [unsigned, signOf, h2]
        · simp [unsigned, signOf, h1, h2]
  · generalize unsigned l = b
    induction b with
    | nil => simp [dotAhead, dotBehind, hasDot]
    | cons c r ih =>
      by_cases h : c = 46
      · simp [dotAhead, dotBehind, hasDot, h]
      · simp only [dotAhead, dotBehind, hasDot, if_neg h, List.length_cons]; omega

theorem readB_none {b : List UInt8} {sg : Int} {dec : Bool} (h : (readB b sg dec).2 = false) : readB b sg dec = (noNum, false) := by
  unfold readB at h ⊢
  split at h
  · rename_i k; rw [if_pos k]
  · rename_i k
    rw [if_neg k]
    split at h
    · rename_i k; rw [if_pos k]
    · rename_i k
      rw [if_neg k]
      split at h
      · rename_i k; rw [if_pos k]
      · rename_i k; rw [if_neg k]; exact madeL_false h

/- of a number that was read -/
theorem read_right {l : List UInt8} {dec : Bool} (h : (readL l dec).2 = true) :
    ∃ (y : Int) (j : Nat), readL l dec = (⟨y, j, dec⟩, true) ∧ rightZ y j dec = true ∧ (textL y j dec).length ≤ l.length + 2 := by
  obtain ⟨hl1, hl2⟩ := lens l
  have hsg := sign_one l
  unfold readL at h ⊢
  generalize unsigned l = b at h hl1 hl2 ⊢
  generalize signOf l = sg at h hl1 hsg ⊢
  have hst : (hasDot b != dec) = false := by
    cases e : (hasDot b != dec)
    · rfl
    · rw [readB_dot e] at h; cases h
  have hct : countZ (dotAhead b).length (dotBehind b).length dec = true := by
    cases e : countZ (dotAhead b).length (dotBehind b).length dec
    · rw [readB_count hst e] at h; cases h
    · rfl
  have hok : (amt13 0 (dotAhead b ++ dotBehind b)).2 = true := by
    cases e : (amt13 0 (dotAhead b ++ dotBehind b)).2
    · rw [readB_amt hst hct e] at h; cases h
    · rfl
  have hVb := amt_lt hok
  rw [readB_made hst hct hok] at h ⊢
  have hk4 := behind_4 hst hct
  generalize amt13 0 (dotAhead b ++ dotBehind b) = VV at h hVb hok ⊢
  obtain ⟨V0, ok⟩ := VV
  simp only at hok h hVb ⊢
  obtain ⟨V, rfl⟩ := Int.eq_ofNat_of_zero_le hVb.1
  have hbd : boundZ (cutZ (sg * (V : Int)) (dotBehind b).length).1 = true := by
    cases e : boundZ (cutZ (sg * (V : Int)) (dotBehind b).length).1
    · rw [madeL_no _ _ _ e] at h; cases h
    · rfl
  rw [madeL_yes _ _ _ hbd]
  rw [cut_small _ _ hk4] at hbd ⊢
  have hj := strip_le (dotBehind b).length (sg * (V : Int))
  have hend := strip_end (dotBehind b).length (sg * (V : Int))
  have ham := strip_amt (dotBehind b).length (sg * (V : Int)) hk4
  have hdot : hasDot b = dec := by
    revert hst
    cases hasDot b <;> cases dec <;> simp
  have hnd : dec = false → (dotBehind b).length = 0 := by
    intro e
    rcases dot_cases b with ⟨k, _⟩ | ⟨_, _, _, k⟩
    · rw [hdot, e] at k; cases k
    · rw [k]; rfl
  have hV : V < 10 ^ ((dotAhead b).length + (dotBehind b).length) := by
    have := hVb.2
    rw [List.length_append, ten_pow] at this
    exact Int.ofNat_lt.1 this
  unfold countZ at hct
  simp only [Bool.and_eq_true, decide_eq_true_eq] at hct
  rw [hdot] at hl2
  generalize (dotAhead b).length = na at hct hl2 hV
  generalize (dotBehind b).length = nh at hct hl2 hV hk4 hbd hj hend ham hnd ⊢
  generalize strip nh (sg * (V : Int)) = q at hbd hj hend ham ⊢
  obtain ⟨y, j⟩ := q
  simp only at hbd hj hend ham ⊢
  have hby : -999999999 ≤ y ∧ y ≤ 999999999 := by simpa [boundZ] using hbd
  refine ⟨y, j, rfl, ?_, ?_⟩
  · rw [rightZ_iff]
    refine ⟨hby, ⟨by omega, by omega⟩, ?_⟩
    rcases hend with e | e
    · left; omega
    · cases dec with
      | true => exact .inr ⟨rfl, e⟩
      | false => left; have := hnd rfl; omega
  · -- the amounts, without signs
    have hua : y.natAbs * 10 ^ (nh - j) = V := by
      have h1 : (y * ten (4 - j)).natAbs = (sg * (V : Int) * ten (4 - nh)).natAbs := by rw [ham]
      rw [ten_pow, ten_pow, Int.natAbs_mul, Int.natAbs_mul, Int.natAbs_mul, Int.natAbs_natCast, Int.natAbs_natCast, Int.natAbs_natCast] at h1
      have h2 : sg.natAbs = 1 := by rcases hsg with e | e <;> rw [e] <;> rfl
      rw [h2, Nat.one_mul, show 4 - j = (nh - j) + (4 - nh) by omega, Nat.pow_add, ← Nat.mul_assoc] at h1
      exact Nat.eq_of_mul_eq_mul_right (Nat.pow_pos (by omega)) h1
    have hneg : y < 0 → sg = -1 := by
      intro hy
      rcases hsg with e | e
      · exfalso
        rw [e, Int.one_mul] at ham
        have t1 := ten_pos (4 - j)
        have t2 := ten_pos (4 - nh)
        have : 0 ≤ (V : Int) * ten (4 - nh) := Int.mul_nonneg (by omega) (by omega)
        have : y * ten (4 - j) < 0 := Int.mul_neg_of_neg_of_pos hy (by omega)
        omega
      · exact e
    have hsl : (if y < 0 then [45] else ([] : List UInt8)).length ≤ if sg = -1 then 1 else 0 := by
      by_cases hy : y < 0
      · rw [if_pos hy, if_pos (hneg hy)]; simp
      · rw [if_neg hy]; simp
    have hq : y.natAbs / 10 ^ j < 10 ^ na := by
      have e1 : y.natAbs / 10 ^ j = V / 10 ^ nh := by
        have e2 : 10 ^ nh = 10 ^ j * 10 ^ (nh - j) := by rw [← Nat.pow_add]; congr 1; omega
        rw [← hua, e2, Nat.mul_div_mul_right _ _ (Nat.pow_pos (by omega))]
      rw [e1, Nat.div_lt_iff_lt_mul (Nat.pow_pos (by omega)), ← Nat.pow_add]
      exact hV
    have hnq : nDigits (y.natAbs / 10 ^ j) ≤ na + 1 := by
      by_cases h0 : na = 0
      · subst h0
        have : y.natAbs / 10 ^ j = 0 := by simpa using hq
        rw [this, Lib.nDigits_small (by omega)]; omega
      · have := nDigits_le na _ (by omega) hq; omega
    unfold textL
    rw [List.length_append]
    cases dec with
    | false =>
      have h0 := hnd rfl
      have hj0 : j = 0 := by omega
      subst hj0
      simp only [Nat.pow_zero, Nat.div_one] at hnq
      simp only [Bool.false_eq_true, if_false]
      rw [Lib.decDigits_length]
      simp only [Bool.false_eq_true, if_false] at hl2
      omega
    | true =>
      simp only [if_true] at hl2 hct ⊢
      unfold decimalL
      rw [List.length_append, List.length_cons, Lib.decDigits_length]
      have h14 : 1 ≤ nh := by
        have := hct.2
        simp at this
        omega
      by_cases hj0 : j = 0
      · rw [if_pos hj0]
        simp only [List.length_singleton]
        omega
      · rw [if_neg hj0, lowD_length]
        omega

end Go.Proofs.YtdnfaoanaehjhaaGreatDoor.Nm

/- What the statements say of groups, in plain words: ends, counts, whatever the order of rows. -/
namespace Go.Proofs.YtdnfaoanaehjhaaGreatDoor

/- the first one and the last one -/
def endsB (last : Bool) (l : List TermL) (m : TermL) : Prop := m ∈ l ∧ ∀ x ∈ l, if last = true then valP x m ≤ 0 else valP m x ≤ 0
theorem end_is (last : Bool) (l : List TermL) (h : l ≠ []) : endsB last l (endT last l) := by
  revert h
  refine snoc_ind (P := fun l => l ≠ [] → endsB last l (endT last l)) (fun h => absurd rfl h) (fun r t ih _ => ?_) l
  by_cases hr : r = []
  · subst hr
    refine ⟨List.mem_singleton.2 rfl, fun x hx => ?_⟩
    have e : x = t := List.mem_singleton.1 hx
    subst e
    show if last = true then valP x x ≤ 0 else valP x x ≤ 0
    rw [valP_self]; split <;> omega
  · obtain ⟨h1, h2⟩ := ih hr
    rw [end_snoc last r t hr]
    generalize endT last r = m at h1 h2
    have ha := valP_anti t m
    unfold endP
    by_cases c : (if last = true then 0 < valP t m else valP t m < 0)
    · rw [if_pos c]
      refine ⟨List.mem_append_right _ (List.mem_singleton.2 rfl), fun x hx => ?_⟩
      rcases List.mem_append.1 hx with hx | hx
      · have := h2 x hx
        cases last
        · simp only [Bool.false_eq_true, if_false] at *
          exact valP_trans _ _ _ (by omega) this
        · simp only [if_true] at *
          exact valP_trans _ _ _ this (by omega)
      · have e : x = t := List.mem_singleton.1 hx
        subst e
        rw [valP_self]; split <;> omega
    · rw [if_neg c]
      refine ⟨List.mem_append_left _ h1, fun x hx => ?_⟩
      rcases List.mem_append.1 hx with hx | hx
      · exact h2 x hx
      · have e : x = t := List.mem_singleton.1 hx
        subst e
        cases last
        · simp only [Bool.false_eq_true, if_false] at *; omega
        · simp only [if_true] at *; omega
theorem ends_one {last : Bool} {l : List TermL} {m u : TermL} (h : endsB last l m) (k : endsB last l u) : m = u := by
  have h1 := h.2 u k.1
  have h2 := k.2 m h.1
  have ha := valP_anti m u
  refine (valP_zero m u).1 ?_
  cases last
  · simp only [Bool.false_eq_true, if_false] at *; omega
  · simp only [if_true] at *; omega
theorem end_perm (last : Bool) {l r : List TermL} (h : l.Perm r) : endT last l = endT last r := by
  by_cases c : r = []
  · subst c
    rw [h.eq_nil]
  · have hl : l ≠ [] := fun e => c (by rw [e] at h; exact h.symm.eq_nil)
    obtain ⟨h1, h2⟩ := end_is last l hl
    exact ends_one (l := r) ⟨h.mem_iff.1 h1, fun x hx => h2 x (h.mem_iff.2 hx)⟩ (end_is last r c)
theorem bound_perm {V : List (List UInt8)} {R S : List RowL} (h : R.Perm S) (x : List UInt8) : (boundC V R x).Perm (boundC V S x) := (h.map _).filter _
theorem comes_perm {V : List (List UInt8)} {R S : List RowL} (h : R.Perm S) {a : AggL} (ha : a.k ≠ 2) : comesP V R a = comesP V S a := by
  unfold comesP
  rw [if_neg ha, if_neg ha, h.length_eq, (bound_perm h a.o).length_eq, end_perm _ (bound_perm h a.o)]

/- each group's key -/
theorem group_key {V B : List (List UInt8)} {R : List RowL} {d : RowL} (hd : d ∈ R.map (keyP V B)) : keyP V B ((R.filter fun r => decide (keyP V B r = d)).headD []) = d := by
  obtain ⟨r, hr, e⟩ := List.mem_map.1 hd
  have hm : r ∈ R.filter fun r => decide (keyP V B r = d) := List.mem_filter.2 ⟨hr, by simpa using e⟩
  cases hq : R.filter fun r => decide (keyP V B r = d) with
  | nil => rw [hq] at hm; exact absurd hm List.not_mem_nil
  | cons y l =>
    have hy : y ∈ R.filter fun r => decide (keyP V B r = d) := by rw [hq]; exact List.mem_cons_self
    have := (List.mem_filter.1 hy).2
    simpa using this
theorem group_is {V B : List (List UInt8)} (L : List AggL) (R : List RowL) (hB : B ≠ []) : groupP V B L R = (distP (R.map (keyP V B))).map fun d => d ++ L.map (comesP V (R.filter fun r => decide (keyP V B r = d))) := by
  unfold groupP groupsP gatherP
  rw [if_neg hB, List.map_map]
  refine List.map_congr_left (fun d hd => ?_)
  show lineP V B L _ = _
  unfold lineP
  rw [group_key ((dist_mem _ _).1 hd)]
theorem group_none (V : List (List UInt8)) (L : List AggL) (R : List RowL) : groupP V [] L R = [L.map (comesP V R)] := by
  unfold groupP groupsP lineP keyP
  simp
/- rows in another order: the same groups -/
theorem dist_perm {K M : List RowL} (h : K.Perm M) : (distP K).Perm (distP M) := by
  rw [List.perm_ext_iff_of_nodup (dist_nodup K) (dist_nodup M)]
  intro x
  rw [dist_mem, dist_mem]
  exact h.mem_iff
theorem group_perm {V B : List (List UInt8)} {L : List AggL} {R S : List RowL} (h : R.Perm S) (hL : ∀ a ∈ L, a.k ≠ 2) : (groupP V B L R).Perm (groupP V B L S) := by
  by_cases hB : B = []
  · subst hB
    rw [group_none, group_none]
    have : L.map (comesP V R) = L.map (comesP V S) := List.map_congr_left fun a ha => comes_perm h (hL a ha)
    rw [this]
  · rw [group_is L R hB, group_is L S hB]
    have hc : ∀ d, L.map (comesP V (R.filter fun r => decide (keyP V B r = d))) = L.map (comesP V (S.filter fun r => decide (keyP V B r = d))) := fun d => List.map_congr_left fun a ha => comes_perm (h.filter _) (hL a ha)
    simp only [hc]
    exact (dist_perm (h.map _)).map _

/- how many rows all groups have -/
theorem filter_sum (f : RowL → RowL) : ∀ (D : List RowL), D.Nodup → ∀ R : List RowL, (∀ r ∈ R, f r ∈ D) → ((D.map fun d => (R.filter fun r => decide (f r = d)).length).sum) = R.length := by
  intro D hn R
  induction R with
  | nil =>
    intro _
    have : ∀ E : List RowL, (E.map fun d => ((([] : List RowL)).filter fun r => decide (f r = d)).length).sum = 0 := fun E => by
      induction E with
      | nil => rfl
      | cons d E ihE => rw [List.map_cons, List.sum_cons, ihE]; rfl
    exact this D
  | cons x R ih =>
    intro h
    have ih' := ih fun r hr => h r (List.mem_cons_of_mem _ hr)
    have hx := h x List.mem_cons_self
    have e : ∀ d, ((x :: R).filter fun r => decide (f r = d)).length = (if f x = d then 1 else 0) + (R.filter fun r => decide (f r = d)).length := fun d => by
      rw [List.filter_cons]
      by_cases c : f x = d
      · simp [c]; omega
      · simp [c]
    have one : ∀ E : List RowL, E.Nodup → (E.map fun d => if f x = d then 1 else 0).sum = if f x ∈ E then 1 else 0 := by
      intro E
      induction E with
      | nil => intro _; simp
      | cons d E ihE =>
        intro hE
        obtain ⟨h1, h2⟩ := List.nodup_cons.1 hE
        rw [List.map_cons, List.sum_cons, ihE h2]
        by_cases c : f x = d
        · subst c; simp [h1]
        · simp [c]
    have add : ∀ E : List RowL, (E.map fun d => ((x :: R).filter fun r => decide (f r = d)).length).sum = (E.map fun d => if f x = d then 1 else 0).sum + (E.map fun d => (R.filter fun r => decide (f r = d)).length).sum := by
      intro E
      induction E with
      | nil => rfl
      | cons d E ihE =>
        rw [List.map_cons, List.sum_cons, ihE, List.map_cons, List.sum_cons, List.map_cons, List.sum_cons, e d]
        omega
    rw [add, one D hn, if_pos hx, ih', List.length_cons]
    omega
theorem gather_sum (f : RowL → RowL) (R : List RowL) : ((gatherP f R).map List.length).sum = R.length := by
  unfold gatherP
  rw [List.map_map]
  exact filter_sum f _ (dist_nodup _) R fun r hr => (dist_mem _ _).2 (List.mem_map.2 ⟨r, hr, rfl⟩)
theorem groups_sum (V B : List (List UInt8)) (R : List RowL) : ((groupsP V B R).map List.length).sum = R.length := by
  unfold groupsP
  split
  · simp
  · exact gather_sum _ R
theorem gather_pos {f : RowL → RowL} {R : List RowL} {G : List RowL} (h : G ∈ gatherP f R) : 0 < G.length := by
  unfold gatherP at h
  obtain ⟨d, hd, rfl⟩ := List.mem_map.1 h
  obtain ⟨r, hr, e⟩ := List.mem_map.1 ((dist_mem _ _).1 hd)
  exact List.length_pos_of_mem (List.mem_filter.2 ⟨hr, by simpa using e⟩)
theorem gather_sub {f : RowL → RowL} {R : List RowL} {G : List RowL} (h : G ∈ gatherP f R) : ∀ r ∈ G, r ∈ R := by
  unfold gatherP at h
  obtain ⟨d, hd, rfl⟩ := List.mem_map.1 h
  exact fun r hr => (List.mem_filter.1 hr).1
theorem groups_sub {V B : List (List UInt8)} {R : List RowL} {G : List RowL} (h : G ∈ groupsP V B R) : (∀ r ∈ G, r ∈ R) ∧ (B ≠ [] → 0 < G.length) ∧ G.length ≤ R.length := by
  unfold groupsP at h
  split at h
  · rename_i e
    rw [List.mem_singleton] at h
    subst h
    exact ⟨fun r hr => hr, fun c => absurd e c, Nat.le_refl _⟩
  · refine ⟨gather_sub h, fun _ => gather_pos h, ?_⟩
    unfold gatherP at h
    obtain ⟨d, hd, rfl⟩ := List.mem_map.1 h
    exact List.length_filter_le _ _
theorem groups_len (V B : List (List UInt8)) (R : List RowL) (h : R.length ≤ 4096) : (groupsP V B R).length ≤ 4096 := by
  unfold groupsP
  split
  · rw [List.length_singleton]; omega
  · exact Nat.le_trans (gather_le _ R) h
theorem of_count {n : Nat} (h : n ≤ 999999999) : ofP (countT n) = (⟨n, 0, false⟩, true) := by
  have hr : Nm.rightZ n (0 : Nat) false = true := (Nm.rightZ_iff _ _ _).2 ⟨⟨by omega, by omega⟩, ⟨by omega, by omega⟩, .inl rfl⟩
  have := Nm.read_text hr
  have e : Nm.textL n 0 false = Lib.decDigits n := by
    unfold Nm.textL
    simp
  rw [e] at this
  unfold ofP countT
  rw [if_pos ⟨rfl, rfl⟩, if_pos rfl]
  exact this

end Go.Proofs.YtdnfaoanaehjhaaGreatDoor
