/- NumReadRef, NumRefCut, NumRefRead, NumRefReadEmpty, put together. -/
import Derived.Test.YtkfemnjblbnclaaGreatDoorGNumB
import Derived.Test.YtkfemnjblbnclaaGreatDoorGNumA

/- The document's own reading of a number, a byte at a time (no program): the same number as package number's. -/
namespace Go.Proofs.YtkfemnjblbnclaaGreatDoor.Nm

def walkR (dec : Bool) : List UInt8 → Nat → Int → Int → Option (Nat × Int × Int)
  | [], n, b, v => some (n, b, v)
  | c :: r, n, b, v =>
    if c = 46 ∧ b < 0 ∧ dec = true then walkR dec r n 0 v
    else if digitB c = false ∨ n = 13 then none
    else walkR dec r (n + 1) (if 0 ≤ b then b + 1 else b) (10 * v + (c.toNat : Int) - 48)

theorem walk_cons (dec : Bool) (c : UInt8) (r : List UInt8) (n : Nat) (b v : Int) : walkR dec (c :: r) n b v = if c = 46 ∧ b < 0 ∧ dec = true then walkR dec r n 0 v else if digitB c = false ∨ n = 13 then none else walkR dec r (n + 1) (if 0 ≤ b then b + 1 else b) (10 * v + (c.toNat : Int) - 48) := rfl
theorem digit_dot : digitB 46 = false := by decide
theorem amt_dot (l : List UInt8) : ∀ a : Int, hasDot l = true → (amt13 a l).2 = false := by
  induction l with
  | nil => intro a h; cases h
  | cons c r ih =>
    intro a h
    unfold amt13
    by_cases hd : digitB c = true
    · rw [if_pos hd]
      have hc : c ≠ 46 := fun e => by rw [e, digit_dot] at hd; cases hd
      exact ih _ (by simpa [hasDot, hc] using h)
    · rw [if_neg hd]
theorem amt_app (A : List UInt8) : ∀ (a : Int) (H : List UInt8), amt13 a (A ++ H) = if (amt13 a A).2 = true then amt13 (amt13 a A).1 H else (0, false) := by
  induction A with
  | nil => intro a H; simp [amt13]
  | cons c r ih =>
    intro a H
    by_cases hd : digitB c = true
    · simp only [List.cons_append, amt13, if_pos hd]; exact ih _ H
    · simp only [List.cons_append, amt13, if_neg hd]; rfl
theorem amt_false (l : List UInt8) : ∀ a : Int, (amt13 a l).2 = false → amt13 a l = (0, false) := by
  induction l with
  | nil => intro a h; cases h
  | cons c r ih =>
    intro a h
    by_cases hd : digitB c = true
    · simp only [amt13, if_pos hd] at h ⊢; exact ih _ h
    · simp only [amt13, if_neg hd]

/- digits to the end -/
theorem walk_digits (dec : Bool) (l : List UInt8) : ∀ (n : Nat) (b v : Int), n ≤ 13 → (0 ≤ b ∨ dec = false ∨ hasDot l = false) →
    walkR dec l n b v = if (amt13 v l).2 = true ∧ n + l.length ≤ 13 then some (n + l.length, (if 0 ≤ b then b + l.length else b), (amt13 v l).1) else none := by
  induction l with
  | nil => intro n b v hn _; simp [walkR, amt13, hn]
  | cons c r ih =>
    intro n b v hn hs
    have h1 : ¬ (c = 46 ∧ b < 0 ∧ dec = true) := by
      rintro ⟨e1, e2, e3⟩
      rcases hs with h | h | h
      · omega
      · rw [e3] at h; cases h
      · simp [hasDot, e1] at h
    unfold walkR
    rw [if_neg h1]
    by_cases hd : digitB c = true
    · have hc : c ≠ 46 := fun e => by rw [e, digit_dot] at hd; cases hd
      have hs' : 0 ≤ (if 0 ≤ b then b + 1 else b) ∨ dec = false ∨ hasDot r = false := by
        rcases hs with h | h | h
        · left; rw [if_pos h]; omega
        · right; left; exact h
        · right; right; simpa [hasDot, hc] using h
      simp only [amt13, if_pos hd]
      by_cases h13 : n = 13
      · rw [if_pos (.inr h13), if_neg (by simp; omega)]
      · rw [if_neg (by rw [hd]; simp [h13]), ih (n + 1) _ _ (by omega) hs', show 10 * v + (c.toNat : Int) - 48 = v * 10 + ((c.toNat : Int) - 48) by omega]
        by_cases hb : 0 ≤ b
        · simp only [hb, if_true, List.length_cons, show 0 ≤ b + 1 by omega]
          have e1 : n + 1 + r.length = n + (r.length + 1) := by omega
          have e2 : b + 1 + (r.length : Int) = b + ((r.length + 1 : Nat) : Int) := by omega
          rw [e1, e2]
        · simp only [hb, if_false, List.length_cons]
          have e1 : n + 1 + r.length = n + (r.length + 1) := by omega
          rw [e1]
    · have hd' : digitB c = false := by simpa using hd
      simp only [amt13, if_neg hd]
      rw [if_pos (.inl hd'), if_neg (by simp)]

/- up to the full stop -/
theorem walk_dot (l : List UInt8) : ∀ (n : Nat) (b v : Int), n ≤ 13 → b < 0 → hasDot l = true →
    walkR true l n b v = if (amt13 v (dotAhead l)).2 = true ∧ n + (dotAhead l).length ≤ 13 then walkR true (dotBehind l) (n + (dotAhead l).length) 0 (amt13 v (dotAhead l)).1 else none := by
  induction l with
  | nil => intro n b v _ _ h; cases h
  | cons c r ih =>
    intro n b v hn hb h
    rw [walk_cons]
    by_cases hc : c = 46
    · rw [if_pos ⟨hc, hb, rfl⟩]
      simp [dotAhead, dotBehind, hc, amt13, hn]
    · have h' : hasDot r = true := by simpa [hasDot, hc] using h
      rw [if_neg (fun e => hc e.1)]
      simp only [dotAhead, dotBehind, if_neg hc, amt13]
      by_cases hd : digitB c = true
      · simp only [if_pos hd]
        by_cases h13 : n = 13
        · rw [if_pos (.inr h13), if_neg (by simp; omega)]
        · rw [if_neg (by rw [hd]; simp [h13]), if_neg (show ¬ 0 ≤ b by omega), ih (n + 1) b _ (by omega) hb h', show 10 * v + (c.toNat : Int) - 48 = v * 10 + ((c.toNat : Int) - 48) by omega]
          simp only [List.length_cons]
          have e1 : n + 1 + (dotAhead r).length = n + ((dotAhead r).length + 1) := by omega
          rw [e1]
      · have hd' : digitB c = false := by simpa using hd
        simp only [if_neg hd]
        rw [if_pos (.inl hd'), if_neg (by simp)]

/- what the document makes of it -/
def endR (dec : Bool) (sg : Int) : Option (Nat × Int × Int) → NumL × Bool
  | none => (noNum, false)
  | some (n, b, v) => if n = 0 ∨ (dec = true ∧ (b < 1 ∨ 4 < b)) then (noNum, false) else madeL (sg * v) (max b 0).toNat dec

theorem ref_read (b : List UInt8) (sg : Int) (dec : Bool) : endR dec sg (walkR dec b 0 (-1) 0) = readB b sg dec := by
  cases dec with
  | false =>
    have hw := walk_digits false b 0 (-1) 0 (by omega) (.inr (.inl rfl))
    rcases dot_cases b with ⟨hd, _⟩ | ⟨hd, _, hA, hH⟩
    · rw [if_neg (by rw [amt_dot b 0 hd]; simp)] at hw
      rw [hw, readB_dot (by rw [hd]; rfl)]
      rfl
    · have hst : (hasDot b != false) = false := by rw [hd]; rfl
      by_cases hok : (amt13 0 b).2 = true
      · by_cases hl : b.length ≤ 13
        · rw [if_pos ⟨hok, by omega⟩, if_neg (show ¬ (0 : Int) ≤ -1 by omega)] at hw
          rw [hw]
          by_cases h0 : b.length = 0
          · rw [readB_count hst (by rw [hA, hH]; simp [countZ, h0])]
            simp [endR, h0]
          · rw [readB_made hst (by rw [hA, hH]; simp [countZ]; omega) (by rw [hA, hH, List.append_nil]; exact hok), hA, hH, List.append_nil]
            unfold endR
            simp only [Nat.zero_add]
            rw [if_neg (by simp; exact fun e => h0 (by rw [e]; rfl))]
            rfl
        · rw [if_neg (by omega)] at hw
          rw [hw, readB_count hst (by rw [hA, hH]; simp [countZ]; omega)]
          rfl
      · have hok' : (amt13 0 b).2 = false := by simpa using hok
        rw [if_neg (by rw [hok']; simp)] at hw
        rw [hw]
        by_cases hc : countZ (dotAhead b).length (dotBehind b).length false = true
        · rw [readB_amt hst hc (by rw [hA, hH, List.append_nil]; exact hok')]
          rfl
        · rw [readB_count hst (by simpa using hc)]
          rfl
  | true =>
    rcases dot_cases b with ⟨hd, _⟩ | ⟨hd, _, hA, hH⟩
    · have hst : (hasDot b != true) = false := by rw [hd]; rfl
      have hw := walk_dot b 0 (-1) 0 (by omega) (by omega) hd
      have ha := amt_app (dotAhead b) 0 (dotBehind b)
      by_cases hok : (amt13 0 (dotAhead b)).2 = true
      · rw [if_pos hok] at ha
        by_cases hl : (dotAhead b).length ≤ 13
        · rw [if_pos ⟨hok, by omega⟩, walk_digits true (dotBehind b) (0 + (dotAhead b).length) 0 _ (by omega) (.inl (by omega)), if_pos (show (0 : Int) ≤ 0 by omega)] at hw
          rw [hw]
          by_cases hok2 : (amt13 (amt13 0 (dotAhead b)).1 (dotBehind b)).2 = true
          · by_cases hl2 : (dotAhead b).length + (dotBehind b).length ≤ 13
            · rw [if_pos ⟨hok2, by omega⟩]
              by_cases h14 : 1 ≤ (dotBehind b).length ∧ (dotBehind b).length ≤ 4
              · rw [readB_made hst (by simp [countZ]; omega) (by rw [ha]; exact hok2), ha]
                unfold endR
                simp only []
                rw [if_neg (by rintro (e | ⟨_, e⟩) <;> omega), show (max (0 + ((dotBehind b).length : Int)) 0).toNat = (dotBehind b).length by omega]
              · rw [readB_count hst (by simp [countZ]; omega)]
                unfold endR
                simp only []
                rw [if_pos (by simp; omega)]
            · rw [if_neg (by omega), readB_count hst (by simp [countZ]; omega)]
              rfl
          · have hok2' : (amt13 (amt13 0 (dotAhead b)).1 (dotBehind b)).2 = false := by simpa using hok2
            rw [if_neg (by rw [hok2']; simp)]
            by_cases hc : countZ (dotAhead b).length (dotBehind b).length true = true
            · rw [readB_amt hst hc (by rw [ha]; exact hok2')]
              rfl
            · rw [readB_count hst (by simpa using hc)]
              rfl
        · rw [if_neg (by omega)] at hw
          rw [hw, readB_count hst (by simp [countZ]; omega)]
          rfl
      · have hok' : (amt13 0 (dotAhead b)).2 = false := by simpa using hok
        rw [if_neg (by rw [hok']; simp)] at hw ha
        rw [hw]
        by_cases hc : countZ (dotAhead b).length (dotBehind b).length true = true
        · rw [readB_amt hst hc (by rw [ha])]
          rfl
        · rw [readB_count hst (by simpa using hc)]
          rfl
    · have hw := walk_digits true b 0 (-1) 0 (by omega) (.inr (.inr hd))
      rw [hw, readB_dot (by rw [hd]; rfl)]
      split
      · unfold endR
        simp only []
        rw [if_pos (.inr ⟨by simp, .inl (by rw [if_neg (by omega)]; omega)⟩)]
      · rfl

end Go.Proofs.YtkfemnjblbnclaaGreatDoor.Nm

/- The document's own answer for a value and a scale cut down: what package number makes of them, for every value and every scale up to 12. -/
namespace Go.Proofs.YtkfemnjblbnclaaGreatDoor.Nm
open Go.RowKit

theorem tdiv_pos (x a b : Int) (hx : 0 ≤ x) (ha : 1 ≤ a) : (x.tdiv a).tdiv b = x.tdiv (a * b) := by
  rw [Int.tdiv_eq_ediv_of_nonneg hx, Int.tdiv_eq_ediv_of_nonneg (Int.ediv_nonneg hx (by omega)), Int.tdiv_eq_ediv_of_nonneg hx, Int.ediv_ediv_of_nonneg (by omega)]
theorem tdiv_twice (x a b : Int) (ha : 1 ≤ a) : (x.tdiv a).tdiv b = x.tdiv (a * b) := by
  rcases Int.le_total 0 x with hx | hx
  · exact tdiv_pos x a b hx ha
  · have h := tdiv_pos (-x) a b (by omega) ha
    rw [Int.neg_tdiv, Int.neg_tdiv, Int.neg_tdiv] at h
    omega
theorem cut_step (x : Int) (k : Nat) : cutZ x (k + 5) = cutZ (x.tdiv 10) (k + 4) := by
  unfold cutZ
  rw [show min (k + 5) 4 = 4 by omega, show min (k + 4) 4 = 4 by omega, show k + 5 - 4 = k + 1 by omega, show k + 4 - 4 = k by omega, tdiv_twice _ _ _ (by omega)]
  rfl
theorem cut_small (x : Int) (k : Nat) (h : k ≤ 4) : cutZ x k = strip k x := by
  unfold cutZ; rw [show min k 4 = k by omega, show k - 4 = 0 by omega]; simp [ten]

set_option maxHeartbeats 1000000 in
theorem rCut_calls (v : Int) (s : Nat) (d : Bool) (w : World) (hs : s ≤ 12) (h1 : -9223372036854775807 ≤ v) (h2 : v ≤ 9223372036854775807) :
    Calls Tryz.prog 85 #[.int .i64 v, .int .i64 s, .bool d] w fun e w' => e = .returned (NumL.ret (madeL v s d)) ∧ Below w.heap.size w w' := by
  have hm1 := madeL_yes v s d
  have hm2 := madeL_no v s d
  obtain ⟨R, hR⟩ : ∃ R, cutZ v s = R := ⟨_, rfl⟩
  rw [hR] at hm1 hm2
  have HR := Lib.hid hR
  have HM1 := Lib.hid hm1
  have HM2 := Lib.hid hm2
  clear hR hm1 hm2
  go_enter Tryz.func85, Tryz.ntmps85
  go_wp2
  go_loop [0, 1] (fun a b => ∃ (x : Int) (k : Nat), k ≤ 12 ∧ -9223372036854775807 ≤ x ∧ x ≤ 9223372036854775807 ∧ a = .int .i64 x ∧ b = .int .i64 k ∧ Hid (cutZ x k = R)) (fun _ b => (intOf b).toNat)
  case atStart => exact ⟨v, s, hs, h1, h2, rfl, rfl, HR⟩
  case round =>
    clear h1 h2
    obtain ⟨x, k, hk, hx1, hx2, rfl, rfl, HX⟩ := hrel
    by_cases h4 : k ≤ 4
    · have HX' := Lib.hid ((cut_small x k h4).symm.trans HX.out)
      clear HX
      go_wp2
      go_loop [0, 1] (fun a b => ∃ (x : Int) (k : Nat), k ≤ 4 ∧ -9223372036854775807 ≤ x ∧ x ≤ 9223372036854775807 ∧ a = .int .i64 x ∧ b = .int .i64 k ∧ Hid (strip k x = R)) (fun _ b => (intOf b).toNat)
      case atStart => exact ⟨x, k, h4, hx1, hx2, rfl, rfl, HX'⟩
      case round =>
        clear hx1 hx2 HX' hk h4
        rename_i x0 k0 _ _
        obtain ⟨x, k, hk, hx1, hx2, rfl, rfl, HX⟩ := hrel
        have hdone : strip k x = (x, k) → R = (x, k) := fun h => HX.out.symm.trans h
        by_cases hgo : 1 ≤ k ∧ x.tmod 10 = 0
        · obtain ⟨hk1, hm⟩ := hgo
          obtain ⟨k, rfl⟩ : ∃ j, k = j + 1 := ⟨k - 1, by omega⟩
          have hq := tdiv_le x 10 (by omega) 9223372036854775807 hx1 hx2
          obtain ⟨q1, q2⟩ := hq
          have g : (x.tmod 10 == 0) = true := beq_iff_eq.2 hm
          have HS := Lib.hid (strip_yes k x hm)
          clear hm hdone
          go_wp2
          go_round
          case rel => exact ⟨x.tdiv 10, k, by omega, q1, q2, rfl, by go_num, Lib.hid (by rw [← HS.out, HX.out])⟩
          case measure => simp [intOf]
        · have hst : R = (x, k) := hdone (by
            cases k with
            | zero => rfl
            | succ k => exact strip_no k x (fun h => hgo ⟨by omega, h⟩))
          have HST := Lib.hid hst
          have hcase : k = 0 ∨ (1 ≤ k ∧ (x.tmod 10 == 0) = false) := by
            by_cases h0 : k = 0
            · exact .inl h0
            · exact .inr ⟨by omega, beq_eq_false_iff_ne.2 fun h => hgo ⟨by omega, h⟩⟩
          clear hgo hst hdone
          rcases bound_cases x with ⟨b, b1, b2⟩ | ⟨b, b1⟩ | ⟨b, b1, b2⟩
          all_goals
            have HB := Lib.hid b
            clear b
            rcases hcase with rfl | ⟨c1, c2⟩
            all_goals try (have c3 : (x % 10 == 0) = false := by rw [← Int.tmod_eq_emod_of_nonneg (by omega)]; exact c2)
            all_goals
              go_wp2
              first
              | (refine bodyPost_ret (v := .tuple #[.agg #[.int .i64 x, .int .i64 0, .bool d], .bool true]) (by simp [results, Tryz.results85, go_sem]; done) rfl ⟨?_, box_below _ _⟩
                 rw [HM1.out (by rw [HST.out]; exact HB.out), HST.out]; rfl)
              | (refine bodyPost_ret (v := .tuple #[.agg #[.int .i64 x, .int .i64 k, .bool d], .bool true]) (by simp [results, Tryz.results85, go_sem]; done) rfl ⟨?_, box_below _ _⟩
                 rw [HM1.out (by rw [HST.out]; exact HB.out), HST.out]; rfl)
              | (refine bodyPost_ret (v := .tuple #[.agg #[.int .i64 0, .int .i64 0, .bool false], .bool false]) (by simp [results, Tryz.results85, go_sem]) rfl ⟨?_, box_below _ _⟩
                 rw [HM2.out (by rw [HST.out]; exact HB.out)]; rfl)
    · obtain ⟨k, rfl⟩ : ∃ j, k = j + 5 := ⟨k - 5, by omega⟩
      have hq := tdiv_le x 10 (by omega) 9223372036854775807 hx1 hx2
      obtain ⟨q1, q2⟩ := hq
      have HS := Lib.hid (cut_step x k)
      go_wp2
      go_round
      case rel => exact ⟨x.tdiv 10, k + 4, by omega, q1, q2, rfl, by go_num, Lib.hid (by rw [← HS.out, HX.out])⟩
      case measure => simp [intOf]; omega

end Go.Proofs.YtkfemnjblbnclaaGreatDoor.Nm

/- The document's own reading of a number's text: what package number's Read comes to, for every text. -/
namespace Go.Proofs.YtkfemnjblbnclaaGreatDoor.Nm
open Go.RowKit

theorem get_list (s : ByteArray) (k : Nat) (h : k < s.size) : (s.data.toList[k]'(by simpa using h)) = s[k]'h := by simp; rfl
theorem walk_get (dec : Bool) (l : List UInt8) (k : Nat) (h : k < l.length) (n : Nat) (b v : Int) : walkR dec (l.drop k) n b v =
    if l[k] = 46 ∧ b < 0 ∧ dec = true then walkR dec (l.drop (k + 1)) n 0 v else if digitB l[k] = false ∨ n = 13 then none else walkR dec (l.drop (k + 1)) (n + 1) (if 0 ≤ b then b + 1 else b) (10 * v + (l[k].toNat : Int) - 48) := by
  rw [List.drop_eq_getElem_cons h, walk_cons]
theorem walk_end (dec : Bool) (l : List UInt8) (k : Nat) (h : l.length ≤ k) (n : Nat) (b v : Int) : walkR dec (l.drop k) n b v = some (n, b, v) := by
  rw [List.drop_eq_nil_of_le h]; rfl
theorem byte_46 (c : UInt8) : c = 46 ↔ (c.toNat : Int) = 46 := by
  constructor
  · intro h; rw [h]; rfl
  · intro h; apply UInt8.toNat_inj.1; show c.toNat = 46; omega

/- how a text begins -/
theorem head_cases (s : ByteArray) : (s.size = 0 ∧ unsigned s.data.toList = s.data.toList.drop 0 ∧ signOf s.data.toList = 1) ∨ ∃ h : 0 < s.size,
    ((((s[0]'h).toNat : Int) = 45 ∧ unsigned s.data.toList = s.data.toList.drop 1 ∧ signOf s.data.toList = -1) ∨
     (((s[0]'h).toNat : Int) = 43 ∧ unsigned s.data.toList = s.data.toList.drop 1 ∧ signOf s.data.toList = 1) ∨
     (((s[0]'h).toNat : Int) ≠ 45 ∧ ((s[0]'h).toNat : Int) ≠ 43 ∧ unsigned s.data.toList = s.data.toList.drop 0 ∧ signOf s.data.toList = 1)) := by
  by_cases h : 0 < s.size
  · right
    refine ⟨h, ?_⟩
    have e := get_list s 0 h
    have hl : s.data.toList = s[0] :: s.data.toList.drop 1 := by
      have := List.drop_eq_getElem_cons (l := s.data.toList) (i := 0) (by simpa using h)
      rw [List.drop_zero, e] at this
      exact this
    generalize s[0] = c at hl
    generalize s.data.toList.drop 1 = r at hl
    rw [hl]
    by_cases h1 : c = 45
    · left; subst h1; exact ⟨rfl, rfl, rfl⟩
    · have n1 : (c.toNat : Int) ≠ 45 := fun k => h1 (UInt8.toNat_inj.1 (by show c.toNat = 45; omega))
      by_cases h2 : c = 43
      · right; left; subst h2; exact ⟨rfl, rfl, rfl⟩
      · have n2 : (c.toNat : Int) ≠ 43 := fun k => h2 (UInt8.toNat_inj.1 (by show c.toNat = 43; omega))
        right; right
        exact ⟨n1, n2, by simp [unsigned, h1, h2], by simp [signOf, h1]⟩
  · left
    have : s.data.toList = [] := List.eq_nil_of_length_eq_zero (by rw [← Lib.size_eq]; omega)
    rw [this]
    exact ⟨by omega, rfl, rfl⟩

def Go45 (s : ByteArray) (sg : Int) : Prop := ∀ h : 0 < s.size, (sg = -1 ∧ (((s[0]'h).toNat : Int) == 45) = true) ∨ (sg = 1 ∧ (((s[0]'h).toNat : Int) == 45) = false)

/- the walk's relation -/
def RR (s : ByteArray) (dec : Bool) (R : Option (Nat × Int × Int)) (k n : Nat) (b v : Int) : Prop := v < ten n ∧ walkR dec (s.data.toList.drop k) n b v = R

theorem rr_dot {s : ByteArray} {R : Option (Nat × Int × Int)} {k n : Nat} {b v : Int} (hk : k < s.size) (h : RR s true R k n b v) (hc : ((s[k]'hk).toNat : Int) = 46) (hb : b < 0) : RR s true R (k + 1) n 0 v := by
  refine ⟨h.1, ?_⟩
  have := h.2
  rw [walk_get true _ k (by simpa using hk), get_list s k hk, if_pos ⟨(byte_46 _).2 hc, hb, rfl⟩] at this
  exact this
theorem rr_none {s : ByteArray} {dec : Bool} {R : Option (Nat × Int × Int)} {k n : Nat} {b v : Int} (hk : k < s.size) (h : RR s dec R k n b v) (hc : (((s[k]'hk).toNat : Int) = 46 → ¬ (b < 0 ∧ dec = true))) (hd : (((s[k]'hk).toNat : Int) < 48 ∨ 57 < ((s[k]'hk).toNat : Int)) ∨ n = 13) : R = none := by
  have := h.2
  rw [walk_get dec _ k (by simpa using hk), get_list s k hk, if_neg (fun e => hc ((byte_46 _).1 e.1) e.2), if_pos (by
    rcases hd with hd | hd
    · left; simp [digitB]; omega
    · exact .inr hd)] at this
  exact this.symm
theorem rr_digit {s : ByteArray} {dec : Bool} {R : Option (Nat × Int × Int)} {k n : Nat} {b v : Int} (hk : k < s.size) (h : RR s dec R k n b v) (h1 : 48 ≤ ((s[k]'hk).toNat : Int)) (h2 : ((s[k]'hk).toNat : Int) ≤ 57) (hn : n < 13) (b' : Int) (hb : b' = if 0 ≤ b then b + 1 else b) :
    RR s dec R (k + 1) (n + 1) b' (10 * v + ((s[k]'hk).toNat : Int) - 48) := by
  obtain ⟨ht, hw⟩ := h
  refine ⟨by have e : ten (n + 1) = 10 * ten n := rfl; omega, ?_⟩
  rw [walk_get dec _ k (by simpa using hk), get_list s k hk, if_neg (fun e => by have := (byte_46 _).1 e.1; omega), if_neg (by
    rintro (e | e)
    · simp [digitB] at e; omega
    · omega), ← hb] at hw
  exact hw
theorem rr_end {s : ByteArray} {dec : Bool} {R : Option (Nat × Int × Int)} {k n : Nat} {b v : Int} (hk : ¬ k < s.size) (h : RR s dec R k n b v) : R = some (n, b, v) := by
  have := h.2
  rw [walk_end dec _ k (by rw [← Lib.size_eq]; omega)] at this
  exact this.symm
theorem rr_small {s : ByteArray} {dec : Bool} {R : Option (Nat × Int × Int)} {k n : Nat} {b v : Int} (h : RR s dec R k n b v) (hn : n ≤ 13) : v < 10000000000000 := by
  have := ten_13 n hn; have := h.1; omega
theorem end_none (dec : Bool) (sg : Int) : endR dec sg none = (noNum, false) := rfl
theorem end_zero (dec : Bool) (sg b v : Int) : endR dec sg (some (0, b, v)) = (noNum, false) := by unfold endR; simp
theorem end_few (sg b v : Int) (n : Nat) (h : b < 1 ∨ 4 < b) : endR true sg (some (n, b, v)) = (noNum, false) := by
  unfold endR; simp only []; rw [if_pos (.inr ⟨by simp, h⟩)]
theorem end_made (dec : Bool) (sg b v : Int) (n : Nat) (hn : n ≠ 0) (h : dec = true → 1 ≤ b ∧ b ≤ 4) : endR dec sg (some (n, b, v)) = madeL (sg * v) (max b 0).toNat dec := by
  unfold endR
  simp only []
  rw [if_neg]
  rintro (e | ⟨e, e'⟩)
  · exact hn e
  · have := h e; omega

end Go.Proofs.YtkfemnjblbnclaaGreatDoor.Nm

/- The document's own reading of a number's text: the texts that begin so (empty). -/
namespace Go.Proofs.YtkfemnjblbnclaaGreatDoor.Nm
open Go.RowKit

set_option maxRecDepth 100000 in
set_option maxHeartbeats 8000000 in
theorem rReadEmpty (s : ByteArray) (dec : Bool) (w : World) (_hs : s.size ≤ maxLen) (R : Option (Nat × Int × Int)) (hR : walkR dec (s.data.toList.drop 0) 0 (-1) 0 = R) (hz : s.size = 0) :
    Calls Tryz.prog 66 #[.string s, .bool dec] w fun e w' => e = .returned (NumL.ret (endR dec (1) R)) ∧ Below w.heap.size w w' := by
  unfold maxLen at _hs
  have HR : Hid (RR s dec R 0 0 (-1) 0) := Lib.hid ⟨by decide, hR⟩
  clear hR
  obtain ⟨P, hP⟩ : ∃ P, endR dec (1) R = P := ⟨_, rfl⟩
  have HP := Lib.hid hP
  rw [hP]
  clear hP
  go_enter Tryz.func66, Tryz.ntmps66
  go_wp2
  go_loop [7, 8, 9, 10] (fun n b v i => ∃ (k m : Nat) (bb vv : Int), n = .int .i64 m ∧ b = .int .i64 bb ∧ v = .int .i64 vv ∧ i = .int .i64 k ∧ k ≤ s.size ∧ m ≤ k ∧ m ≤ 13 ∧ -1 ≤ bb ∧ bb ≤ m ∧ 0 ≤ vv ∧ vv < 10000000000000 ∧ Hid (RR s dec R k m bb vv) ∧ Hid (dec = false → bb < 0)) (fun _ _ _ i => s.size - (intOf i).toNat)
  case atStart => exact ⟨0, 0, -1, 0, rfl, rfl, rfl, rfl, by omega, by omega, by omega, by omega, by omega, by omega, by omega, HR, Lib.hid fun _ => by omega⟩
  case round =>
    clear HR
    obtain ⟨k, m, bb, vv, rfl, rfl, rfl, rfl, hk, hmk, hm, hb1, hb2, hv1, hv2, HL, HF⟩ := hrel
    by_cases hp : k < s.size
    · exfalso; omega
    · have HE0 := Lib.hid (rr_end hp HL.out)
      clear HL
      by_cases hm0 : m = 0
      · have HE := Lib.hid (show P = (noNum, false) from by rw [← HP.out, HE0.out, hm0, end_zero])
        have g3 : ((m : Int) == 0) = true := beq_iff_eq.2 (by omega)
        clear hm0
        go_wp2
        refine bodyPost_ret (v := .tuple #[.agg #[.int .i64 0, .int .i64 0, .bool false], .bool false]) (by simp [results, Tryz.results66, go_sem]) rfl ⟨by rw [HE.out]; rfl, ?_⟩
        exact box_below _ _
      · exfalso; omega

end Go.Proofs.YtkfemnjblbnclaaGreatDoor.Nm
