/- What was taken off and is added again is there: numbers cut down keep their amount (no program). -/
import Derived.Test.YtdoagbengfdcgaaDoorNumCmp
namespace Go.Proofs.YtdoagbengfdcgaaDoor

theorem decOf_comm (d d' : Bool) : decOf d d' = decOf d' d := Bool.or_comm d d'

theorem tdiv_mul_tmod (x : Int) (h : x.tmod 10 = 0) : x.tdiv 10 * 10 = x := by
  have := Int.mul_tdiv_add_tmod x 10
  omega
/- what is left when noughts are left out has the same amount -/
theorem strip_amt (k : Nat) : ∀ x : Int, k ≤ 4 → (strip k x).1 * ten (4 - (strip k x).2) = x * ten (4 - k) := by
  induction k with
  | zero => intro x _; rfl
  | succ k ih =>
    intro x hk
    by_cases h : x.tmod 10 = 0
    · rw [strip_yes k x h, ih (x.tdiv 10) (by omega)]
      have e := tdiv_mul_tmod x h
      have e4 : ten (4 - k) = 10 * ten (4 - (k + 1)) := by
        rw [show 4 - k = (4 - (k + 1)) + 1 by omega]; rfl
      rw [e4, ← Int.mul_assoc, e]
    · rw [strip_no k x h]
/- where it stops -/
theorem strip_end (k : Nat) : ∀ x : Int, (strip k x).2 = 0 ∨ (strip k x).1.tmod 10 ≠ 0 := by
  induction k with
  | zero => intro x; left; rfl
  | succ k ih =>
    intro x
    by_cases h : x.tmod 10 = 0
    · rw [strip_yes k x h]; exact ih _
    · rw [strip_no k x h]; right; exact h
/- noughts that were laid behind are left out again -/
theorem strip_back (j : Nat) : ∀ (k : Nat) (x : Int), (k = 0 ∨ x.tmod 10 ≠ 0) → strip (k + j) (x * ten j) = (x, k) := by
  induction j with
  | zero =>
    intro k x h
    rw [show ten 0 = 1 from rfl, Int.mul_one]
    rcases h with rfl | h
    · rfl
    · cases k with
      | zero => rfl
      | succ k => exact strip_no k x h
  | succ j ih =>
    intro k x h
    have e : x * ten (j + 1) = x * ten j * 10 := by show x * (10 * ten j) = _; rw [Int.mul_comm 10, Int.mul_assoc]
    rw [e, ← Nat.add_assoc, strip_yes _ _ (Int.mul_tmod_left _ _), Int.mul_tdiv_cancel _ (by omega)]
    exact ih k x h

theorem cut4 (x : Int) : cutZ x 4 = strip 4 x := by unfold cutZ; simp [ten]
theorem cut_amt (v : Int) (s : Nat) (hs : s ≤ 4) (h : s = 0 ∨ v.tmod 10 ≠ 0) : cutZ (amt v s) 4 = (v, s) := by
  rw [cut4]
  unfold amt
  have := strip_back (4 - s) s v h
  rw [show s + (4 - s) = 4 by omega] at this
  exact this
theorem cut_whole (x : Int) : ∀ y : Int, x = y * 10000 → (cutZ x 4).2 = 0 := by
  intro y h
  rw [cut4, h]
  have := strip_back 4 0 y (.inl rfl)
  rw [show ten 4 = 10000 from rfl] at this
  rw [show (4 : Nat) = 0 + 4 from rfl, this]

/- a difference is right, and its amount is the difference -/
theorem made_diff {v : Int} {s : Nat} {d : Bool} {v' : Int} {s' : Nat} {d' : Bool} (hr : rightZ v s d = true) (hr' : rightZ v' s' d' = true) (h : (madeL (amt v s - amt v' s') 4 (decOf d d')).2 = true) :
    ∃ (y : Int) (j : Nat), madeL (amt v s - amt v' s') 4 (decOf d d') = (⟨y, j, decOf d d'⟩, true) ∧ rightZ y j (decOf d d') = true ∧ j ≤ 4 ∧ -999999999 ≤ y ∧ y ≤ 999999999 ∧ amt y j = amt v s - amt v' s' := by
  obtain ⟨⟨p1, p2⟩, ⟨p3, p4⟩, p5⟩ := (rightZ_iff _ _ _).1 hr
  obtain ⟨⟨q1, q2⟩, ⟨q3, q4⟩, q5⟩ := (rightZ_iff _ _ _).1 hr'
  obtain ⟨X, hX⟩ : ∃ X, amt v s - amt v' s' = X := ⟨_, rfl⟩
  rw [hX] at h ⊢
  have hb : boundZ (cutZ X 4).1 = true := by
    cases e : boundZ (cutZ X 4).1
    · rw [madeL_no _ _ _ e] at h; cases h
    · rfl
  have hb' : -999999999 ≤ (cutZ X 4).1 ∧ (cutZ X 4).1 ≤ 999999999 := by simpa [boundZ] using hb
  have hj := cut_le X 4
  refine ⟨(cutZ X 4).1, (cutZ X 4).2, madeL_yes _ _ _ hb, ?_, hj, hb'.1, hb'.2, ?_⟩
  · rw [rightZ_iff]
    refine ⟨hb', ⟨by omega, by omega⟩, ?_⟩
    have he := strip_end 4 X
    rw [← cut4] at he
    rcases he with he | he
    · left; omega
    · cases hd : decOf d d' with
      | true => exact .inr ⟨rfl, he⟩
      | false =>
        left
        have hd0 : d = false ∧ d' = false := by cases d <;> cases d' <;> simp [decOf] at hd <;> simp
        have s0 : s = 0 := by
          rcases p5 with e | e
          · omega
          · rw [hd0.1] at e; cases e.1
        have s0' : s' = 0 := by
          rcases q5 with e | e
          · omega
          · rw [hd0.2] at e; cases e.1
        have e : X = (v - v') * 10000 := by
          rw [← hX, s0, s0']
          show v * 10000 - v' * 10000 = _
          omega
        have := cut_whole X _ e
        omega
  · have := strip_amt 4 X (by omega)
    rw [← cut4] at this
    unfold amt
    rw [this, show ten (4 - 4) = 1 from rfl, Int.mul_one]

/- what was taken off and is added again -/
theorem made_back {v : Int} {s : Nat} {d : Bool} {y : Int} {j : Nat} {v' : Int} {s' : Nat} {d' : Bool} (hr : rightZ v s d = true) (h : amt y j = amt v s - amt v' s') :
    madeL (amt y j + amt v' s') 4 (decOf (decOf d d') d') = (⟨v, s, decOf d d'⟩, true) := by
  obtain ⟨⟨p1, p2⟩, ⟨p3, p4⟩, p5⟩ := (rightZ_iff _ _ _).1 hr
  rw [show amt y j + amt v' s' = amt v s by omega]
  have hc : cutZ (amt v s) 4 = (v, s) := cut_amt v s (by omega) (p5.imp (fun h => by omega) fun h => h.2)
  have hb : boundZ (cutZ (amt v s) 4).1 = true := by rw [hc]; simp [boundZ]; omega
  rw [madeL_yes _ _ _ hb, hc]
  have e : decOf (decOf d d') d' = decOf d d' := by cases d <;> cases d' <;> rfl
  rw [e]

end Go.Proofs.YtdoagbengfdcgaaDoor
