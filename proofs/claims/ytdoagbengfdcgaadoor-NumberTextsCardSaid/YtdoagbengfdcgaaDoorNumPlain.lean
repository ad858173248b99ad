/- Plain words on numbers (no program): a number, which ones are right, how a value is cut down, what is reckoned. -/
import Derived.WalkKit
namespace Go.Proofs.YtdoagbengfdcgaaDoor

theorem ret_bool {a b : Bool} (h : a = b) : Ending.returned (.bool a) = .returned (.bool b) := by rw [h]
theorem ret_int {k : IntKind} {a b : Int} (h : a = b) : Ending.returned (.int k a) = .returned (.int k b) := by rw [h]

structure NumL where
  v : Int
  s : Int
  d : Bool
def NumL.val (n : NumL) : Value := .agg #[.int .i64 n.v, .int .i64 n.s, .bool n.d]
def noNum : NumL := ⟨0, 0, false⟩

def boundZ (v : Int) : Bool := decide (-999999999 ≤ v ∧ v ≤ 999999999)
def rightZ (v s : Int) (d : Bool) : Bool := boundZ v && decide (0 ≤ s ∧ s ≤ 4) && (decide (s = 0) || (d && !decide (v.tmod 10 = 0)))

theorem rightZ_iff (v s : Int) (d : Bool) : rightZ v s d = true ↔ (-999999999 ≤ v ∧ v ≤ 999999999) ∧ (0 ≤ s ∧ s ≤ 4) ∧ (s = 0 ∨ (d = true ∧ v.tmod 10 ≠ 0)) := by
  simp [rightZ, boundZ]
  constructor
  · rintro ⟨⟨⟨a, b⟩, c, e⟩, f⟩; exact ⟨⟨a, b⟩, ⟨c, e⟩, f⟩
  · rintro ⟨⟨a, b⟩, ⟨c, e⟩, f⟩; exact ⟨⟨⟨a, b⟩, c, e⟩, f⟩

/- 10 to so many -/
def ten : Nat → Int
  | 0 => 1
  | k + 1 => 10 * ten k

/- noughts behind are left out, as long as there are places -/
def strip : Nat → Int → Int × Nat
  | 0, v => (v, 0)
  | k + 1, v => if v.tmod 10 = 0 then strip k (v.tdiv 10) else (v, k + 1)

/- a value and a scale cut down -/
def cutZ (v : Int) (s : Nat) : Int × Nat := strip (min s 4) (v.tdiv (ten (s - 4)))

def madeL (v : Int) (s : Nat) (d : Bool) : NumL × Bool :=
  if boundZ (cutZ v s).1 then (⟨(cutZ v s).1, (cutZ v s).2, d⟩, true) else (noNum, false)

theorem strip_le (k : Nat) : ∀ v : Int, (strip k v).2 ≤ k := by
  induction k with
  | zero => intro v; simp [strip]
  | succ k ih =>
    intro v; unfold strip; split
    · have := ih (v.tdiv 10); omega
    · simp

theorem tdiv_le (v c : Int) (h : 1 ≤ c) (b : Int) (h1 : -b ≤ v) (h2 : v ≤ b) : -b ≤ v.tdiv c ∧ v.tdiv c ≤ b := by
  rcases Int.le_total 0 v with hv | hv
  · have e : v.tdiv c = v / c := Int.tdiv_eq_ediv_of_nonneg hv
    have l1 := Int.ediv_nonneg hv (by omega : 0 ≤ c)
    have l2 := Int.ediv_le_self c hv
    omega
  · have e : (-v).tdiv c = (-v) / c := Int.tdiv_eq_ediv_of_nonneg (by omega)
    have l1 := Int.ediv_nonneg (by omega : 0 ≤ -v) (by omega : 0 ≤ c)
    have l2 := Int.ediv_le_self c (by omega : 0 ≤ -v)
    rw [Int.neg_tdiv] at e
    omega

end Go.Proofs.YtdoagbengfdcgaaDoor
