/- The terms of a line, one by one; the block that they stand in. -/
import Derived.Test.YthdhoaihmlodjaaTripReadPlain
import Derived.Test.YthdhoaihmlodjaaTripRight
import Derived.Test.YthdhoaihmlodjaaTermPrefix
import Derived.Test.YthdhoaihmlodjaaRefVars
import Derived.Deep.LoopGhost
namespace Go.Proofs.Ythdhoaihmlodjaa
open Go.RowKit

/- how far a line's terms are taken off: R is where it began, L what is left -/
def Mid (n : Nat) (R L : List UInt8) (t : TripL) : Prop :=
  (n = 0 ∧ L = R ∧ t = noTrip) ∨ (n = 1 ∧ ∃ a, takeS R = some (a, L) ∧ t = ⟨a, noTerm, noTerm⟩) ∨
  (n = 2 ∧ ∃ a r b, takeS R = some (a, r) ∧ takeS r = some (b, L) ∧ t = ⟨a, b, noTerm⟩) ∨
  (n = 3 ∧ ∃ a r b r2 c, takeS R = some (a, r) ∧ takeS r = some (b, r2) ∧ takeS r2 = some (c, L) ∧ t = ⟨a, b, c⟩)
theorem mid_none {n : Nat} {R L : List UInt8} {t : TripL} (h : Mid n R L t) (h3 : n < 3) (hL : takeS L = none) : lineS R = none := by
  rcases h with ⟨_, rfl, _⟩ | ⟨_, a, h1, _⟩ | ⟨_, a, r, b, h1, h2, _⟩ | ⟨rfl, _⟩
  · unfold lineS; rw [hL]
  · unfold lineS; rw [h1]; dsimp only; rw [hL]
  · unfold lineS; rw [h1]; dsimp only; rw [h2]; dsimp only; rw [hL]
  · omega
theorem mid_zero {R L L' : List UInt8} {t : TripL} {a : TermL} (h : Mid 0 R L t) (hL : takeS L = some (a, L')) : Mid 1 R L' ⟨a, noTerm, noTerm⟩ ∧ t = noTrip := by
  rcases h with ⟨_, rfl, ht⟩ | ⟨h0, _⟩ | ⟨h0, _⟩ | ⟨h0, _⟩
  · exact ⟨.inr (.inl ⟨rfl, a, hL, rfl⟩), ht⟩
  all_goals omega
theorem mid_one {R L L' : List UInt8} {t : TripL} {b : TermL} (h : Mid 1 R L t) (hL : takeS L = some (b, L')) : Mid 2 R L' ⟨t.s, b, noTerm⟩ ∧ t = ⟨t.s, noTerm, noTerm⟩ := by
  rcases h with ⟨h0, _⟩ | ⟨_, a, h1, rfl⟩ | ⟨h0, _⟩ | ⟨h0, _⟩
  · omega
  · exact ⟨.inr (.inr (.inl ⟨rfl, a, _, b, h1, hL, rfl⟩)), rfl⟩
  all_goals omega
theorem mid_two {R L L' : List UInt8} {t : TripL} {c : TermL} (h : Mid 2 R L t) (hL : takeS L = some (c, L')) : Mid 3 R L' ⟨t.s, t.p, c⟩ ∧ t = ⟨t.s, t.p, noTerm⟩ := by
  rcases h with ⟨h0, _⟩ | ⟨h0, _⟩ | ⟨_, a, r, b, h1, h2, rfl⟩ | ⟨h0, _⟩
  · omega
  · omega
  · exact ⟨.inr (.inr (.inr ⟨rfl, a, _, b, _, c, h1, h2, hL, rfl⟩)), rfl⟩
  · omega
theorem mid_end {R L : List UInt8} {t : TripL} (h : Mid 3 R L t) : lineS R = if Lib.hasPrefix L [46, 10] = true then (if tripB t = true then some (t, L.drop 2) else none) else none := by
  rcases h with ⟨h0, _⟩ | ⟨h0, _⟩ | ⟨h0, _⟩ | ⟨_, a, r, b, r2, c, h1, h2, h3, rfl⟩
  · omega
  · omega
  · omega
  · unfold lineS; rw [h1]; dsimp only; rw [h2]; dsimp only; rw [h3]
theorem mid_next0 {R L L' : List UInt8} {s p o a : TermL} (h : Mid 0 R L ⟨s, p, o⟩) (hL : takeS L = some (a, L')) : Mid 1 R L' ⟨a, p, o⟩ := by
  obtain ⟨h1, h2⟩ := mid_zero h hL
  cases h2; exact h1
theorem mid_next1 {R L L' : List UInt8} {s p o b : TermL} (h : Mid 1 R L ⟨s, p, o⟩) (hL : takeS L = some (b, L')) : Mid 2 R L' ⟨s, b, o⟩ := by
  obtain ⟨h1, h2⟩ := mid_one h hL
  cases h2; exact h1
theorem mid_next2 {R L L' : List UInt8} {s p o c : TermL} (h : Mid 2 R L ⟨s, p, o⟩) (hL : takeS L = some (c, L')) : Mid 3 R L' ⟨s, p, c⟩ := (mid_two h hL).1
theorem take_none0 {L : List UInt8} (h : (prefixS L).2 = 0) : takeS L = none := by unfold takeS; rw [if_pos h]
theorem take_none1 {L : List UInt8} (h : Lib.hasPrefix (L.drop (prefixS L).2) [32] = false) : takeS L = none := by
  unfold takeS; by_cases h0 : (prefixS L).2 = 0
  · rw [if_pos h0]
  · rw [if_neg h0, if_pos h]
theorem take_some {L : List UInt8} (h0 : ¬ (prefixS L).2 = 0) (h : Lib.hasPrefix (L.drop (prefixS L).2) [32] = true) : takeS L = some ((prefixS L).1, L.drop ((prefixS L).2 + 1)) := by
  unfold takeS; rw [if_neg h0, if_neg (by rw [h]; simp)]

/- no part of a term is longer than the text that it is taken off -/
theorem unq_len : ∀ (l t : List UInt8) (o : Bool) (i : Nat), (unq l t o i).1.length ≤ t.length + l.length := by
  intro l
  induction l with
  | nil => intro t o i; simp [unq]
  | cons b r ih =>
    intro t o i
    cases o with
    | true =>
      simp only [unq]
      split
      · simp
      · split
        · simp
        · rename_i c _ _; have := ih (t ++ [c]) false (i + 1); simp at this ⊢; omega
    | false =>
      rw [unq_cons]
      split
      · simp
      · split
        · have := ih t true (i + 1); simp; omega
        · split
          · simp
          · split
            · simp
            · have := ih (t ++ [b]) false (i + 1); simp at this ⊢; omega
def TermL.short (t : TermL) (n : Nat) : Prop := t.x.length ≤ n ∧ t.y.length ≤ n ∧ t.z.length ≤ n
theorem short_none (n : Nat) : noTerm.short n := ⟨Nat.zero_le _, Nat.zero_le _, Nat.zero_le _⟩
theorem bracket_short (l : List UInt8) : (bracketS l).1.length ≤ l.length := by
  unfold bracketS
  split
  · split
    · simp
    · simp only [List.length_take, List.length_drop]; omega
  · simp
theorem tag_short (l : List UInt8) : (tagS l).1.length ≤ l.length ∧ (tagS l).2.1.length ≤ l.length := by
  unfold tagS
  split
  · refine ⟨?_, by simp⟩
    have := bracket_short (l.drop 2)
    rw [List.length_drop] at this
    unfold typeS
    split <;> dsimp only
    · simp
    · omega
  · split
    · refine ⟨by simp, ?_⟩
      unfold langS
      split
      · simp
      · simp only [List.length_take, List.length_drop]; omega
    · simp
theorem named_short (k : Int) (l : List UInt8) (n : Nat) : (namedS k l n).1.short l.length := by
  unfold namedS
  split
  · exact short_none _
  · exact ⟨by simp only [List.length_take, List.length_drop]; omega, Nat.zero_le _, Nat.zero_le _⟩
theorem prefix_short' (l : List UInt8) : (prefixS l).1.short l.length := by
  unfold prefixS
  split
  · unfold iriS
    split
    · exact short_none _
    · exact ⟨bracket_short l, Nat.zero_le _, Nat.zero_le _⟩
  · split
    · exact named_short 3 l 2
    · split
      · exact named_short 4 l 1
      · split
        · unfold literalS
          split
          · exact short_none _
          · have h1 := unq_len (l.drop 1) [] false 0
            have h2 := tag_short (l.drop (unquoteS l).2)
            rw [List.length_drop] at h1 h2
            refine ⟨?_, by have := h2.1; dsimp only; omega, by have := h2.2; dsimp only; omega⟩
            show (unq (l.drop 1) [] false 0).1.length ≤ _
            rw [List.length_nil] at h1; omega
        · exact short_none _
theorem TermL.short.ok {t : TermL} {n : Nat} (h : t.short n) (hn : n ≤ 281474976710656) : t.ok :=
  ⟨by have := h.1; rw [bs_size]; unfold maxLen; omega, by have := h.2.1; rw [bs_size]; unfold maxLen; omega, by have := h.2.2; rw [bs_size]; unfold maxLen; omega⟩

/- the terms' block -/
def cells12 (t : TripL) : Array Value := #[.int .i64 t.s.k, .string (bs t.s.x), .string (bs t.s.y), .string (bs t.s.z), .int .i64 t.p.k, .string (bs t.p.x), .string (bs t.p.y), .string (bs t.p.z), .int .i64 t.o.k, .string (bs t.o.x), .string (bs t.o.y), .string (bs t.o.z)]
def Blk (W : World) (X : Nat) (T : TypeId) (a : Array Value) : Prop := W.heap[X]? = some (.cells a T (0, 0))
theorem blk_lt {W : World} {X : Nat} {T : TypeId} {a : Array Value} (h : Blk W X T a) : X < W.heap.size := (Array.getElem?_eq_some_iff.1 h).1
theorem blk_cell {W : World} {X : Nat} {T : TypeId} {a : Array Value} (h : Blk W X T a) (i : Nat) : W.cell? ⟨X, i, none⟩ = a[i]? := by unfold Blk at h; simp [World.cell?, h]
theorem blk_free {W : World} {X : Nat} {T : TypeId} {a : Array Value} (h : Blk W X T a) (i : Nat) : W.frozen? ⟨X, i, none⟩ = false := by unfold Blk at h; simp [World.frozen?, h]
theorem blk_on {W W' : World} {X B : Nat} {T : TypeId} {a : Array Value} (h : Blk W X T a) (hb : Below B W W') (hX : X < B) : Blk W' X T a := by unfold Blk at *; rw [hb.block X hX]; exact h
theorem blk_new (W : World) (T : TypeId) (a : Array Value) : Blk (W.alloc (.cells a T)) W.heap.size T a := heap_alloc_new W _
theorem blk_set {W : World} {X : Nat} {T : TypeId} {a : Array Value} (h : Blk W X T a) (i : Nat) (v : Value) : Blk (W.setCell ⟨X, i, none⟩ v) X T (a.setIfInBounds i v) := by
  have hlt := blk_lt h
  unfold Blk at *
  have h' : W.heap[X] = .cells a T (0, 0) := by simpa [Array.getElem?_eq_getElem hlt] using h
  show (W.heap.modify X _)[X]? = _
  rw [Array.getElem?_eq_getElem (by simpa using hlt), Array.getElem_modify_self, h']
  rfl
theorem below_set {B : Nat} {a W : World} (h : Below B a W) {X : Nat} (hX : B ≤ X) (i : Nat) (v : Value) : Below B a (W.setCell ⟨X, i, none⟩ v) := h.setCell hX v

theorem rowOn {w w' : World} {B size n : Nat} {e : TypeId} {v : Value} {xs : List Value} (h : w.ownsRow B e size v n xs) (hb : Below w.heap.size w w') : w'.ownsRow B e size v n xs := by
  refine ⟨h.1, ?_⟩
  rcases h.2 with h0 | ⟨g, cap, cur, hv, hg, hh, r⟩
  · exact .inl h0
  · exact .inr ⟨g, cap, cur, hv, hg, by rw [hb.block g (Array.getElem?_eq_some_iff.1 hh).1]; exact hh, r⟩

end Go.Proofs.Ythdhoaihmlodjaa
