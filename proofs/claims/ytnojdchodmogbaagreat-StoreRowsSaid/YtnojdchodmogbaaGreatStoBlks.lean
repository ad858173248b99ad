/- Blocks that are known whole; rows that a call owns, behind another call. The three orders of triples, and lists of triples in order: in plain words. No program. -/
import Derived.Test.YtnojdchodmogbaaGreatTripPlains
import Derived.Test.YtnojdchodmogbaaGreatTripRight
import Derived.Test.YtnojdchodmogbaaGreatRefReads
import Derived.Deep.LoopGhost
import Derived.Test.YtnojdchodmogbaaGreatTermOrderPlain
namespace Go.Proofs.YtnojdchodmogbaaGreat
open Go.RowKit

/- the terms' block -/
def cells12 (t : TripL) : Array Value := #[.int .i64 t.s.k, .string (bs t.s.x), .string (bs t.s.y), .string (bs t.s.z), .int .i64 t.p.k, .string (bs t.p.x), .string (bs t.p.y), .string (bs t.p.z), .int .i64 t.o.k, .string (bs t.o.x), .string (bs t.o.y), .string (bs t.o.z)]
def Blk (W : World) (X : Nat) (T : TypeId) (a : Array Value) : Prop := W.heap[X]? = some (.cells a T (0, 0))
theorem blk_lt {W : World} {X : Nat} {T : TypeId} {a : Array Value} (h : Blk W X T a) : X < W.heap.size := (Array.getElem?_eq_some_iff.1 h).1
theorem blk_cell {W : World} {X : Nat} {T : TypeId} {a : Array Value} (h : Blk W X T a) (i : Nat) : W.cell? ⟨X, i, none⟩ = a[i]? := by unfold Blk at h; simp [World.cell?, h]
theorem blk_free {W : World} {X : Nat} {T : TypeId} {a : Array Value} (h : Blk W X T a) (i : Nat) : W.frozen? ⟨X, i, none⟩ = false := by unfold Blk at h; simp [World.frozen?, h]
theorem blk_on {W W' : World} {X B : Nat} {T : TypeId} {a : Array Value} (h : Blk W X T a) (hb : Below B W W') (hX : X < B) : Blk W' X T a := by unfold Blk at *; rw [hb.block X hX]; exact h
theorem blk_new (W : World) (T : TypeId) (a : Array Value) : Blk (W.alloc (.cells a T)) W.heap.size T a := heap_alloc_new W _
theorem blk_set {W : World} {X : Nat} {T : TypeId} {a : Array Value} (h : Blk W X T a) (i : Nat) (v : Value) : Blk (W.setCell ⟨X, i, none⟩ v) X T (a.setIfInBounds i v) := by
  have hlt := blk_lt h
  unfold Blk at *
  have h' : W.heap[X] = .cells a T (0, 0) := by simpa [Array.getElem?_eq_getElem hlt] using h
  show (W.heap.modify X _)[X]? = _
  rw [Array.getElem?_eq_getElem (by simpa using hlt), Array.getElem_modify_self, h']
  rfl
theorem below_set {B : Nat} {a W : World} (h : Below B a W) {X : Nat} (hX : B ≤ X) (i : Nat) (v : Value) : Below B a (W.setCell ⟨X, i, none⟩ v) := h.setCell hX v

theorem rowOn {w w' : World} {B size n : Nat} {e : TypeId} {v : Value} {xs : List Value} (h : w.ownsRow B e size v n xs) (hb : Below w.heap.size w w') : w'.ownsRow B e size v n xs := by
  refine ⟨h.1, ?_⟩
  rcases h.2 with h0 | ⟨g, cap, cur, hv, hg, hh, r⟩
  · exact .inl h0
  · exact .inr ⟨g, cap, cur, hv, hg, by rw [hb.block g (Array.getElem?_eq_some_iff.1 hh).1]; exact hh, r⟩

theorem fork {Hyp G : World → Nat → Nat → Prop} {C : Prop} (main : (∀ W X Y, Hyp W X Y → G W X Y) → C) (key : ∀ W X Y, Hyp W X Y → G W X Y) : C := main key
theorem blk_other {W : World} {X Y : Nat} {T : TypeId} {a : Array Value} (h : Blk W X T a) (hne : X ≠ Y) (i : Nat) (v : Value) : Blk (W.setCell ⟨Y, i, none⟩ v) X T a := by
  unfold Blk at *
  rw [Below.heap_setCell _ _ _ _ (fun e => hne e)]; exact h
theorem blk_row {W : World} {X : Nat} {T : TypeId} {a : Array Value} (h : Blk W X T a) (n : Array Value) : Blk (W.setRow X n) X T n := setRow_heap W X a n T _ h
theorem row_other (W : World) (Y : Nat) (n : Array Value) (X : Nat) (hne : X ≠ Y) : (W.setRow Y n).heap[X]? = W.heap[X]? := by
  show (W.heap.modify Y _)[X]? = _
  rw [Array.getElem?_modify]
  rw [if_neg (fun e => hne e.symm)]
theorem blk_row_other {W : World} {X Y : Nat} {T : TypeId} {a : Array Value} (h : Blk W X T a) (hne : X ≠ Y) (n : Array Value) : Blk (W.setRow Y n) X T a := by
  unfold Blk at *
  rw [row_other W Y n X hne]; exact h
theorem blkDrew {W : World} {X : Nat} {T : TypeId} {a : Array Value} (h : Blk W X T a) : Blk W.drew X T a := h

end Go.Proofs.YtnojdchodmogbaaGreat

namespace Go.Proofs.YtnojdchodmogbaaGreat

def TermL.cmp (a b : TermL) : Int := termCmp a.k a.x a.y a.z b.k b.x b.y b.z
/- the order of triples -/
def tripCmp (t u : TripL) : Int := if t.s.cmp u.s ≠ 0 then t.s.cmp u.s else if t.p.cmp u.p ≠ 0 then t.p.cmp u.p else t.o.cmp u.o
theorem cb_refl (a : List UInt8) : Lib.compareBytes a a = 0 := (cb_zero a a).2 rfl
theorem cmp_self (a : TermL) : a.cmp a = 0 := by
  unfold TermL.cmp termCmp
  rw [if_neg (by omega), if_neg (by omega), if_neg (by rw [cb_refl]; simp), if_neg (by rw [cb_refl]; simp), cb_refl]
/- the order of triples, in plain words -/
theorem tcmp_range (a b : TermL) : a.cmp b = -1 ∨ a.cmp b = 0 ∨ a.cmp b = 1 := tc_range _ _ _ _ _ _ _ _
theorem tcmp_anti (a b : TermL) : b.cmp a = - a.cmp b := tc_anti _ _ _ _ _ _ _ _
theorem tcmp_trans (a b c : TermL) (h : a.cmp b ≤ 0) (g : b.cmp c ≤ 0) : a.cmp c ≤ 0 := tc_trans _ _ _ _ _ _ _ _ _ _ _ _ h g
theorem tcmp_zero {a b : TermL} (h : a.cmp b = 0) : a = b := by
  obtain ⟨k, x, y, z⟩ := a
  obtain ⟨k', x', y', z'⟩ := b
  obtain ⟨rfl, rfl, rfl, rfl⟩ := (tc_zero _ _ _ _ _ _ _ _).1 h
  rfl
theorem tr_range (t u : TripL) : tripCmp t u = -1 ∨ tripCmp t u = 0 ∨ tripCmp t u = 1 := by
  have h1 := tcmp_range t.s u.s; have h2 := tcmp_range t.p u.p; have h3 := tcmp_range t.o u.o
  unfold tripCmp
  repeat' split
  all_goals first | omega | assumption
theorem tr_anti (t u : TripL) : tripCmp u t = - tripCmp t u := by
  have h1 := tcmp_anti t.s u.s; have h2 := tcmp_anti t.p u.p; have h3 := tcmp_anti t.o u.o
  unfold tripCmp
  repeat' split
  all_goals omega
theorem tr_zero {t u : TripL} (h : tripCmp t u = 0) : t = u := by
  obtain ⟨a, b, c⟩ := t
  obtain ⟨a', b', c'⟩ := u
  unfold tripCmp at h
  dsimp only at h
  split at h
  · contradiction
  · rename_i h1
    split at h
    · contradiction
    · rename_i h2
      rw [tcmp_zero (by omega : a.cmp a' = 0), tcmp_zero (by omega : b.cmp b' = 0), tcmp_zero h]
theorem tr_trans (t u v : TripL) (h : tripCmp t u ≤ 0) (g : tripCmp u v ≤ 0) : tripCmp t v ≤ 0 := by
  obtain ⟨a, b, c⟩ := t
  obtain ⟨a', b', c'⟩ := u
  obtain ⟨a'', b'', c''⟩ := v
  have r1 := tcmp_range a a'; have r2 := tcmp_range a' a''; have r3 := tcmp_range a a''
  have s1 := tcmp_range b b'; have s2 := tcmp_range b' b''; have s3 := tcmp_range b b''
  have k1 := tcmp_trans a a' a''; have k2 := tcmp_trans b b' b''; have k3 := tcmp_trans c c' c''
  have z1 : a.cmp a'' = 0 → a.cmp a' ≤ 0 → a'.cmp a'' ≤ 0 → a.cmp a' = 0 ∧ a'.cmp a'' = 0 := by
    intro h0 h1 h2
    have e := tcmp_zero h0
    subst e
    have := tcmp_anti a a'
    omega
  have z2 : b.cmp b'' = 0 → b.cmp b' ≤ 0 → b'.cmp b'' ≤ 0 → b.cmp b' = 0 ∧ b'.cmp b'' = 0 := by
    intro h0 h1 h2
    have e := tcmp_zero h0
    subst e
    have := tcmp_anti b b'
    omega
  have e1 : a.cmp a' = 0 → a.cmp a'' = a'.cmp a'' := fun h0 => by rw [tcmp_zero h0]
  have e2 : a'.cmp a'' = 0 → a.cmp a'' = a.cmp a' := fun h0 => by rw [tcmp_zero h0]
  have f1 : b.cmp b' = 0 → b.cmp b'' = b'.cmp b'' := fun h0 => by rw [tcmp_zero h0]
  have f2 : b'.cmp b'' = 0 → b.cmp b'' = b.cmp b' := fun h0 => by rw [tcmp_zero h0]
  unfold tripCmp at *
  dsimp only at *
  repeat' split at h
  all_goals repeat' split at g
  all_goals repeat' split
  all_goals first | omega | (apply k1 <;> omega) | (apply k2 <;> omega) | (apply k3 <;> omega)


instance : DecidableEq TermL := fun a b => decidable_of_iff (a.cmp b = 0) ⟨tcmp_zero, fun h => by rw [h]; exact cmp_self b⟩
theorem tripCmp_self (t : TripL) : tripCmp t t = 0 := by unfold tripCmp; rw [cmp_self, cmp_self, cmp_self]; simp
instance : DecidableEq TripL := fun a b => decidable_of_iff (tripCmp a b = 0) ⟨tr_zero, fun h => by rw [h]; exact tripCmp_self b⟩
instance : Inhabited TripL := ⟨noTrip⟩

/- a triple's term at a place -/
def at3 (t : TripL) (i : Nat) : TermL := if i = 0 then t.s else if i = 1 then t.p else t.o
/- by n terms from place f on and round -/
def cmpK (a b : TripL) : Nat → Nat → Int
  | _, 0 => 0
  | f, n + 1 => if (at3 a (f % 3)).cmp (at3 b (f % 3)) ≠ 0 then (at3 a (f % 3)).cmp (at3 b (f % 3)) else cmpK a b (f + 1) n

theorem cmpK_succ (a b : TripL) (f n : Nat) : cmpK a b f (n + 1) = if (at3 a (f % 3)).cmp (at3 b (f % 3)) ≠ 0 then (at3 a (f % 3)).cmp (at3 b (f % 3)) else cmpK a b (f + 1) n := rfl
theorem cmpK_range (a b : TripL) (f n : Nat) : cmpK a b f n = -1 ∨ cmpK a b f n = 0 ∨ cmpK a b f n = 1 := by
  induction n generalizing f with
  | zero => exact .inr (.inl rfl)
  | succ n ih =>
    unfold cmpK
    split
    · exact tcmp_range _ _
    · exact ih _
theorem cmpK_self (a : TripL) (f n : Nat) : cmpK a a f n = 0 := by
  induction n generalizing f with
  | zero => rfl
  | succ n ih => unfold cmpK; rw [if_neg (by rw [cmp_self]; simp)]; exact ih _
theorem cmpK_anti (a b : TripL) (f n : Nat) : cmpK b a f n = - cmpK a b f n := by
  induction n generalizing f with
  | zero => rfl
  | succ n ih =>
    unfold cmpK
    have h := tcmp_anti (at3 a (f % 3)) (at3 b (f % 3))
    by_cases h0 : (at3 a (f % 3)).cmp (at3 b (f % 3)) = 0
    · rw [if_neg (by omega), if_neg (by omega)]; exact ih _
    · rw [if_pos (by omega), if_pos (by omega)]; exact h
theorem cmpK_trans (a b c : TripL) (f n : Nat) (h : cmpK a b f n ≤ 0) (g : cmpK b c f n ≤ 0) : cmpK a c f n ≤ 0 := by
  induction n generalizing f with
  | zero => exact Int.le_refl _
  | succ n ih =>
    rw [cmpK_succ] at h g ⊢
    have t1 := tcmp_trans (at3 a (f % 3)) (at3 b (f % 3)) (at3 c (f % 3))
    have r1 := tcmp_range (at3 a (f % 3)) (at3 b (f % 3))
    have r2 := tcmp_range (at3 b (f % 3)) (at3 c (f % 3))
    by_cases h3 : (at3 a (f % 3)).cmp (at3 c (f % 3)) = 0
    · have e := tcmp_zero h3
      have an := tcmp_anti (at3 a (f % 3)) (at3 b (f % 3))
      rw [e] at an
      rw [if_neg (by omega)]
      rw [e] at h
      by_cases h1 : (at3 c (f % 3)).cmp (at3 b (f % 3)) = 0
      · rw [if_neg (by omega)] at h
        rw [if_neg (by omega)] at g
        exact ih _ h g
      · rw [if_pos h1] at h
        rw [if_pos (by omega)] at g
        omega
    · rw [if_pos h3]
      by_cases h1 : (at3 a (f % 3)).cmp (at3 b (f % 3)) = 0
      · by_cases h2 : (at3 b (f % 3)).cmp (at3 c (f % 3)) = 0
        · exact absurd (by rw [tcmp_zero h1]; exact h2) h3
        · rw [if_pos h2] at g
          exact t1 (by omega) g
      · rw [if_pos h1] at h
        by_cases h2 : (at3 b (f % 3)).cmp (at3 c (f % 3)) = 0
        · exact t1 h (by omega)
        · rw [if_pos h2] at g
          exact t1 h g
theorem cmpK_zero {a b : TripL} {f n : Nat} : cmpK a b f n = 0 ↔ ∀ i, i < n → at3 a ((f + i) % 3) = at3 b ((f + i) % 3) := by
  induction n generalizing f with
  | zero => exact ⟨fun _ i hi => absurd hi (Nat.not_lt_zero _), fun _ => rfl⟩
  | succ n ih =>
    unfold cmpK
    constructor
    · intro h i hi
      split at h
      · contradiction
      · rename_i h0
        cases i with
        | zero => exact tcmp_zero (by simpa using h0)
        | succ i =>
          have := (ih (f := f + 1)).1 h i (by omega)
          rw [show f + (i + 1) = f + 1 + i by omega]; exact this
    · intro h
      have h0 := h 0 (by omega)
      rw [Nat.add_zero] at h0
      rw [if_neg (by rw [h0, cmp_self]; simp)]
      exact ih.2 fun i hi => by
        have := h (i + 1) (by omega)
        rwa [show f + (i + 1) = f + 1 + i by omega] at this
theorem cmpK3_zero {a b : TripL} {f : Nat} (h : cmpK a b f 3 = 0) : a = b := by
  have g := cmpK_zero.1 h
  have h0 := g 0 (by omega); have h1 := g 1 (by omega); have h2 := g 2 (by omega)
  obtain ⟨s, p, o⟩ := a
  obtain ⟨s', p', o'⟩ := b
  unfold at3 at h0 h1 h2
  rcases (by omega : f % 3 = 0 ∨ f % 3 = 1 ∨ f % 3 = 2) with e | e | e
  · rw [show (f + 0) % 3 = 0 by omega] at h0; rw [show (f + 1) % 3 = 1 by omega] at h1; rw [show (f + 2) % 3 = 2 by omega] at h2
    simp at h0 h1 h2; rw [h0, h1, h2]
  · rw [show (f + 0) % 3 = 1 by omega] at h0; rw [show (f + 1) % 3 = 2 by omega] at h1; rw [show (f + 2) % 3 = 0 by omega] at h2
    simp at h0 h1 h2; rw [h0, h1, h2]
  · rw [show (f + 0) % 3 = 2 by omega] at h0; rw [show (f + 1) % 3 = 0 by omega] at h1; rw [show (f + 2) % 3 = 1 by omega] at h2
    simp at h0 h1 h2; rw [h0, h1, h2]
theorem cmpK_trip (a b : TripL) : cmpK a b 0 3 = tripCmp a b := by
  obtain ⟨s, p, o⟩ := a
  obtain ⟨s', p', o'⟩ := b
  simp only [cmpK, tripCmp, at3]
  rw [show (0 % 3 : Nat) = 0 from rfl, show ((0 + 1) % 3 : Nat) = 1 from rfl, show ((0 + 1 + 1) % 3 : Nat) = 2 from rfl]
  simp only [if_true, Nat.one_ne_zero, if_false]
  by_cases h1 : s.cmp s' = 0 <;> by_cases h2 : p.cmp p' = 0 <;> by_cases h3 : o.cmp o' = 0 <;> simp [h1, h2, h3]
/- by fewer terms it is no further off -/
theorem cmpK_le {a b : TripL} {f n m : Nat} (h : cmpK a b f (n + m) ≤ 0) : cmpK a b f n ≤ 0 := by
  induction n generalizing f with
  | zero => exact Int.le_refl _
  | succ n ih =>
    rw [show n + 1 + m = n + m + 1 by omega, cmpK_succ] at h
    rw [cmpK_succ]
    by_cases h0 : (at3 a (f % 3)).cmp (at3 b (f % 3)) = 0
    · rw [if_neg (by omega)] at h ⊢; exact ih h
    · rw [if_pos h0] at h ⊢; exact h
theorem cmpK_lt_trans {a b c : TripL} {f : Nat} (h : cmpK a b f 3 < 0) (g : cmpK b c f 3 < 0) : cmpK a c f 3 < 0 := by
  have t := cmpK_trans a b c f 3 (by omega) (by omega)
  by_cases h0 : cmpK a c f 3 = 0
  · have e := cmpK3_zero h0
    subst e
    have := cmpK_anti a b f 3
    omega
  · omega
theorem cmpK_pos {a b : TripL} {f n : Nat} : 0 < cmpK a b f n ↔ cmpK b a f n < 0 := by
  have := cmpK_anti a b f n
  omega

/- in order -/
def Ord (f : Nat) (l : List TripL) : Prop := l.Pairwise fun a b => cmpK a b f 3 < 0

theorem Ord.nodup {f : Nat} {l : List TripL} (h : Ord f l) : l.Nodup := h.imp fun {a b} hab e => by subst e; rw [cmpK_self] at hab; omega
/- two lists in order with the same triples are the same -/
theorem ord_unique {f : Nat} : ∀ {l l' : List TripL}, Ord f l → Ord f l' → (∀ t, t ∈ l ↔ t ∈ l') → l = l'
  | [], [], _, _, _ => rfl
  | [], b :: r, _, _, h => absurd ((h b).2 (List.mem_cons_self ..)) List.not_mem_nil
  | a :: r, [], _, _, h => absurd ((h a).1 (List.mem_cons_self ..)) List.not_mem_nil
  | a :: r, b :: r', h1, h2, h => by
    have h1' := List.pairwise_cons.1 h1
    have h2' := List.pairwise_cons.1 h2
    have e : a = b := by
      rcases List.mem_cons.1 ((h a).1 (List.mem_cons_self ..)) with e | ha
      · exact e
      · rcases List.mem_cons.1 ((h b).2 (List.mem_cons_self ..)) with e | hb
        · exact e.symm
        · have x := h2'.1 a ha
          have y := h1'.1 b hb
          have := cmpK_anti a b f 3
          omega
    subst e
    congr 1
    refine ord_unique h1'.2 h2'.2 fun t => ?_
    constructor
    · intro ht
      rcases List.mem_cons.1 ((h t).1 (List.mem_cons_of_mem _ ht)) with e | ha
      · subst e
        have := h1'.1 t ht
        rw [cmpK_self] at this; omega
      · exact ha
    · intro ht
      rcases List.mem_cons.1 ((h t).2 (List.mem_cons_of_mem _ ht)) with e | ha
      · subst e
        have := h2'.1 t ht
        rw [cmpK_self] at this; omega
      · exact ha

/- where a triple stands, or would stand -/
def Spot (f : Nat) (l : List TripL) (t : TripL) (k : Nat) : Prop := k ≤ l.length ∧ (∀ x ∈ l.take k, cmpK x t f 3 < 0) ∧ (∀ x ∈ l.drop k, 0 ≤ cmpK x t f 3)

def insAt (l : List TripL) (k : Nat) (t : TripL) : List TripL := l.take k ++ t :: l.drop k
def delAt (l : List TripL) (k : Nat) : List TripL := l.take k ++ l.drop (k + 1)

theorem mem_insAt {l : List TripL} {k : Nat} {t x : TripL} : x ∈ insAt l k t ↔ x = t ∨ x ∈ l := by
  unfold insAt
  rw [List.mem_append, List.mem_cons]
  constructor
  · rintro (h | h | h)
    · exact .inr (List.mem_of_mem_take h)
    · exact .inl h
    · exact .inr (List.mem_of_mem_drop h)
  · rintro (h | h)
    · exact .inr (.inl h)
    · rw [← List.take_append_drop k l, List.mem_append] at h
      rcases h with h | h
      · exact .inl h
      · exact .inr (.inr h)
theorem length_insAt (l : List TripL) (k : Nat) (t : TripL) : (insAt l k t).length = l.length + 1 := by
  unfold insAt
  rw [List.length_append, List.length_cons, ← Nat.add_assoc, ← List.length_append, List.take_append_drop]
theorem ord_insAt {f : Nat} {l : List TripL} {k : Nat} {t : TripL} (h : Ord f l) (hs : Spot f l t k) (ht : t ∉ l) : Ord f (insAt l k t) := by
  obtain ⟨_, h1, h2⟩ := hs
  have h2' : ∀ x ∈ l.drop k, cmpK t x f 3 < 0 := by
    intro x hx
    have a := h2 x hx
    by_cases h0 : cmpK x t f 3 = 0
    · have e := cmpK3_zero h0
      subst e
      exact absurd (List.mem_of_mem_drop hx) ht
    · exact cmpK_pos.1 (by omega)
  unfold Ord insAt at *
  have h' := h
  rw [← List.take_append_drop k l] at h'
  obtain ⟨p1, p2, p3⟩ := List.pairwise_append.1 h'
  refine List.pairwise_append.2 ⟨p1, List.pairwise_cons.2 ⟨h2', p2⟩, ?_⟩
  intro a ha b hb
  rcases List.mem_cons.1 hb with e | hb
  · subst e; exact h1 a ha
  · exact p3 a ha b hb
/- the triple stands there -/
theorem spot_mem {f : Nat} {l : List TripL} {k : Nat} {t : TripL} (h : Ord f l) (hs : Spot f l t k) (ht : t ∈ l) : ∃ r, l.drop k = t :: r := by
  obtain ⟨_, h1, h2⟩ := hs
  have hd : t ∈ l.drop k := by
    rw [← List.take_append_drop k l, List.mem_append] at ht
    rcases ht with ht | ht
    · have := h1 t ht; rw [cmpK_self] at this; omega
    · exact ht
  have p : Ord f (l.drop k) := List.Pairwise.sublist (List.drop_sublist _ _) h
  generalize l.drop k = m at hd h2 p
  cases m with
  | nil => exact absurd hd List.not_mem_nil
  | cons a r =>
    rcases List.mem_cons.1 hd with e | hd
    · subst e; exact ⟨r, rfl⟩
    · have x := (List.pairwise_cons.1 p).1 t hd
      have y := h2 a (List.mem_cons_self ..)
      omega
theorem delAt_eq {f : Nat} {l : List TripL} {k : Nat} {t : TripL} (h : Ord f l) (hs : Spot f l t k) (ht : t ∈ l) : delAt l k = l.filter (fun x => decide (x ≠ t)) := by
  obtain ⟨r, hr⟩ := spot_mem h hs ht
  have hn := h.nodup
  unfold delAt
  rw [← List.drop_drop, hr]
  show List.take k l ++ r = _
  conv => rhs; rw [← List.take_append_drop k l, List.filter_append, hr]
  rw [← List.take_append_drop k l, hr] at hn
  have hn' := List.nodup_append.1 hn
  have n1 := (List.nodup_cons.1 hn'.2.1).1
  rw [List.filter_cons_of_neg (by simp), List.filter_eq_self.2, List.filter_eq_self.2]
  · intro x hx
    exact decide_eq_true fun e => n1 (e ▸ hx)
  · intro x hx
    exact decide_eq_true fun e => hn'.2.2 x hx t (List.mem_cons_self ..) e
theorem length_delAt {l : List TripL} {k : Nat} (hk : k < l.length) : (delAt l k).length = l.length - 1 := by
  unfold delAt
  rw [List.length_append, List.length_take, List.length_drop]; omega

end Go.Proofs.YtnojdchodmogbaaGreat
