/- Pairs as cells; a whole pair stored into a block that is known whole; slices of pairs, and which one reads so. -/
import Derived.Test.YtnfmjkinahbilaaDoorPctKit
import Derived.Laws.Tables
import Derived.OwnWalk
namespace Go.Proofs.YtnfmjkinahbilaaDoor
open Go.RowKit

theorem blk_row {W : World} {X : Nat} {T : TypeId} {a : Array Value} (h : Blk W X T a) (n : Array Value) : Blk (W.setRow X n) X T n := setRow_heap W X a n T _ h
theorem grown_set (w : World) (g : Nat) (cs : Array Value) : w.grownBy (w.setRow g cs) (some g) := ⟨rfl, rfl, rfl, by simp, fun k _ hk => setRow_other w g k cs (fun e => hk (by simp [e]))⟩
theorem whole_abs {ops : Array Oper} {rest : List Oper} {o : Oper} {a : Act} {w : World} {Q : Exit → Act → World → Prop} (ty : TypeId) (x y : Operand) (ho : o.op = .store ty x y ∧ o.guard = none)
    (g : Nat) (cells : Array Value) (hx : a.eval x = .pointer (some ⟨g, 0, none⟩)) (hy : a.eval y = .agg cells) (T : TypeId) (old : Array Value) (hg : Blk w g T old) (hi : (Tryd.prog.info? ty).map (·.size) = some cells.size)
    (hold : old.size = cells.size) (h1 : cells.all (·.oneCell') = true)
    (h : ∀ w', Hid (Blk w' g T cells) → Hid (w.grownBy w' (some g)) → wpList Tryd.prog ops Q rest (a.put o.dst undef) w') : wpList Tryd.prog ops Q (o :: rest) a w :=
  wpList_store_row ho.2 ty x y ho.1 g cells hx hy T old hg hi hold h1 (h _ (blk_row hg cells) (grown_set _ _ _))

theorem two_one (a b : ByteArray) : (#[Value.string a, Value.string b].all fun x => x.oneCell') = true := by
  have h : ∀ s : ByteArray, (Value.string s).oneCell' = true := fun _ => rfl
  simp [h]
def PairL.cs (p : PairL) : List Value := [.string (bs p.k), .string (bs p.v)]
def cellsP (l : List PairL) : List Value := l.flatMap PairL.cs
theorem cellsP_length (l : List PairL) : (cellsP l).length = l.length * 2 := by
  induction l with
  | nil => rfl
  | cons t r ih => unfold cellsP at *; rw [List.flatMap_cons, List.length_append, ih]; show 2 + _ = _; rw [List.length_cons]; omega
theorem cellsP_append (l r : List PairL) : cellsP (l ++ r) = cellsP l ++ cellsP r := List.flatMap_append
theorem cellsP_one (p : PairL) : cellsP [p] = p.cs := by simp [cellsP]
theorem cellsP_at : ∀ (L : List PairL) (k : Nat) (hk : k < L.length) (i : Nat), i < 2 → (cellsP L)[k * 2 + i]? = L[k].cs[i]?
  | [], k, hk, _, _ => absurd hk (Nat.not_lt_zero _)
  | t :: L, 0, _, i, hi => by
    show (t.cs ++ cellsP L)[0 * 2 + i]? = _
    rw [List.getElem?_append_left (by show _ < 2; omega), Nat.zero_mul, Nat.zero_add]; rfl
  | t :: L, k + 1, hk, i, hi => by
    show (t.cs ++ cellsP L)[(k + 1) * 2 + i]? = _
    rw [List.getElem?_append_right (by show 2 ≤ _; omega), show (k + 1) * 2 + i - t.cs.length = k * 2 + i by show (k + 1) * 2 + i - 2 = _; omega, cellsP_at L k (by simpa using hk) i hi]
    simp
theorem info_pair : (Tryd.prog.info? 38).map (fun i => (i.zero, i.size, i.bytes)) = some (some (.agg #[.string ⟨#[]⟩, .string ⟨#[]⟩]), 2, 32) := by kernel_rfl
def Pair2 (w : World) (g j : Nat) (x : PairL) : Prop := w.cell? ⟨g, j, none⟩ = some (.string (bs x.k)) ∧ w.cell? ⟨g, j + 1, none⟩ = some (.string (bs x.v))
theorem Pair2.on {w w' : World} {g o B : Nat} {x : PairL} (h : Pair2 w g o x) (hb : Below B w w') (hg : g < B) : Pair2 w' g o x := by
  obtain ⟨h1, h2⟩ := h
  exact ⟨(hb.cell (p := ⟨g, _, none⟩) hg).trans h1, (hb.cell (p := ⟨g, _, none⟩) hg).trans h2⟩
/- a slice of pairs, wherever it begins -/
structure PrA (w : World) (a : Option Addr) (n c : Nat) (G : List PairL) : Prop where
  len : G.length = n
  cap : n ≤ c
  most : c ≤ maxLen
  cells : 0 < n → ∃ g o, a = some ⟨g, o, none⟩ ∧ g < w.heap.size ∧ ∀ j (h : j < G.length), Pair2 w g (o + j * 2) G[j]
theorem PrA.on {w w' : World} {a : Option Addr} {n c : Nat} {G : List PairL} (h : PrA w a n c G) (hb : Below w.heap.size w w') : PrA w' a n c G := by
  refine ⟨h.len, h.cap, h.most, fun h0 => ?_⟩
  obtain ⟨g, o, ha, hg, hc⟩ := h.cells h0
  exact ⟨g, o, ha, Nat.lt_of_lt_of_le hg hb.size, fun j hj => (hc j hj).on hb hg⟩
theorem prA_nil (w : World) : PrA w none 0 0 [] := ⟨rfl, Nat.le_refl _, Nat.zero_le _, fun h => absurd h (Nat.lt_irrefl _)⟩
/- a row of one's own reads as a slice of pairs -/
theorem prA_own {w : World} {B n : Nat} {e : TypeId} {v : Value} {G : List PairL} (h : w.ownsRow B e 2 v n (cellsP G)) (hn : G.length = n) : ∃ a c, v = .slice a n c ∧ PrA w a n c G := by
  rcases h.2 with ⟨rfl, h0⟩ | ⟨g, cap, cur, rfl, hg, hh, hc, hm, _⟩
  · subst h0
    have : G = [] := List.eq_nil_of_length_eq_zero hn
    subst this
    exact ⟨none, 0, rfl, prA_nil w⟩
  · refine ⟨_, cap, rfl, hn, hc, hm, fun _ => ⟨g, 0, rfl, (Array.getElem?_eq_some_iff.1 hh).1, fun j hj => ?_⟩⟩
    have F : ∀ i, i < 2 → w.cell? ⟨g, 0 + j * 2 + i, none⟩ = G[j].cs[i]? := fun i hi => by
      have hx : (cellsP G)[j * 2 + i]? = G[j].cs[i]? := cellsP_at G j hj i hi
      obtain ⟨u, hu⟩ : ∃ u, G[j].cs[i]? = some u := by
        match i, hi with
        | 0, _ => exact ⟨_, rfl⟩
        | 1, _ => exact ⟨_, rfl⟩
      have := h.cells (g := g) rfl (j * 2 + i) u (hx.trans hu)
      rw [add_at0] at this
      rw [Nat.zero_add, hu, ← Nat.zero_add (j * 2 + i)]
      exact this
    exact ⟨(F 0 (by decide)).trans rfl, (F 1 (by decide)).trans rfl⟩

end Go.Proofs.YtnfmjkinahbilaaDoor
