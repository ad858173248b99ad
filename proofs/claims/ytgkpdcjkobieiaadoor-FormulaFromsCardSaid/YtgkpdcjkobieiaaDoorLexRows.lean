/- Rows of words: their cells, a slice that reads as them; what Lex leaves. -/
import Derived.Test.YtgkpdcjkobieiaaDoorLexNext
import Derived.Deep.LoopGhost
namespace Go.Proofs.YtgkpdcjkobieiaaDoor
open Go.RowKit

theorem info_token : (Tryd.prog.info? 35).map (fun i => (i.zero, i.size, i.bytes)) = some (some noTok.v, 7, 88) := by kernel_rfl

def TokL.cells (t : TokL) : List Value := [.int .i64 t.k, .string (bs t.x), .int .i64 t.t.k, .string (bs t.t.x), .string (bs t.t.y), .string (bs t.t.z), .int .i64 t.a]
def tokCells (l : List TokL) : List Value := l.flatMap TokL.cells
theorem TokL.cells_length (t : TokL) : t.cells.length = 7 := rfl
theorem tokCells_length (l : List TokL) : (tokCells l).length = l.length * 7 := by
  induction l with
  | nil => rfl
  | cons t r ih => unfold tokCells at *; rw [List.flatMap_cons, List.length_append, ih, TokL.cells_length, List.length_cons]; omega
theorem tokCells_append (l r : List TokL) : tokCells (l ++ r) = tokCells l ++ tokCells r := by unfold tokCells; exact List.flatMap_append
theorem tokCells_one (t : TokL) : tokCells [t] = t.cells := by unfold tokCells; simp
theorem tokCells_at : ∀ (L : List TokL) (k : Nat) (hk : k < L.length) (i : Nat), i < 7 → (tokCells L)[k * 7 + i]? = L[k].cells[i]?
  | [], k, hk, _, _ => absurd hk (Nat.not_lt_zero _)
  | t :: L, 0, _, i, hi => by
    show (t.cells ++ tokCells L)[0 * 7 + i]? = _
    rw [List.getElem?_append_left (by rw [TokL.cells_length]; omega), Nat.zero_mul, Nat.zero_add]; rfl
  | t :: L, k + 1, hk, i, hi => by
    show (t.cells ++ tokCells L)[(k + 1) * 7 + i]? = _
    rw [List.getElem?_append_right (by rw [TokL.cells_length]; omega), TokL.cells_length, show (k + 1) * 7 + i - 7 = k * 7 + i by omega, tokCells_at L k (by simpa using hk) i hi]
    simp
/- a word's cells at a place of a slice of words -/
def Cells7 (w : World) (g k : Nat) (t : TokL) : Prop :=
  w.cell? ⟨g, k * 7, none⟩ = some (.int .i64 t.k) ∧ w.cell? ⟨g, k * 7 + 1, none⟩ = some (.string (bs t.x)) ∧ w.cell? ⟨g, k * 7 + 2, none⟩ = some (.int .i64 t.t.k) ∧ w.cell? ⟨g, k * 7 + 3, none⟩ = some (.string (bs t.t.x)) ∧
  w.cell? ⟨g, k * 7 + 4, none⟩ = some (.string (bs t.t.y)) ∧ w.cell? ⟨g, k * 7 + 5, none⟩ = some (.string (bs t.t.z)) ∧ w.cell? ⟨g, k * 7 + 6, none⟩ = some (.int .i64 t.a)
theorem toks_cell {w : World} {g : Nat} {L : List TokL} (h : ∀ j u, (tokCells L)[j]? = some u → w.cell? ⟨g, j, none⟩ = some u) (k : Nat) (hk : k < L.length) : Cells7 w g k L[k] := by
  have e := tokCells_at L k hk
  exact ⟨h _ _ (e 0 (by omega)), h _ _ (e 1 (by omega)), h _ _ (e 2 (by omega)), h _ _ (e 3 (by omega)), h _ _ (e 4 (by omega)), h _ _ (e 5 (by omega)), h _ _ (e 6 (by omega))⟩

/- a slice of n elements that reads as the cells xs -/
def Reads (w : World) (v : Value) (n : Nat) (xs : List Value) : Prop :=
  (v = .slice none 0 0 ∧ n = 0) ∨ ∃ g cap, v = .slice (some ⟨g, 0, none⟩) n cap ∧ g < w.heap.size ∧ n ≤ cap ∧ cap ≤ maxLen ∧ ∀ j u, xs[j]? = some u → w.cell? ⟨g, j, none⟩ = some u
theorem reads_of {w : World} {B size : Nat} {e : TypeId} {v : Value} {n : Nat} {xs : List Value} (h : w.ownsRow B e size v n xs) : Reads w v n xs := by
  rcases h.2 with h0 | ⟨g, cap, cur, hv, hg, hh, hn, hm, _⟩
  · exact .inl h0
  · refine .inr ⟨g, cap, hv, (Array.getElem?_eq_some_iff.1 hh).1, hn, hm, fun j u hj => ?_⟩
    have := h.cells (g := g) (by rw [hv]; rfl) j u hj
    cases j with
    | zero => simpa [Addr.add] using this
    | succ j => simpa [Addr.add] using this
theorem Reads.on {w w' : World} {v : Value} {n : Nat} {xs : List Value} (h : Reads w v n xs) (hb : Below w.heap.size w w') : Reads w' v n xs := by
  rcases h with h0 | ⟨g, cap, hv, hg, hn, hm, hc⟩
  · exact .inl h0
  · exact .inr ⟨g, cap, hv, Nat.lt_of_lt_of_le hg hb.size, hn, hm, fun j u hj => by rw [hb.cell (p := ⟨g, j, none⟩) hg]; exact hc j u hj⟩

/- a word's cells in a block that has just been made -/
theorem news7 (W : World) (T : TypeId) (a b c d e f g : Value) {X : Nat} (hX : X = W.heap.size) : ∀ n u, [a, b, c, d, e, f, g][n]? = some u → (W.alloc (.cells #[a, b, c, d, e, f, g] T)).cell? ((⟨X, 0, none⟩ : Addr).add n) = some u := by
  subst hX
  intro n u hu
  have e1 : ((⟨W.heap.size, 0, none⟩ : Addr).add n) = ⟨W.heap.size, n, none⟩ := by
    cases n with
    | zero => simp [Addr.add]
    | succ n => simp [Addr.add]
  rw [e1, blk_cell (blk_new W T _)]
  simpa using hu

/- what Lex leaves -/
def LexT (w : World) (q : List TokL × Nat × Int) (e : Ending) (w' : World) : Prop :=
  ∃ v, e = .returned (.tuple #[v, .int .i64 q.2.1, .int .i64 q.2.2]) ∧ w'.ownsRow w.heap.size 35 7 v q.1.length (tokCells q.1) ∧ Below w.heap.size w w'
theorem lex_none {w w' : World} {q : List TokL × Nat × Int} {a : Nat} {r : Int} (h : q = ([], a, r)) (hb : Below w.heap.size w w') : LexT w q (.returned (.tuple #[.slice none 0 0, .int .i64 a, .int .i64 r])) w' := by
  subst h; exact ⟨_, rfl, World.ownsRow_nil _ _ _ _, hb⟩
theorem lex_all {w w' : World} {q : List TokL × Nat × Int} {T : List TokL} {v : Value} (h : q = (T, 0, 0)) (hv : w'.ownsRow w.heap.size 35 7 v T.length (tokCells T)) (hb : Below w.heap.size w w') : LexT w q (.returned (.tuple #[v, .int .i64 0, .int .i64 0])) w' := by
  subst h; exact ⟨v, rfl, hv, hb⟩

end Go.Proofs.YtgkpdcjkobieiaaDoor
