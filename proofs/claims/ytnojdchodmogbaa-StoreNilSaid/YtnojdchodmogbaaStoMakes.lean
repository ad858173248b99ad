/- What a table's rows are in memory; laws on making slices and on a store of one cell into a row. -/
import Derived.Test.YtnojdchodmogbaaStoRow
namespace Go.Proofs.Ytnojdchodmogbaa
open Go.RowKit

theorem owns_on {w w' : World} {B C n size : Nat} {e : TypeId} {v : Value} {xs : List Value} (h : w.ownsRow B e size v n xs) (hb : Below C w w') (hC : w.heap.size ≤ C) : w'.ownsRow B e size v n xs := by
  refine ⟨h.1, ?_⟩
  rcases h.2 with h0 | ⟨g, cap, cur, hv, hg, hh, r⟩
  · exact .inl h0
  · exact .inr ⟨g, cap, cur, hv, hg, by rw [hb.block g (Nat.lt_of_lt_of_le (Array.getElem?_eq_some_iff.1 hh).1 hC)]; exact hh, r⟩
theorem owns_base {w : World} {B B' n size : Nat} {e : TypeId} {v : Value} {xs : List Value} (h : w.ownsRow B e size v n xs) (hB : B' ≤ B) : w.ownsRow B' e size v n xs := by
  refine ⟨h.1, ?_⟩
  rcases h.2 with h0 | ⟨g, cap, cur, hv, hg, r⟩
  · exact .inl h0
  · exact .inr ⟨g, cap, cur, hv, Nat.le_trans hB hg, r⟩
theorem owns_set {w w' : World} {B G n size : Nat} {e T : TypeId} {v : Value} {xs : List Value} {c : Array Value} (h : w.ownsRow B e size v n xs) (k : Blk w G T c) (hne : e ≠ T) (hG : w.grownBy w' (some G)) : w'.ownsRow B e size v n xs := by
  refine ⟨h.1, ?_⟩
  rcases h.2 with h0 | ⟨g, cap, cur, hv, hg, hh, r⟩
  · exact .inl h0
  · refine .inr ⟨g, cap, cur, hv, hg, ?_, r⟩
    have hk : Blk w g e cur := hh
    rw [hG.block g (Array.getElem?_eq_some_iff.1 hh).1 (fun c => blk_kinds hk k hne (by injection c))]
    exact hh
theorem blk_grown {w w' : World} {X G : Nat} {T U : TypeId} {a c : Array Value} (h : Blk w X T a) (k : Blk w G U c) (hne : T ≠ U) (hG : w.grownBy w' (some G)) : Blk w' X T a :=
  (hG.block X (blk_lt h) (fun c => blk_kinds h k hne (by injection c))).trans h
theorem owns_slice {w : World} {B n size : Nat} {e : TypeId} {v : Value} {xs : List Value} (h : w.ownsRow B e size v n xs) : ∃ a c, v = .slice a n c := by
  rcases h.2 with ⟨h0, h1⟩ | ⟨g, cap, cur, hv, _⟩
  · subst h1; exact ⟨_, _, h0⟩
  · exact ⟨_, _, hv⟩

section
variable {P : Program}
theorem wp_make_blk {o : Oper} {a : Act} {w : World} {K : Act → World → Prop} {Q : Exit → Act → World → Prop} (l c : Operand) (t : TypeId) (hop : o.op = Op.makeSlice t l c)
    (e : TypeId) (i : TypeInfo) (z : Value) (size : Nat) (h1 : P.underlying t = some (.slice e)) (h2 : P.info? e = some i) (h3 : i.zero = some z) (h4 : i.size = size)
    (kl kc : IntKind) (n : Nat) (hl : a.eval l = .int kl n) (hc : a.eval c = .int kc n) (b2 : i.bytes * n ≤ 281474976710656) (b3 : n ≤ maxLen) (G : Nat) (hG : w.heap.size = G)
    (hK : ∀ w', Blk w' G e (madeCells z.cells (n * size)) → Below w.heap.size w w' → K (a.put o.dst (.slice (some ⟨G, 0, none⟩) n n)) w') : o.wp P a w K Q := by
  obtain ⟨w', hrun, r1, r2⟩ := run_make_full (P := P) w w.heap.size t e i z size h1 h2 h3 h4 kl kc n b2 b3 (Nat.le_refl _)
  subst hG
  unfold Oper.wp
  simp [execOp, hop, hl, hc, hrun, Result.andThen]
  refine hK _ ?_ ?_
  · have := blk_made r1
    simpa using this
  · exact (Below.refl w.heap.size w).grown r2 (Nat.le_refl _) (fun k hk => by cases hk)

theorem run_storeVar_one (w : World) (g off : Nat) (t ty : TypeId) (old : Array Value) (v : Value) (hg : w.heap[g]? = some (.cells old t (0, 0))) (hi : (P.info? ty).map (·.size) = some 1) (hv : v.cells = #[v])
    (ho : off < old.size) (h1 : v.oneCell' = true) :
    (storeVar ty ⟨g, off, none⟩ v).run P w = .ok () (w.setRow g (old.toList.take off ++ [v] ++ old.toList.drop (off + 1)).toArray) := by
  have := run_storeCells_at P g off t [v] 0 old w hg (by simp; omega) (fun u hu => by simp at hu; rw [hu]; exact h1)
  rw [Nat.add_zero] at this
  cases hq : P.info? ty with
  | none => simp [hq] at hi
  | some i =>
    have hs : i.size = 1 := by simp [hq] at hi; omega
    simp [storeVar, sizeOf, typeInfo, hq, hv, hs]
    simpa using this
theorem wp_store_one {o : Oper} {a : Act} {w : World} {K : Act → World → Prop} {Q : Exit → Act → World → Prop} (ty : TypeId) (x y : Operand) (ho : o.op = .store ty x y)
    (g off : Nat) (v : Value) (hx : a.eval x = .pointer (some ⟨g, off, none⟩)) (hy : a.eval y = v) (hv : v.cells = #[v]) (h1 : v.oneCell' = true)
    (t : TypeId) (xs ys : List Value) (hR : Blk w g t xs.toArray) (hi : (P.info? ty).map (·.size) = some 1)
    (hold : off < xs.length) (e : xs.take off ++ [v] ++ xs.drop (off + 1) = ys)
    (h : ∀ w', Blk w' g t ys.toArray → w.grownBy w' (some g) → K (a.put o.dst undef) w') : o.wp P a w K Q := by
  have hrun := run_storeVar_one (P := P) w g off t ty xs.toArray v hR hi hv (by simpa using hold) h1
  rw [List.toList_toArray, e] at hrun
  unfold Oper.wp execOp
  simp only [ho, hx, hy, Instr.storeAt, Instr.sureAddr, Sem.run_bind, Sem.run_pure, Result.andThen_ok, hrun]
  exact h _ (blk_row hR _) (grown_set _ _ _)
end

/- a table's rows -/
def nilV : Value := .slice none 0 0
def rowV (n g : Nat) : Value := .slice (some ⟨g, 0, none⟩) n n
theorem made_rows (N : Nat) : madeCells (Value.slice none 0 0).cells (N * 1) = (List.replicate N nilV).toArray := by
  have hc : (Value.slice none 0 0).cells = #[nilV] := rfl
  rw [hc, Nat.mul_one]
  unfold madeCells
  apply Array.ext
  · simp
  · intro i h1 h2
    simp [Nat.mod_one]

def RowsR (p : TripL) (M : List TripL) (n N k B G : Nat) (W : World) : Prop :=
  ∃ gs : List Nat, gs.length = k ∧ Blk W G 54 (gs.map (rowV n) ++ List.replicate (N - k) nilV).toArray ∧
    ∀ i g : Nat, gs[i]? = some g → B ≤ g ∧ ∃ t : TripL, M[i]? = some t ∧ Blk W g 23 (cellsT (rowP p t)).toArray
theorem rows_start {p : TripL} {M : List TripL} {n N B G : Nat} {W : World} (h : Blk W G 54 (List.replicate N nilV).toArray) : RowsR p M n N 0 B G W :=
  ⟨[], rfl, by simpa using h, fun i g hg => by simp at hg⟩
theorem rows_on {p : TripL} {M : List TripL} {n N k B G C : Nat} {W W' : World} (h : RowsR p M n N k B G W) (hb : Below C W W') (hC : W.heap.size ≤ C) : RowsR p M n N k B G W' := by
  obtain ⟨gs, hl, hG, hr⟩ := h
  refine ⟨gs, hl, blk_on hG hb (Nat.lt_of_lt_of_le (blk_lt hG) hC), fun i g hg => ?_⟩
  obtain ⟨h1, t, ht, hB⟩ := hr i g hg
  exact ⟨h1, t, ht, blk_on hB hb (Nat.lt_of_lt_of_le (blk_lt hB) hC)⟩
theorem row_term : 23 ≠ 54 := by decide
theorem rows_more {p t : TripL} {M : List TripL} {n N k B G g : Nat} {W : World} (h : RowsR p M n N k B G W) (hk : k < N) (ht : M[k]? = some t) (hg : Blk W g 23 (cellsT (rowP p t)).toArray) (hB : B ≤ g) :
    ∃ xs ys : List Value, Blk W G 54 xs.toArray ∧ k < xs.length ∧ xs.take k ++ [rowV n g] ++ xs.drop (k + 1) = ys ∧ ∀ W', Blk W' G 54 ys.toArray → W.grownBy W' (some G) → RowsR p M n N (k + 1) B G W' := by
  obtain ⟨gs, hl, hG, hr⟩ := h
  obtain ⟨j, hj⟩ : ∃ j, N - k = j + 1 := ⟨N - k - 1, by omega⟩
  refine ⟨_, (gs ++ [g]).map (rowV n) ++ List.replicate (N - (k + 1)) nilV, hG, by simp; omega, ?_, fun W' h1 h2 => ⟨gs ++ [g], by simp [hl], h1, fun i x hx => ?_⟩⟩
  · rw [hj, List.replicate_succ, show N - (k + 1) = j by omega]
    have hm : (gs.map (rowV n)).length = k := by rw [List.length_map, hl]
    rw [← hm, List.take_left, show (gs.map (rowV n)).length + 1 = (gs.map (rowV n) ++ [nilV]).length by simp, List.append_cons (List.map (rowV n) gs) nilV (List.replicate j nilV), List.drop_left]
    simp
  · have old : ∀ y (T : TripL), Blk W y 23 (cellsT (rowP p T)).toArray → Blk W' y 23 (cellsT (rowP p T)).toArray := fun y T hy => blk_grown hy hG row_term h2
    rw [List.getElem?_append] at hx
    split at hx
    · obtain ⟨a1, T, a2, a3⟩ := hr i x hx
      exact ⟨a1, T, a2, old _ _ a3⟩
    · rename_i hlt
      have e0 : i - gs.length = 0 := by
        rcases Nat.eq_zero_or_pos (i - gs.length) with h | h
        · exact h
        · rw [List.getElem?_eq_none (by show 1 ≤ _; omega)] at hx; cases hx
      rw [e0] at hx
      simp at hx
      subst hx
      have : i = k := by omega
      subst this
      exact ⟨hB, t, ht, old _ _ hg⟩

/- a table in memory -/
def TableT (w : World) (B : Nat) (tv : Value) (p : TripL) (M : List TripL) : Prop :=
  ∃ vv G, tv = .agg #[vv, .slice (some ⟨G, 0, none⟩) M.length M.length] ∧ w.ownsRow B 9 1 vv (varsL p).length (textCells (varsL p)) ∧ B ≤ G ∧ RowsR p M (varsL p).length M.length M.length B G w
def noTable : Value := .agg #[.slice none 0 0, .slice none 0 0]
/- what Match leaves -/
def MatchT (ok : Bool) (p : TripL) (M : List TripL) (w : World) (e : Ending) (w' : World) : Prop :=
  Below w.heap.size w w' ∧ if ok then ∃ tv, e = .returned (.tuple #[tv, .int .i64 0]) ∧ TableT w' w.heap.size tv p M else e = .returned (.tuple #[noTable, .int .i64 2])
theorem fp_vars {p : TripL} (hp : patB p = true) : (fpN p 3).length = (varsL p).length := by
  have := congrArg List.length (row_eq hp p)
  unfold rowP at this
  simpa using this

end Go.Proofs.Ytnojdchodmogbaa
