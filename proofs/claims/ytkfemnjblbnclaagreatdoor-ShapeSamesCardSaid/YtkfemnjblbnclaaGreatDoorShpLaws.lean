/- Terms as cells; laws on making rows, on stores into them and on copies, the world behind each a name. -/
import Derived.Test.YtkfemnjblbnclaaGreatDoorGVCmp
import Derived.Test.YtkfemnjblbnclaaGreatDoorStoLaws
import Derived.Laws.OwnMore
import Derived.Maps.AppendAt
import Derived.OwnWalk
namespace Go.Proofs.YtkfemnjblbnclaaGreatDoor
open Go.RowKit

theorem row_other (W : World) (Y : Nat) (n : Array Value) (X : Nat) (hne : X ≠ Y) : (W.setRow Y n).heap[X]? = W.heap[X]? := by
  show (W.heap.modify Y _)[X]? = _
  rw [Array.getElem?_modify]
  rw [if_neg (fun e => hne e.symm)]
theorem blk_row {W : World} {X : Nat} {T : TypeId} {a : Array Value} (h : Blk W X T a) (n : Array Value) : Blk (W.setRow X n) X T n := setRow_heap W X a n T _ h
theorem blk_kinds {w : World} {X Y : Nat} {T U : TypeId} {a b : Array Value} (h : Blk w X T a) (k : Blk w Y U b) (hT : T ≠ U) : X ≠ Y := by
  intro e
  subst e
  unfold Blk at *
  rw [k] at h
  injection h with h
  injection h with _ h2 _
  exact hT h2.symm
theorem blk_grown {w w' : World} {X G : Nat} {T : TypeId} {a : Array Value} (h : Blk w X T a) (hne : X ≠ G) (hG : w.grownBy w' (some G)) : Blk w' X T a := (hG.block X (blk_lt h) (fun c => hne (by injection c))).trans h
theorem grown_set (w : World) (g : Nat) (cs : Array Value) : w.grownBy (w.setRow g cs) (some g) := ⟨rfl, rfl, rfl, by simp, fun k _ hk => setRow_other w g k cs (fun e => hk (by simp [e]))⟩
theorem grown_refl (w : World) (row : Option Nat) : w.grownBy w row := ⟨rfl, rfl, rfl, Nat.le_refl _, fun _ _ _ => rfl⟩
theorem fb2 {B : Nat} {W W' W'' : World} (h : Below B W W') (h' : Below W'.heap.size W' W'') (hB : B ≤ W.heap.size) : Below B W W'' := h.trans (h'.mono (Nat.le_trans hB h.size))
theorem from_drewN {W W' : World} {n : Nat} (h : Below (W.drewN n).heap.size (W.drewN n) W') : Below W.heap.size W W' := (drewN_below (Below.refl W.heap.size W) n).trans h
theorem from_drew {W W' : World} (h : Below W.drew.heap.size W.drew W') : Below W.heap.size W W' := (Below.refl W.heap.size W).drew.trans h
theorem blk_drew {W : World} {X : Nat} {T : TypeId} {a : Array Value} (h : Blk W X T a) : Blk W.drew X T a := h

/- terms as cells -/
def TermL.cs (t : TermL) : List Value := [.int .i64 t.k, .string (bs t.x), .string (bs t.y), .string (bs t.z)]
def cellsT (l : List TermL) : List Value := l.flatMap TermL.cs
theorem cellsT_nil : cellsT [] = [] := rfl
theorem cellsT_length (l : List TermL) : (cellsT l).length = l.length * 4 := by
  induction l with
  | nil => rfl
  | cons t r ih => unfold cellsT at *; rw [List.flatMap_cons, List.length_append, ih, List.length_cons]; show 4 + _ = _; omega
theorem cellsT_append (l r : List TermL) : cellsT (l ++ r) = cellsT l ++ cellsT r := by unfold cellsT; exact List.flatMap_append
theorem cellsT_cons (t : TermL) (r : List TermL) : cellsT (t :: r) = t.cs ++ cellsT r := by unfold cellsT; exact List.flatMap_cons
theorem cellsT_one (t : TermL) : cellsT [t] = t.cs := by simp [cellsT]
theorem cellsT_at : ∀ (L : List TermL) (k : Nat) (hk : k < L.length) (i : Nat), i < 4 → (cellsT L)[k * 4 + i]? = L[k].cs[i]? := by
  intro L
  induction L with
  | nil => intro k hk; simp at hk
  | cons t r ih =>
    intro k hk i hi
    rw [cellsT_cons]
    cases k with
    | zero => rw [List.getElem?_append_left (by show _ < 4; omega)]; simp
    | succ k =>
      rw [List.getElem?_append_right (by show 4 ≤ _; omega)]
      rw [show (k + 1) * 4 + i - t.cs.length = k * 4 + i by show (k + 1) * 4 + i - 4 = _; omega]
      exact ih k (by simpa using hk) i hi
theorem cellsT_take (L : List TermL) (n : Nat) : cellsT (L.take n) = (cellsT L).take (n * 4) := by
  induction L generalizing n with
  | nil => simp [cellsT]
  | cons t r ih =>
    cases n with
    | zero => simp [cellsT]
    | succ n =>
      rw [List.take_succ_cons, cellsT_cons, cellsT_cons, ih, List.take_append, List.take_of_length_le (show t.cs.length ≤ _ by show 4 ≤ _; omega)]
      congr 2
      show n * 4 = (n + 1) * 4 - 4
      omega
theorem cellsT_drop (L : List TermL) (n : Nat) : cellsT (L.drop n) = (cellsT L).drop (n * 4) := by
  induction L generalizing n with
  | nil => simp [cellsT]
  | cons t r ih =>
    cases n with
    | zero => simp
    | succ n =>
      rw [List.drop_succ_cons, cellsT_cons, ih, List.drop_append, List.drop_eq_nil_of_le (show t.cs.length ≤ _ by show 4 ≤ _; omega), List.nil_append]
      congr 1
      show n * 4 = (n + 1) * 4 - 4
      omega
theorem cellsT_cell {l : List TermL} : ∀ v ∈ cellsT l, v.oneCell' = true := by
  intro v hv
  obtain ⟨t, _, ht⟩ := List.mem_flatMap.1 hv
  simp only [TermL.cs, List.mem_cons, List.not_mem_nil, or_false] at ht
  rcases ht with rfl | rfl | rfl | rfl <;> rfl
/- a piece of a list of terms, put in the place of another one -/
def splice (L : List TermL) (o : Nat) (M : List TermL) : List TermL := L.take o ++ M ++ L.drop (o + M.length)
theorem splice_cells (L : List TermL) (o : Nat) (M : List TermL) : (cellsT L).take (o * 4) ++ cellsT M ++ (cellsT L).drop (o * 4 + (cellsT M).length) = cellsT (splice L o M) := by
  unfold splice
  rw [cellsT_append, cellsT_append, cellsT_take, cellsT_drop, cellsT_length, Nat.add_mul]
theorem splice_length {L : List TermL} {o : Nat} {M : List TermL} (h : o + M.length ≤ L.length) : (splice L o M).length = L.length := by
  unfold splice
  rw [List.length_append, List.length_append, List.length_take, List.length_drop]
  omega
theorem splice_in {L : List TermL} {o : Nat} {M : List TermL} (h : o + M.length ≤ L.length) {i : Nat} (hi : i < M.length) : (splice L o M)[o + i]? = M[i]? := by
  unfold splice
  have e : (L.take o).length = o := by rw [List.length_take]; omega
  rw [List.append_assoc, List.getElem?_append_right (by omega), e, Nat.add_sub_cancel_left, List.getElem?_append_left hi]
theorem splice_out {L : List TermL} {o : Nat} {M : List TermL} (h : o + M.length ≤ L.length) {i : Nat} (hi : i < o ∨ o + M.length ≤ i) : (splice L o M)[i]? = L[i]? := by
  unfold splice
  have e : (L.take o).length = o := by rw [List.length_take]; omega
  rcases hi with hi | hi
  · rw [List.append_assoc, List.getElem?_append_left (by omega), List.getElem?_take_of_lt hi]
  · rw [List.getElem?_append_right (by rw [List.length_append, e]; exact hi), List.length_append, e, List.getElem?_drop]
    congr 1
    omega

theorem info_term : (Tryz.prog.info? 23).map (fun i => (i.zero, i.size, i.bytes)) = some (some nilT.v, 4, 56) := by kernel_rfl
theorem info_text : (Tryz.prog.info? 9).map (fun i => (i.zero, i.size, i.bytes)) = some (some (.string ⟨#[]⟩), 1, 16) := by kernel_rfl
theorem info_row : (Tryz.prog.info? 51).map (fun i => (i.zero, i.size, i.bytes)) = some (some (.slice none 0 0), 1, 24) := by kernel_rfl

/- a whole struct stored into a block that is known whole -/
theorem whole_abs {ops : Array Oper} {rest : List Oper} {o : Oper} {a : Act} {w : World} {Q : Exit → Act → World → Prop} (ty : TypeId) (x y : Operand) (ho : o.op = .store ty x y ∧ o.guard = none)
    (g : Nat) (cells : Array Value) (hx : a.eval x = .pointer (some ⟨g, 0, none⟩)) (hy : a.eval y = .agg cells) (T : TypeId) (old : Array Value) (hg : Blk w g T old) (hi : (Tryz.prog.info? ty).map (·.size) = some cells.size)
    (hold : old.size = cells.size) (h1 : cells.all (·.oneCell') = true)
    (h : ∀ w', Hid (Blk w' g T cells) → Hid (w.grownBy w' (some g)) → wpList Tryz.prog ops Q rest (a.put o.dst undef) w') : wpList Tryz.prog ops Q (o :: rest) a w :=
  wpList_store_row ho.2 ty x y ho.1 g cells hx hy T old hg hi hold h1 (h _ (blk_row hg cells) (grown_set _ _ _))
theorem wp_whole_abs {o : Oper} {a : Act} {w : World} {K : Act → World → Prop} {Q : Exit → Act → World → Prop} (ty : TypeId) (x y : Operand) (ho : o.op = .store ty x y)
    (g : Nat) (cells : Array Value) (hx : a.eval x = .pointer (some ⟨g, 0, none⟩)) (hy : a.eval y = .agg cells) (T : TypeId) (old : Array Value) (hg : Blk w g T old) (hi : (Tryz.prog.info? ty).map (·.size) = some cells.size)
    (hold : old.size = cells.size) (h1 : cells.all (·.oneCell') = true)
    (h : ∀ w', Blk w' g T cells → w.grownBy w' (some g) → K (a.put o.dst undef) w') : Oper.wp Tryz.prog o a w K Q :=
  wp_store_row ty x y ho g cells hx hy T old hg hi hold h1 (h _ (blk_row hg cells) (grown_set _ _ _))
/- a struct stored into the midst of a row -/
theorem wp_mid_abs {o : Oper} {a : Act} {w : World} {K : Act → World → Prop} {Q : Exit → Act → World → Prop} (ty : TypeId) (x y : Operand) (ho : o.op = .store ty x y)
    (g off : Nat) (cells : Array Value) (hx : a.eval x = .pointer (some ⟨g, off, none⟩)) (hy : a.eval y = .agg cells) (T : TypeId) (xs ys : List Value) (hg : Blk w g T xs.toArray) (hi : (Tryz.prog.info? ty).map (·.size) = some cells.size)
    (h1 : cells.all (·.oneCell') = true) (e : xs.take off ++ cells.toList ++ xs.drop (off + cells.toList.length) = ys) (hfit : off + cells.toList.length ≤ xs.length)
    (h : ∀ w', Blk w' g T ys.toArray → w.grownBy w' (some g) → K (a.put o.dst undef) w') : Oper.wp Tryz.prog o a w K Q := by
  refine wp_store_at ty x y ho g off cells hx hy T xs.toArray hg hi (by simpa using hfit) h1 (h _ ?_ (grown_set _ _ _))
  rw [List.toList_toArray, e]
  exact blk_row hg _
theorem mid_abs {ops : Array Oper} {rest : List Oper} {o : Oper} {a : Act} {w : World} {Q : Exit → Act → World → Prop} (ty : TypeId) (x y : Operand) (ho : o.op = .store ty x y ∧ o.guard = none)
    (g off : Nat) (cells : Array Value) (hx : a.eval x = .pointer (some ⟨g, off, none⟩)) (hy : a.eval y = .agg cells) (T : TypeId) (xs ys : List Value) (hg : Blk w g T xs.toArray) (hi : (Tryz.prog.info? ty).map (·.size) = some cells.size)
    (h1 : cells.all (·.oneCell') = true) (e : xs.take off ++ cells.toList ++ xs.drop (off + cells.toList.length) = ys) (hfit : off + cells.toList.length ≤ xs.length)
    (h : ∀ w', Hid (Blk w' g T ys.toArray) → Hid (w.grownBy w' (some g)) → wpList Tryz.prog ops Q rest (a.put o.dst undef) w') : wpList Tryz.prog ops Q (o :: rest) a w :=
  wpList_plain ho.2 fun _ hK => wp_mid_abs ty x y ho.1 g off cells hx hy T xs ys hg hi h1 e hfit fun w' h2 h3 => hK _ _ (h w' h2 h3)
/- a value of one cell stored into a row -/
theorem run_storeVar_one {P : Program} (w : World) (g off : Nat) (t ty : TypeId) (old : Array Value) (v : Value) (hg : w.heap[g]? = some (.cells old t (0, 0))) (hi : (P.info? ty).map (·.size) = some 1) (hv : v.cells = #[v])
    (ho : off < old.size) (h1 : v.oneCell' = true) :
    (storeVar ty ⟨g, off, none⟩ v).run P w = .ok () (w.setRow g (old.toList.take off ++ [v] ++ old.toList.drop (off + 1)).toArray) := by
  have := run_storeCells_at P g off t [v] 0 old w hg (by simp; omega) (fun u hu => by simp at hu; rw [hu]; exact h1)
  rw [Nat.add_zero] at this
  cases hq : P.info? ty with
  | none => simp [hq] at hi
  | some i =>
    have hs : i.size = 1 := by simp [hq] at hi; omega
    simp [storeVar, sizeOf, typeInfo, hq, hv, hs]
    simpa using this
theorem wp_one_abs {o : Oper} {a : Act} {w : World} {K : Act → World → Prop} {Q : Exit → Act → World → Prop} (ty : TypeId) (x y : Operand) (ho : o.op = .store ty x y)
    (g off : Nat) (v : Value) (hx : a.eval x = .pointer (some ⟨g, off, none⟩)) (hy : a.eval y = v) (hv : v.cells = #[v]) (h1 : v.oneCell' = true)
    (t : TypeId) (xs : List Value) (hR : Blk w g t xs.toArray) (hi : (Tryz.prog.info? ty).map (·.size) = some 1)
    (hold : off < xs.length)
    (h : ∀ w', Blk w' g t (xs.set off v).toArray → w.grownBy w' (some g) → K (a.put o.dst undef) w') : Oper.wp Tryz.prog o a w K Q := by
  have hrun := run_storeVar_one (P := Tryz.prog) w g off t ty xs.toArray v hR hi hv (by simpa using hold) h1
  have e : xs.take off ++ [v] ++ xs.drop (off + 1) = xs.set off v := by rw [List.set_eq_take_append_cons_drop, if_pos hold]; simp
  rw [List.toList_toArray, e] at hrun
  unfold Oper.wp execOp
  simp only [ho, hx, hy, Instr.storeAt, Instr.sureAddr, Sem.run_bind, Sem.run_pure, Result.andThen_ok, hrun]
  exact h _ (blk_row hR _) (grown_set _ _ _)
theorem one_abs {ops : Array Oper} {rest : List Oper} {o : Oper} {a : Act} {w : World} {Q : Exit → Act → World → Prop} (ty : TypeId) (x y : Operand) (ho : o.op = .store ty x y ∧ o.guard = none)
    (g off : Nat) (v : Value) (hx : a.eval x = .pointer (some ⟨g, off, none⟩)) (hy : a.eval y = v) (hv : v.cells = #[v]) (h1 : v.oneCell' = true)
    (t : TypeId) (xs : List Value) (hR : Blk w g t xs.toArray) (hi : (Tryz.prog.info? ty).map (·.size) = some 1) (hold : off < xs.length)
    (h : ∀ w', Hid (Blk w' g t (xs.set off v).toArray) → Hid (w.grownBy w' (some g)) → wpList Tryz.prog ops Q rest (a.put o.dst undef) w') : wpList Tryz.prog ops Q (o :: rest) a w :=
  wpList_plain ho.2 fun _ hK => wp_one_abs ty x y ho.1 g off v hx hy hv h1 t xs hR hi hold fun w' h2 h3 => hK _ _ (h w' h2 h3)

/- a row that is made -/
theorem blk_made {w : World} {B g n size : Nat} {e : TypeId} {xs : List Value} (h : w.ownsRow B e size (.slice (some ⟨g, 0, none⟩) n n) n xs) : Blk w g e xs.toArray := by
  rcases h.2 with ⟨e0, _⟩ | ⟨g', cap, cur, e0, hb, hg, hn, hm, hs, ht⟩
  · cases e0
  · injection e0 with e1 _ e3
    injection e1 with e1
    injection e1 with e1
    subst e1; subst e3
    rw [List.take_of_length_le (by rw [Array.length_toList, hs]; exact Nat.le_refl _)] at ht
    unfold Blk
    rw [← ht]
    simpa using hg
theorem wp_make_abs {o : Oper} {a : Act} {w : World} {K : Act → World → Prop} {Q : Exit → Act → World → Prop} (l c : Operand) (t : TypeId) (hop : o.op = Op.makeSlice t l c)
    (e : TypeId) (i : TypeInfo) (z : Value) (size : Nat) (h1 : Tryz.prog.underlying t = some (.slice e)) (h2 : Tryz.prog.info? e = some i) (h3 : i.zero = some z) (h4 : i.size = size)
    (kl kc : IntKind) (n : Nat) (hl : a.eval l = .int kl n) (hc : a.eval c = .int kc n) (b2 : i.bytes * n ≤ 281474976710656) (b3 : n ≤ maxLen) (G : Nat) (hG : w.heap.size = G)
    (hK : ∀ w', Blk w' G e (madeCells z.cells (n * size)) → Below w.heap.size w w' → K (a.put o.dst (.slice (some ⟨G, 0, none⟩) n n)) w') : Oper.wp Tryz.prog o a w K Q := by
  obtain ⟨w', hrun, r1, r2⟩ := run_make_full (P := Tryz.prog) w w.heap.size t e i z size h1 h2 h3 h4 kl kc n b2 b3 (Nat.le_refl _)
  subst hG
  unfold Oper.wp
  simp [execOp, hop, hl, hc, hrun, Result.andThen]
  refine hK _ ?_ ?_
  · have := blk_made r1
    simpa using this
  · exact (Below.refl w.heap.size w).grown r2 (Nat.le_refl _) (fun k hk => by cases hk)
theorem make_abs {ops : Array Oper} {rest : List Oper} {o : Oper} {a : Act} {w : World} {Q : Exit → Act → World → Prop} (l c : Operand) (t : TypeId) (hop : o.op = Op.makeSlice t l c ∧ o.guard = none)
    (e : TypeId) (i : TypeInfo) (z : Value) (size : Nat) (h1 : Tryz.prog.underlying t = some (.slice e)) (h2 : Tryz.prog.info? e = some i) (h3 : i.zero = some z) (h4 : i.size = size)
    (kl kc : IntKind) (n : Nat) (hl : a.eval l = .int kl n) (hc : a.eval c = .int kc n) (b2 : i.bytes * n ≤ 281474976710656) (b3 : n ≤ maxLen) (G : Nat) (hG : w.heap.size = G)
    (h : ∀ w', Hid (Blk w' G e (madeCells z.cells (n * size))) → Hid (Below w.heap.size w w') → wpList Tryz.prog ops Q rest (a.put o.dst (.slice (some ⟨G, 0, none⟩) n n)) w') : wpList Tryz.prog ops Q (o :: rest) a w :=
  wpList_plain hop.2 fun _ hK => wp_make_abs l c t hop.1 e i z size h1 h2 h3 h4 kl kc n hl hc b2 b3 G hG fun w' k1 k2 => hK _ _ (h w' k1 k2)
theorem rep_at (l : List Value) : ∀ (n q r : Nat), q < n → r < l.length → ((List.replicate n l).flatten)[q * l.length + r]? = l[r]?
  | 0, q, r, hq, _ => absurd hq (Nat.not_lt_zero _)
  | n + 1, q, r, hq, hr => by
    rw [List.replicate_succ, List.flatten_cons]
    cases q with
    | zero => rw [Nat.zero_mul, Nat.zero_add, List.getElem?_append_left hr]
    | succ q =>
      rw [List.getElem?_append_right (by rw [Nat.succ_mul]; omega), show (q + 1) * l.length + r - l.length = q * l.length + r by rw [Nat.succ_mul]; omega]
      exact rep_at l n q r (by omega) hr
theorem made_list (z : Value) (n : Nat) (l : List Value) (hl : z.cells.toList = l) (h0 : 0 < l.length) : madeCells z.cells (n * l.length) = ((List.replicate n l).flatten).toArray := by
  have hs : z.cells.size = l.length := by rw [← Array.length_toList, hl]
  have hlen : ((List.replicate n l).flatten).length = n * l.length := by simp
  unfold madeCells
  apply Array.ext_getElem?
  intro i
  rw [Array.getElem?_map, show ((List.replicate n l).flatten).toArray[i]? = ((List.replicate n l).flatten)[i]? from by simp]
  by_cases hi : i < n * l.length
  · have hm : i % l.length < l.length := Nat.mod_lt _ h0
    have e := rep_at l n (i / l.length) (i % l.length) (by rw [Nat.div_lt_iff_lt_mul h0]; exact hi) hm
    rw [Nat.mul_comm, Nat.div_add_mod] at e
    rw [e, Array.getElem?_eq_getElem (by simpa using hi)]
    simp only [Array.getElem_range, Option.map_some, hs]
    rw [getElem!_pos _ _ (by rw [hs]; exact hm), ← Array.getElem?_eq_getElem (by rw [hs]; exact hm), ← Array.getElem?_toList, hl]
  · rw [Array.getElem?_eq_none (by simpa using hi), List.getElem?_eq_none (by omega)]
    rfl

end Go.Proofs.YtkfemnjblbnclaaGreatDoor
