/- Laws on copy, on append where there is room, on clear and on a store into a row, at elements of any size. Of no program. A list of triples opened for one more, and without one: package store's opened, slices.Delete. -/
import Derived.Maps.AppendAt
import Derived.Laws.CopyRow
import Derived.Laws.CopyOwn
import Derived.Tactics
import Derived.Deep.RegionHeld3
import Derived.Test.YtnojdchodmogbaaGreatStoCmp
import Derived.Test.YtnojdchodmogbaaGreatRefReads
import Derived.Test.YtnojdchodmogbaaGreatStoBox
namespace Go.Proofs.YtnojdchodmogbaaGreat

section
variable {P : Program}

theorem run_copy_sized (w : World) (dT sT ty elem : TypeId) (i : TypeInfo) (hu : P.underlying dT = some (.slice elem)) (hi : P.info? elem = some i)
    (g off dLen dCap : Nat) (ad : Addr) (sLen sCap m : Nat) (hm : Nat.min sLen dLen = m) (cur : Array Value) (t : TypeId) (hg : w.heap[g]? = some (.cells cur t (0, 0)))
    (cs : List Value) (hn : cs.length = m * i.size) (hsrc : ∀ j v, cs[j]? = some v → w.cell? (ad.add j) = some v) (hfit : off + cs.length ≤ cur.size) (h1 : ∀ v ∈ cs, v.oneCell' = true) :
    (Builtin.copy_ #[dT, sT] ty #[.slice (some ⟨g, off, none⟩) dLen dCap, .slice (some ad) sLen sCap]).run P w =
      .ok (goInt m) (w.setRow g (cur.toList.take off ++ cs ++ cur.toList.drop (off + cs.length)).toArray) := by
  have hf := run_firstCells_some (P := P) w i.size m ad sLen sCap cs hn hsrc
  have hst := run_storeCells_at P g off t cs 0 cur w hg (by simpa using hfit) h1
  rw [Nat.add_zero] at hst
  simp [Builtin.copy_, run_underlying hu, Builtin.lenOf, sizeOf, typeInfo, hi, hm, hf, hst]

theorem run_copy_zero (w : World) (dT sT ty elem : TypeId) (i : TypeInfo) (hu : P.underlying dT = some (.slice elem)) (hi : P.info? elem = some i)
    (d a : Option Addr) (dLen dCap sLen sCap : Nat) (hn : Nat.min sLen dLen = 0) :
    (Builtin.copy_ #[dT, sT] ty #[.slice d dLen dCap, .slice a sLen sCap]).run P w = .ok (goInt 0) w := by
  have hl : ∀ (x : Addr), (loadCells x 0).run P w = .ok #[] w := fun x => by simpa using run_loadCells_list (P := P) w x [] (by simp)
  cases d <;> cases a <;> simp [Builtin.copy_, run_underlying hu, Builtin.lenOf, Builtin.firstCells, sizeOf, typeInfo, hi, hn, storeCells, hl]

theorem wp_copy_sized {o : Oper} {a : Act} {w : World} {K : Act → World → Prop} {Q : Exit → Act → World → Prop} (d s : Operand) (dT sT : TypeId)
    (ho : o.op = .call { callee := .builtin .copy, args := #[d, s], argTypes := #[dT, sT] }) (elem : TypeId) (i : TypeInfo) (hu : P.underlying dT = some (.slice elem)) (hi : P.info? elem = some i)
    (g off dLen dCap : Nat) (ad : Addr) (sLen sCap m : Nat) (hd : a.eval d = .slice (some ⟨g, off, none⟩) dLen dCap) (hs : a.eval s = .slice (some ad) sLen sCap) (hm : Nat.min sLen dLen = m)
    (cur : Array Value) (t : TypeId) (hg : w.heap[g]? = some (.cells cur t (0, 0)))
    (cs : List Value) (hn : cs.length = m * i.size) (hsrc : ∀ j v, cs[j]? = some v → w.cell? (ad.add j) = some v) (hfit : off + cs.length ≤ cur.size) (h1 : ∀ v ∈ cs, v.oneCell' = true)
    (h : K (a.put o.dst (goInt m)) (w.setRow g (cur.toList.take off ++ cs ++ cur.toList.drop (off + cs.length)).toArray)) : Oper.wp P o a w K Q := by
  have hrun := run_copy_sized (P := P) w dT sT o.type elem i hu hi g off dLen dCap ad sLen sCap m hm cur t hg cs hn hsrc hfit h1
  unfold Oper.wp execOp
  simp only [ho, resolve, invoke, builtin, Sem.run_bind, Sem.run_pure, Result.andThen_ok, List.map_toArray, List.map_cons, List.map_nil, hd, hs, hrun]
  exact h
theorem wp_copy_zero {o : Oper} {a : Act} {w : World} {K : Act → World → Prop} {Q : Exit → Act → World → Prop} (d s : Operand) (dT sT : TypeId)
    (ho : o.op = .call { callee := .builtin .copy, args := #[d, s], argTypes := #[dT, sT] }) (elem : TypeId) (i : TypeInfo) (hu : P.underlying dT = some (.slice elem)) (hi : P.info? elem = some i)
    (da sa : Option Addr) (dLen dCap sLen sCap : Nat) (hd : a.eval d = .slice da dLen dCap) (hs : a.eval s = .slice sa sLen sCap) (hn : Nat.min sLen dLen = 0)
    (h : K (a.put o.dst (goInt 0)) w) : Oper.wp P o a w K Q := by
  have hrun := run_copy_zero (P := P) w dT sT o.type elem i hu hi da sa dLen dCap sLen sCap hn
  unfold Oper.wp execOp
  simp only [ho, resolve, invoke, builtin, Sem.run_bind, Sem.run_pure, Result.andThen_ok, List.map_toArray, List.map_cons, List.map_nil, hd, hs, hrun]
  exact h

theorem wp_append_room {o : Oper} {a : Act} {w : World} {K : Act → World → Prop} {Q : Exit → Act → World → Prop} (s x : Operand) (t : TypeId)
    (ho : o.op = .call { callee := .builtin .append, args := #[s, x], argTypes := #[t, t] }) (e : TypeId) (i : TypeInfo) (ht : P.underlying t = some (.slice e)) (hi : P.info? e = some i)
    (g sLen sCap : Nat) (cur : Array Value) (hg : w.heap[g]? = some (.cells cur e (0, 0))) (ad : Addr) (m c : Nat) (news : List Value)
    (hs : a.eval s = .slice (some ⟨g, 0, none⟩) sLen sCap) (hx : a.eval x = .slice (some ad) m c)
    (hl : news.length = m * i.size) (hnews : ∀ j u, news[j]? = some u → w.cell? (ad.add j) = some u) (h1 : ∀ u ∈ news, u.oneCell' = true)
    (hroom : sLen + m ≤ sCap) (hfit : sLen * i.size + news.length ≤ cur.size)
    (h : K (a.put o.dst (.slice (some ⟨g, 0, none⟩) (sLen + m) sCap)) (w.setRow g (cur.toList.take (sLen * i.size) ++ news ++ cur.toList.drop (sLen * i.size + news.length)).toArray)) : Oper.wp P o a w K Q := by
  have hrun := run_append_room (P := P) w t o.type e i ht hi g sLen sCap cur hg ad m c news hl hnews h1 hroom hfit
  unfold Oper.wp execOp
  simp only [ho, resolve, invoke, builtin, Sem.run_bind, Sem.run_pure, Result.andThen_ok, List.map_toArray, List.map_cons, List.map_nil, hs, hx, hrun]
  exact h

theorem run_clear_row (w : World) (t ty e : TypeId) (i : TypeInfo) (z : Value) (ht : P.underlying t = some (.slice e)) (hi : P.info? e = some i) (hz : i.zero = some z)
    (g off n cap : Nat) (cur : Array Value) (tt : TypeId) (hg : w.heap[g]? = some (.cells cur tt (0, 0))) (hn : 0 < n) (hfit : off + n * z.cells.size ≤ cur.size) (h1 : ∀ u ∈ (Builtin.zeroCells z.cells n).toList, u.oneCell' = true) :
    (Builtin.clear_ #[t] ty #[.slice (some ⟨g, off, none⟩) n cap]).run P w =
      .ok (.tuple #[]) (w.setRow g (cur.toList.take off ++ (Builtin.zeroCells z.cells n).toList ++ cur.toList.drop (off + (Builtin.zeroCells z.cells n).toList.length)).toArray) := by
  have hst := run_storeCells_at P g off tt (Builtin.zeroCells z.cells n).toList 0 cur w hg (by simpa [size_zeroCells] using hfit) h1
  rw [Nat.add_zero] at hst
  obtain ⟨n', rfl⟩ : ∃ n', n = n' + 1 := ⟨n - 1, by omega⟩
  simp [Builtin.clear_, run_underlying ht, zeroValue, typeInfo, hi, hz, hst]

theorem wpList_clear_row {ops : Array Oper} {rest : List Oper} {o : Oper} {a : Act} {w : World} {Q : Exit → Act → World → Prop} (hgd : o.guard = none) (s : Operand) (t : TypeId)
    (ho : o.op = .call { callee := .builtin .clear, args := #[s], argTypes := #[t] }) (e : TypeId) (i : TypeInfo) (z : Value) (ht : P.underlying t = some (.slice e)) (hi : P.info? e = some i) (hz : i.zero = some z)
    (g off n cap : Nat) (cur : Array Value) (tt : TypeId) (hg : w.heap[g]? = some (.cells cur tt (0, 0))) (hs : a.eval s = .slice (some ⟨g, off, none⟩) n cap) (hn : 0 < n) (hfit : off + n * z.cells.size ≤ cur.size)
    (h1 : ∀ u ∈ (Builtin.zeroCells z.cells n).toList, u.oneCell' = true)
    (h : wpList P ops Q rest (a.put o.dst (.tuple #[])) (w.setRow g (cur.toList.take off ++ (Builtin.zeroCells z.cells n).toList ++ cur.toList.drop (off + (Builtin.zeroCells z.cells n).toList.length)).toArray)) : wpList P ops Q (o :: rest) a w := by
  refine wpList_plain hgd fun K hK => ?_
  have hrun := run_clear_row (P := P) w t o.type e i z ht hi hz g off n cap cur tt hg hn hfit h1
  unfold Oper.wp execOp
  simp only [ho, resolve, invoke, builtin, Sem.run_bind, Sem.run_pure, Result.andThen_ok, List.map_toArray, List.map_cons, List.map_nil, hs, hrun]
  exact hK _ _ h

theorem run_storeVar_at (w : World) (g off : Nat) (t ty : TypeId) (old cells : Array Value) (hg : w.heap[g]? = some (.cells old t (0, 0))) (hi : (P.info? ty).map (·.size) = some cells.size)
    (ho : off + cells.size ≤ old.size) (h1 : cells.all (·.oneCell') = true) :
    (storeVar ty ⟨g, off, none⟩ (.agg cells)).run P w = .ok () (w.setRow g (old.toList.take off ++ cells.toList ++ old.toList.drop (off + cells.toList.length)).toArray) := by
  have := run_storeCells_at P g off t cells.toList 0 old w hg (by simpa using ho) (fun v hv => (Array.all_eq_true_iff_forall_mem.1 h1) v (by simpa using hv))
  rw [Nat.add_zero] at this
  cases hq : P.info? ty with
  | none => simp [hq] at hi
  | some i =>
    have hs : cells.size = i.size := by simp [hq] at hi; omega
    simp [storeVar, sizeOf, typeInfo, hq, Value.cells, hs, this]
theorem wp_store_at {o : Oper} {a : Act} {w : World} {K : Act → World → Prop} {Q : Exit → Act → World → Prop} (ty : TypeId) (x y : Operand) (ho : o.op = .store ty x y)
    (g off : Nat) (cells : Array Value) (hx : a.eval x = .pointer (some ⟨g, off, none⟩)) (hy : a.eval y = .agg cells)
    (t : TypeId) (old : Array Value) (hg : w.heap[g]? = some (.cells old t (0, 0))) (hi : (P.info? ty).map (·.size) = some cells.size)
    (hold : off + cells.size ≤ old.size) (h1 : cells.all (·.oneCell') = true)
    (h : K (a.put o.dst undef) (w.setRow g (old.toList.take off ++ cells.toList ++ old.toList.drop (off + cells.toList.length)).toArray)) : o.wp P a w K Q := by
  unfold Oper.wp execOp
  simp only [ho, hx, hy, Instr.storeAt, Instr.sureAddr, Sem.run_bind, Sem.run_pure, Result.andThen_ok, run_storeVar_at w g off t ty old cells hg hi hold h1]
  exact h
theorem wpList_store_at {ops : Array Oper} {rest : List Oper} {o : Oper} {a : Act} {w : World} {Q : Exit → Act → World → Prop} (hgd : o.guard = none) (ty : TypeId) (x y : Operand) (ho : o.op = .store ty x y)
    (g off : Nat) (cells : Array Value) (hx : a.eval x = .pointer (some ⟨g, off, none⟩)) (hy : a.eval y = .agg cells)
    (t : TypeId) (old : Array Value) (hg : w.heap[g]? = some (.cells old t (0, 0))) (hi : (P.info? ty).map (·.size) = some cells.size)
    (hold : off + cells.size ≤ old.size) (h1 : cells.all (·.oneCell') = true)
    (h : wpList P ops Q rest (a.put o.dst undef) (w.setRow g (old.toList.take off ++ cells.toList ++ old.toList.drop (off + cells.toList.length)).toArray)) : wpList P ops Q (o :: rest) a w :=
  wpList_plain hgd fun _ hK => wp_store_at ty x y ho g off cells hx hy t old hg hi hold h1 (hK _ _ h)

end
end Go.Proofs.YtnojdchodmogbaaGreat

namespace Go.Proofs.YtnojdchodmogbaaGreat
open Go.RowKit

theorem info_triple : (Tryz.prog.info? 29).map (fun i => (i.zero, i.size, i.bytes)) = some (some noTrip.v, 12, 168) := by kernel_rfl
theorem news12 (W : World) (T : TypeId) (a b c d e f g h i j k l : Value) : ∀ n u, [a, b, c, d, e, f, g, h, i, j, k, l][n]? = some u → (W.alloc (.cells #[a, b, c, d, e, f, g, h, i, j, k, l] T)).cell? ((⟨W.heap.size, 0, none⟩ : Addr).add n) = some u := by
  intro n u hu
  have e1 : ((⟨W.heap.size, 0, none⟩ : Addr).add n) = ⟨W.heap.size, n, none⟩ := by
    cases n with
    | zero => simp [Addr.add]
    | succ n => simp [Addr.add]
  rw [e1, blk_cell (blk_new W T _)]
  simpa using hu
theorem news12b (W : World) (T : TypeId) (a b c d e f g h i j k l : Value) {X : Nat} (hX : X = W.heap.size) : ∀ n u, [a, b, c, d, e, f, g, h, i, j, k, l][n]? = some u → (W.alloc (.cells #[a, b, c, d, e, f, g, h, i, j, k, l] T)).cell? ((⟨X, 0, none⟩ : Addr).add n) = some u := by
  subst hX
  exact news12 W T a b c d e f g h i j k l

/- a row that is known whole: xs ahead, whatever behind -/
def RowIs (w : World) (g cap : Nat) (xs R : List Value) : Prop := w.heap[g]? = some (.cells (xs ++ R).toArray 29 (0, 0)) ∧ (xs ++ R).length = cap * 12 ∧ cap ≤ maxLen
theorem row_of {w : World} {B n : Nat} {v : Value} {xs : List Value} (h : w.ownsRow B 29 12 v n xs) (hn : 0 < n) : ∃ g cap R, v = .slice (some ⟨g, 0, none⟩) n cap ∧ n ≤ cap ∧ B ≤ g ∧ Hid (RowIs w g cap xs R) := by
  rcases h.2 with ⟨_, h0⟩ | ⟨g, cap, cur, hv, hg, hh, hnc, hcm, hcs, ht⟩
  · omega
  · refine ⟨g, cap, cur.toList.drop (n * 12), hv, hnc, hg, (show RowIs w g cap xs (cur.toList.drop (n * 12)) from ⟨?_, ?_, hcm⟩)⟩
    · rw [← ht, List.take_append_drop]; simpa using hh
    · rw [← ht, List.take_append_drop]; simpa using hcs
theorem row_owns {w : World} {B g cap n : Nat} {xs R : List Value} (h : RowIs w g cap xs R) (hl : xs.length = n * 12) (hn : n ≤ cap) (hB : B ≤ g) : w.ownsRow B 29 12 (.slice (some ⟨g, 0, none⟩) n cap) n xs :=
  ⟨hl, .inr ⟨g, cap, _, rfl, hB, h.1, hn, h.2.2, by simpa using h.2.1, by rw [← hl]; simp⟩⟩
theorem row_cells {w : World} {g cap : Nat} {xs R : List Value} (h : RowIs w g cap xs R) (o : Nat) : ∀ j v, (xs.drop o)[j]? = some v → w.cell? ((⟨g, o, none⟩ : Addr).add j) = some v := by
  intro j v hj
  have e1 : (⟨g, o, none⟩ : Addr).add j = ⟨g, o + j, none⟩ := by unfold Addr.add; split <;> simp_all
  rw [e1, cell_of_row w g (o + j) _ _ (0, 0) h.1]
  rw [List.getElem?_drop] at hj
  simp [List.getElem?_append_left (List.getElem?_eq_some_iff.1 hj).1, hj]
theorem row_lt {w : World} {g cap : Nat} {xs R : List Value} (h : RowIs w g cap xs R) : g < w.heap.size := (Array.getElem?_eq_some_iff.1 h.1).1
/- the row behind a store of cells into it -/
theorem row_set {w : World} {g cap : Nat} {xs R ys S : List Value} (h : RowIs w g cap xs R) (off : Nat) (cs : List Value) (e : (xs ++ R).take off ++ cs ++ (xs ++ R).drop (off + cs.length) = ys ++ S) (hfit : off + cs.length ≤ (xs ++ R).length) :
    RowIs (w.setRow g ((xs ++ R).toArray.toList.take off ++ cs ++ (xs ++ R).toArray.toList.drop (off + cs.length)).toArray) g cap ys S := by
  rw [List.toList_toArray, e]
  refine ⟨setRow_heap w g _ _ _ _ h.1, ?_, h.2.2⟩
  rw [← e, ← h.2.1, List.length_append, List.length_append, List.length_take, List.length_drop]
  omega
theorem grown_set (w : World) (g : Nat) (cs : Array Value) : w.grownBy (w.setRow g cs) (some g) := ⟨rfl, rfl, rfl, by simp, fun k _ hk => setRow_other w g k cs (fun e => hk (by simp [e]))⟩
theorem grown_drewN (w : World) (n : Nat) (row : Option Nat) : w.grownBy (w.drewN n) row := ⟨rfl, rfl, rfl, Nat.le_refl _, fun _ _ _ => rfl⟩
theorem grown_drew (w : World) (row : Option Nat) : w.grownBy w.drew row := ⟨rfl, rfl, rfl, Nat.le_refl _, fun _ _ _ => rfl⟩
theorem grown_refl (w : World) (row : Option Nat) : w.grownBy w row := ⟨rfl, rfl, rfl, Nat.le_refl _, fun _ _ _ => rfl⟩
/- first append's row, then the same or a new one -/
theorem grown_then {a b c : World} {row row2 : Option Nat} (h : a.grownBy b row) (k : b.grownBy c row2) (hr : row2 = row ∨ ∃ g, row2 = some g ∧ a.heap.size ≤ g) : a.grownBy c row := by
  refine ⟨k.os.trans h.os, k.tape.trans h.tape, k.output.trans h.output, Nat.le_trans h.size k.size, fun i hi hne => ?_⟩
  rw [k.block i (Nat.lt_of_lt_of_le hi h.size) ?_]
  · exact h.block i hi hne
  · rcases hr with rfl | ⟨g, rfl, hg⟩
    · exact hne
    · intro e; injection e with e; omega

/- a triple stored into a row; the world behind it is a name -/
theorem store_abs {ops : Array Oper} {rest : List Oper} {o : Oper} {a : Act} {w : World} {Q : Exit → Act → World → Prop} (ty : TypeId) (x y : Operand) (ho : o.op = .store ty x y ∧ o.guard = none)
    (g cap off : Nat) (cells : Array Value) (hx : a.eval x = .pointer (some ⟨g, off, none⟩)) (hy : a.eval y = .agg cells) (hi : (Tryz.prog.info? ty).map (·.size) = some cells.size) (h1 : cells.all (·.oneCell') = true)
    (xs R ys S : List Value) (hR : RowIs w g cap xs R) (e : (xs ++ R).take off ++ cells.toList ++ (xs ++ R).drop (off + cells.toList.length) = ys ++ S) (hfit : off + cells.toList.length ≤ (xs ++ R).length)
    (h : ∀ w', Hid (RowIs w' g cap ys S) → Hid (w.grownBy w' (some g)) → wpList Tryz.prog ops Q rest (a.put o.dst undef) w') : wpList Tryz.prog ops Q (o :: rest) a w :=
  wpList_store_at ho.2 ty x y ho.1 g off cells hx hy 29 (xs ++ R).toArray hR.1 hi (by simpa using hfit) h1 (h _ (row_set hR off cells.toList e hfit) (grown_set _ _ _))

/- lists of cells -/
theorem open_mid (a d c R : List Value) (hc : c.length = 12) : ((a ++ d ++ c) ++ R).take (a.length + 12) ++ d ++ ((a ++ d ++ c) ++ R).drop (a.length + 12 + d.length) = (a ++ (d ++ c).take 12 ++ d) ++ R := by
  have e1 : ((a ++ d ++ c) ++ R).take (a.length + 12) = a ++ (d ++ c).take 12 := by
    rw [show (a ++ d ++ c) ++ R = a ++ ((d ++ c) ++ R) by simp, List.take_length_add_append, List.take_append_of_le_length (by simp; omega)]
  have e2 : ((a ++ d ++ c) ++ R).drop (a.length + 12 + d.length) = R := by
    rw [show a.length + 12 + d.length = (a ++ d ++ c).length by simp; omega, List.drop_left]
  rw [e1, e2]
theorem open_end (a d c R : List Value) (hc : c.length = 12) : ((a ++ (d ++ c).take 12 ++ d) ++ R).take a.length ++ c ++ ((a ++ (d ++ c).take 12 ++ d) ++ R).drop (a.length + c.length) = (a ++ c ++ d) ++ R := by
  have e1 : ((a ++ (d ++ c).take 12 ++ d) ++ R).take a.length = a := by
    rw [show (a ++ (d ++ c).take 12 ++ d) ++ R = a ++ ((d ++ c).take 12 ++ d ++ R) by simp, List.take_left]
  have e2 : ((a ++ (d ++ c).take 12 ++ d) ++ R).drop (a.length + c.length) = d ++ R := by
    rw [show (a ++ (d ++ c).take 12 ++ d) ++ R = (a ++ (d ++ c).take 12) ++ (d ++ R) by simp, show a.length + c.length = (a ++ (d ++ c).take 12).length by simp; omega, List.drop_left]
  rw [e1, e2]; simp
theorem cells_split (l : List TripL) (k : Nat) : tripCells l = tripCells (l.take k) ++ tripCells (l.drop k) := by rw [← tripCells_append, List.take_append_drop]
theorem cells_insAt (l : List TripL) (k : Nat) (t : TripL) : tripCells (insAt l k t) = tripCells (l.take k) ++ t.cells ++ tripCells (l.drop k) := by
  unfold insAt
  rw [show t :: l.drop k = [t] ++ l.drop k from rfl, tripCells_append, tripCells_append, tripCells_one, List.append_assoc]
theorem cells_one (l : List TripL) : ∀ u ∈ tripCells l, u.oneCell' = true := by
  intro u hu
  unfold tripCells at hu
  obtain ⟨t, _, ht⟩ := List.mem_flatMap.1 hu
  simp only [TripL.cells, TermL.cells, List.mem_append, List.mem_cons, List.not_mem_nil, or_false] at ht
  rcases ht with (rfl | rfl | rfl | rfl) | (rfl | rfl | rfl | rfl) | (rfl | rfl | rfl | rfl) <;> rfl

/- what opened leaves -/
def OpenT (B : Nat) (l : List TripL) (k : Nat) (t : TripL) (v : Value) (w : World) (e : Ending) (w' : World) : Prop :=
  ∃ v', e = .returned v' ∧ w'.ownsRow B 29 12 v' (l.length + 1) (tripCells (insAt l k t)) ∧ w.grownBy w' v.ownBlock ∧ (v'.ownBlock = v.ownBlock ∨ ∃ g, v'.ownBlock = some g ∧ w.heap.size ≤ g)

set_option maxRecDepth 100000 in
set_option maxHeartbeats 4000000 in
theorem opened_calls (l : List TripL) (k : Nat) (t : TripL) (B : Nat) (v : Value) (w : World) (hk : k ≤ l.length) (hl : l.length ≤ 4096) (hB : B ≤ w.heap.size) (hown : w.ownsRow B 29 12 v l.length (tripCells l)) :
    Calls Tryz.prog 37 #[v, .int .i64 k, t.v] w (OpenT B l k t v w) := by
  obtain ⟨i0, hi, hz0, hz1, hz2⟩ := info_parts info_triple
  obtain ⟨N, hN⟩ : ∃ N, l.length = N := ⟨_, rfl⟩
  have hsplit : tripCells l ++ t.cells = tripCells (l.take k) ++ tripCells (l.drop k) ++ t.cells := by rw [← cells_split]
  have ha : (tripCells (l.take k)).length = k * 12 := by rw [tripCells_length, List.length_take]; omega
  have hd : (tripCells (l.drop k)).length = (N - k) * 12 := by rw [tripCells_length, List.length_drop, hN]
  have hins := cells_insAt l k t
  have hdone := cells_one (l.drop k)
  have hil := length_insAt l k t
  rw [hN] at hown hk hl hil
  generalize tripCells (l.take k) = a at hsplit ha hins
  generalize tripCells (l.drop k) = d at hsplit hd hins hdone
  generalize tripCells l = lc at hown hsplit
  have HSP := Lib.hid hsplit
  have HA := Lib.hid ha
  have HD := Lib.hid hd
  have HI := Lib.hid hins
  have HDO := Lib.hid hdone
  have HN := Lib.hid hN
  clear hsplit ha hd hins hdone hN hil
  simp only [TripL.v]
  go_enter Tryz.func37, Tryz.ntmps37
  go_wp2_with (at_builtin; go_must (refine wpList_append_own_at _ rfl (.tmp 7) (.tmp 9) 25 rfl B 29 i0 noTrip.v 12 168 Tryz.underlying25 hi hz0 hz1 hz2 rfl (by decide) _ _ _ rfl ((hown.alloc _).alloc _) ⟨w.heap.size + 1, 0, none⟩ 1 1 [.int .i64 t.s.k, .string (bs t.s.x), .string (bs t.s.y), .string (bs t.s.z), .int .i64 t.p.k, .string (bs t.p.x), .string (bs t.p.y), .string (bs t.p.z), .int .i64 t.o.k, .string (bs t.o.x), .string (bs t.o.y), .string (bs t.o.z)] rfl rfl (news12b _ _ _ _ _ _ _ _ _ _ _ _ _ _ (by simp)) (by intro u hu; simp at hu; rcases hu with rfl | rfl | rfl | rfl | rfl | rfl | rfl | rfl | rfl | rfl | rfl | rfl <;> rfl) (by unfold maxLen; omega) (by omega) (by simp; omega) ?_; intro v3 w3 hO hG hNl hA; obtain ⟨g, cap, R, rfl, hcap, hBg, HR⟩ := row_of hO (Nat.succ_pos _); clear hO hNl; have HG := Lib.hid hG; clear hG; have HAT := Lib.hid hA; clear hA))
  have hlt := Lib.hid (row_lt HR.out)
  have hwr : IntKind.i64.wrap ((k : Int) + 1) = (k : Int) + 1 := by simp [IntKind.wrap, IntKind.bits, IntKind.signed]; omega
  by_cases hkn : k < N
  · have HR3 := HR.out
    rw [show (lc ++ [.int .i64 t.s.k, .string (bs t.s.x), .string (bs t.s.y), .string (bs t.s.z), .int .i64 t.p.k, .string (bs t.p.x), .string (bs t.p.y), .string (bs t.p.z), .int .i64 t.o.k, .string (bs t.o.x), .string (bs t.o.y), .string (bs t.o.z)]) = a ++ d ++ t.cells from HSP.out] at HR3
    have HR3' := Lib.hid HR3
    clear HR3
    refine wp_region_held_drew (S := (fun _ => True)) (by kernel_rfl) ?_ (fun hHeld => ?_)
    · (try dsimp only); (try trivial)
    refine wpAnyH_take (i := 0) (oi := ⟨some 11, _, _, _, _, _⟩) (v := ?_) rfl (by kernel_rfl) (by kernel_rfl) (by kernel_rfl) (fun _ _ _ h => h) (Or.inl ⟨by kernel_rfl, ?_⟩) (by assumption) ?_
    rotate_left
    · (intro ww hSw; (try dsimp only at hSw); go_simp); (try with_reducible rfl)
    (try simp only [Act.put, List.setIfInBounds_toArray, List.set_cons_zero, List.set_cons_succ])
    refine wpAnyH_take (i := 1) (oi := ⟨some 12, _, _, _, _, _⟩) (v := ?_) rfl (by kernel_rfl) (by kernel_rfl) (by kernel_rfl) (fun _ _ _ h => h) (Or.inl ⟨by kernel_rfl, ?_⟩) (by assumption) ?_
    rotate_left
    · (intro ww hSw; (try dsimp only at hSw); go_simp); (try with_reducible rfl)
    (try simp only [Act.put, List.setIfInBounds_toArray, List.set_cons_zero, List.set_cons_succ])
    refine wpAnyH_take (i := 2) (oi := ⟨some 13, _, _, _, _, _⟩) (v := ?_) rfl (by kernel_rfl) (by kernel_rfl) (by kernel_rfl) (fun _ _ _ h => h) (Or.inl ⟨by kernel_rfl, ?_⟩) (by assumption) ?_
    rotate_left
    · (intro ww hSw; (try dsimp only at hSw); go_simp); (try with_reducible rfl)
    (try simp only [Act.put, List.setIfInBounds_toArray, List.set_cons_zero, List.set_cons_succ])
    refine wpAnyH_take (i := 3) (oi := ⟨some 14, _, _, _, _, _⟩) (v := .slice (some ⟨g, (k + 1) * 12, none⟩) (N + 1 - (k + 1)) (cap - (k + 1))) rfl (by kernel_rfl) (by kernel_rfl) (by kernel_rfl) (fun _ _ _ h => h) (Or.inl ⟨by kernel_rfl, ?_⟩) (by assumption) ?_
    · (intro ww hSw; (try dsimp only at hSw); have h1 : (0 : Int) ≤ (k : Int) + 1 := (by omega); have h2 : (k : Int) + 1 ≤ ((N + 1 : Nat) : Int) := (by omega); have h3 : ¬ cap = k + 1 := (by omega); go_simp; (try simp [h3]); (try omega))
    (try simp only [Act.put, List.setIfInBounds_toArray, List.set_cons_zero, List.set_cons_succ])
    refine wpAnyH_take (i := 4) (oi := ⟨some 15, _, _, _, _, _⟩) (v := ?_) rfl (by kernel_rfl) (by kernel_rfl) (by kernel_rfl) (fun _ _ _ h => h) (Or.inl ⟨by kernel_rfl, ?_⟩) (by assumption) ?_
    rotate_left
    · (intro ww hSw; (try dsimp only at hSw); go_simp); (try with_reducible rfl)
    (try simp only [Act.put, List.setIfInBounds_toArray, List.set_cons_zero, List.set_cons_succ])
    refine wpAnyH_take (i := 5) (oi := ⟨some 16, _, _, _, _, _⟩) (v := ?_) rfl (by kernel_rfl) (by kernel_rfl) (by kernel_rfl) (fun _ _ _ h => h) (Or.inl ⟨by kernel_rfl, ?_⟩) (by assumption) ?_
    rotate_left
    · (intro ww hSw; (try dsimp only at hSw); go_simp); (try with_reducible rfl)
    (try simp only [Act.put, List.setIfInBounds_toArray, List.set_cons_zero, List.set_cons_succ])
    refine wpAnyH_take (i := 6) (oi := ⟨some 17, _, _, _, _, _⟩) (v := .slice (some ⟨g, k * 12, none⟩) (N + 1 - k) (cap - k)) rfl (by kernel_rfl) (by kernel_rfl) (by kernel_rfl) (fun _ _ _ h => h) (Or.inl ⟨by kernel_rfl, ?_⟩) (by assumption) ?_
    · (intro ww hSw; (try dsimp only at hSw); have h1 : (0 : Int) ≤ (k : Int) := (by omega); have h2 : (k : Int) ≤ ((N + 1 : Nat) : Int) := (by omega); have h3 : ¬ cap = k := (by omega); go_simp; (try simp [h3]); (try omega))
    (try simp only [Act.put, List.setIfInBounds_toArray, List.set_cons_zero, List.set_cons_succ])
    refine wpAnyH_ready (rs := [7]) (by kernel_rfl) (by simp) ?_
    refine AllReadyH.cons rfl (fun K hK => ?_) AllReadyH.nil
    refine wp_copy_sized (.tmp 14) (.tmp 17) 25 25 rfl 29 i0 Tryz.underlying25 hi g ((k + 1) * 12) (N + 1 - (k + 1)) (cap - (k + 1)) ⟨g, k * 12, none⟩ (N + 1 - k) (cap - k) (N - k) (by kernel_rfl) (by kernel_rfl) (by show min _ _ = _; omega) (a ++ d ++ t.cells ++ R).toArray 29 HR3'.out.1 d (by rw [hz1]; exact HD.out) ?_ ?_ HDO.out ?_
    · intro j u hj; exact row_cells HR3'.out (k * 12) j u (by rw [← HA.out, List.append_assoc, List.drop_left, List.getElem?_append_left (List.getElem?_eq_some_iff.1 hj).1]; exact hj)
    · have := HR3'.out.2.1; rw [HD.out]; rw [List.size_toArray, this]; omega
    change K (Act.put _ (some 18) _) _
    refine hK.out _ _ ?_ (fun hHeld => ?_)
    · (try dsimp only); (try trivial)
    clear hK K
    (try simp only [Act.put, List.setIfInBounds_toArray, List.set_cons_zero, List.set_cons_succ])
    refine wpAnyH_done (by kernel_rfl) ?_ _
    obtain ⟨W4, hW4⟩ : ∃ W4, w3.drew.setRow g (List.take ((k + 1) * 12) (a ++ d ++ t.cells ++ R) ++ d ++ List.drop ((k + 1) * 12 + d.length) (a ++ d ++ t.cells ++ R)).toArray = W4 := ⟨_, rfl⟩
    rw [hW4]
    have HR4 : RowIs W4 g cap (a ++ (d ++ t.cells).take 12 ++ d) R := by
      rw [← hW4]
      have := row_set (w := w3.drew) (ys := a ++ (d ++ t.cells).take 12 ++ d) (S := R) HR3'.out ((k + 1) * 12) d (by rw [show (k + 1) * 12 = a.length + 12 by rw [HA.out]; omega]; exact open_mid a d t.cells R rfl) (by have := HR3'.out.2.1; rw [HD.out, this]; omega)
      rwa [List.toList_toArray] at this
    have HG4 : w3.grownBy W4 (some g) := by rw [← hW4]; exact grown_then (grown_drew w3 (some g)) (grown_set _ _ _) (.inl rfl)
    clear hW4
    have HG4' := Lib.hid HG4
    have HR4' := Lib.hid HR4
    clear HG4 HR4
    have hgn := Lib.hid (show g ≠ w.heap.size by
      rcases HAT.out with h | h
      · intro e
        have := hown.lt g h.symm
        omega
      · simp [Value.ownBlock] at h; omega)
    have bx : Box12 W4 w.heap.size t := by
      have b0 : Blk ((w.alloc (.cells #[.int .i64 t.s.k, .string (bs t.s.x), .string (bs t.s.y), .string (bs t.s.z), .int .i64 t.p.k, .string (bs t.p.x), .string (bs t.p.y), .string (bs t.p.z), .int .i64 t.o.k, .string (bs t.o.x), .string (bs t.o.y), .string (bs t.o.z)] 29)).alloc (.cells #[.int .i64 t.s.k, .string (bs t.s.x), .string (bs t.s.y), .string (bs t.s.z), .int .i64 t.p.k, .string (bs t.p.x), .string (bs t.p.y), .string (bs t.p.z), .int .i64 t.o.k, .string (bs t.o.x), .string (bs t.o.y), .string (bs t.o.z)] 29)) w.heap.size 29 (cells12 t) := blk_on (blk_new w 29 (cells12 t)) (box_below _ _) (by simp)
      have b1 : Blk w3 w.heap.size 29 (cells12 t) := by
        unfold Blk at *
        rw [HG.out.block w.heap.size (by simp; omega) (fun e => by have := hown.lt _ e.symm; omega)]; exact b0
      have b2 : Blk W4 w.heap.size 29 (cells12 t) := by
        unfold Blk at *
        rw [HG4'.out.block w.heap.size (Array.getElem?_eq_some_iff.1 b1).1 (fun e => hgn.out (by injection e with e; exact e.symm))]; exact b1
      exact box12_of b2
    obtain ⟨⟨c0, c1, c2, c3⟩, ⟨c4, c5, c6, c7⟩, ⟨c8, c9, c10, c11⟩⟩ := bx
    have g1 : (0 : Int) ≤ (k : Int) := by omega
    have g2 : (k : Int) < ((N + 1 : Nat) : Int) := by omega
    have g3 : (k : Int) < (N : Int) + 1 := by omega
    have HFIT := Lib.hid (show k * 12 + 12 ≤ ((a ++ (d ++ t.cells).take 12 ++ d) ++ R).length by have := HR4'.out.2.1; rw [this]; omega)
    have HOWN := Lib.hid hown
    have HEQ := Lib.hid (show ((a ++ (d ++ t.cells).take 12 ++ d) ++ R).take (k * 12) ++ t.cells ++ ((a ++ (d ++ t.cells).take 12 ++ d) ++ R).drop (k * 12 + t.cells.length) = (a ++ t.cells ++ d) ++ R by rw [← HA.out]; exact open_end a d t.cells R rfl)
    clear hown
    go_wp2_with (refine store_abs 29 (.tmp 22) (.tmp 21) ⟨rfl, rfl⟩ g cap (k * 12) #[.int .i64 t.s.k, .string (bs t.s.x), .string (bs t.s.y), .string (bs t.s.z), .int .i64 t.p.k, .string (bs t.p.x), .string (bs t.p.y), .string (bs t.p.z), .int .i64 t.o.k, .string (bs t.o.x), .string (bs t.o.y), .string (bs t.o.z)] (by kernel_rfl) (by kernel_rfl) (by kernel_rfl) (by kernel_rfl) (a ++ (d ++ t.cells).take 12 ++ d) R (a ++ t.cells ++ d) R HR4'.out (HEQ.out) (HFIT.out) ?_; intro W5 HR5 HG5)
    go_ret
    refine ⟨_, rfl, ?_, ?_, ?_⟩
    · rw [HI.out, HN.out]
      exact row_owns HR5.out (by have h1 := HA.out; have h2 := HD.out; rw [List.length_append, List.length_append, h1, h2]; have e : t.cells.length = 12 := rfl; rw [e]; omega) hcap hBg
    · refine grown_then (row2 := some g) ((World.grownBy_alloc w _ v.ownBlock).trans ((World.grownBy_alloc _ _ _).trans HG.out)) (HG4'.out.trans HG5.out) ?_
      rcases HAT.out with h | h
      · exact .inl h
      · exact .inr ⟨g, rfl, by simp [Value.ownBlock] at h; omega⟩
    · rcases HAT.out with h | h
      · exact .inl h
      · exact .inr ⟨g, rfl, by simp [Value.ownBlock] at h; omega⟩
  · have HR3 := HR.out
    rw [show (lc ++ [.int .i64 t.s.k, .string (bs t.s.x), .string (bs t.s.y), .string (bs t.s.z), .int .i64 t.p.k, .string (bs t.p.x), .string (bs t.p.y), .string (bs t.p.z), .int .i64 t.o.k, .string (bs t.o.x), .string (bs t.o.y), .string (bs t.o.z)]) = a ++ d ++ t.cells from HSP.out] at HR3
    have HR3' := Lib.hid HR3
    clear HR3
    obtain ⟨DA, hDA⟩ : ∃ DA, (if cap = k + 1 then some (⟨g, 0, none⟩ : Addr) else some ⟨g, (k + 1) * 12, none⟩) = DA := ⟨_, rfl⟩
    have HDA := Lib.hid hDA
    clear hDA
    refine wp_region_held_drew (S := (fun _ => True)) (by kernel_rfl) ?_ (fun hHeld => ?_)
    · (try dsimp only); (try trivial)
    refine wpAnyH_take (i := 0) (oi := ⟨some 11, _, _, _, _, _⟩) (v := ?_) rfl (by kernel_rfl) (by kernel_rfl) (by kernel_rfl) (fun _ _ _ h => h) (Or.inl ⟨by kernel_rfl, ?_⟩) (by assumption) ?_
    rotate_left
    · (intro ww hSw; (try dsimp only at hSw); go_simp); (try with_reducible rfl)
    (try simp only [Act.put, List.setIfInBounds_toArray, List.set_cons_zero, List.set_cons_succ])
    refine wpAnyH_take (i := 1) (oi := ⟨some 12, _, _, _, _, _⟩) (v := ?_) rfl (by kernel_rfl) (by kernel_rfl) (by kernel_rfl) (fun _ _ _ h => h) (Or.inl ⟨by kernel_rfl, ?_⟩) (by assumption) ?_
    rotate_left
    · (intro ww hSw; (try dsimp only at hSw); go_simp); (try with_reducible rfl)
    (try simp only [Act.put, List.setIfInBounds_toArray, List.set_cons_zero, List.set_cons_succ])
    refine wpAnyH_take (i := 2) (oi := ⟨some 13, _, _, _, _, _⟩) (v := ?_) rfl (by kernel_rfl) (by kernel_rfl) (by kernel_rfl) (fun _ _ _ h => h) (Or.inl ⟨by kernel_rfl, ?_⟩) (by assumption) ?_
    rotate_left
    · (intro ww hSw; (try dsimp only at hSw); go_simp); (try with_reducible rfl)
    (try simp only [Act.put, List.setIfInBounds_toArray, List.set_cons_zero, List.set_cons_succ])
    refine wpAnyH_take (i := 3) (oi := ⟨some 14, _, _, _, _, _⟩) (v := .slice DA (N + 1 - (k + 1)) (cap - (k + 1))) rfl (by kernel_rfl) (by kernel_rfl) (by kernel_rfl) (fun _ _ _ h => h) (Or.inl ⟨by kernel_rfl, ?_⟩) (by assumption) ?_
    · (intro ww hSw; (try dsimp only at hSw); have h1 : (0 : Int) ≤ (k : Int) + 1 := (by omega); have h2 : (k : Int) + 1 ≤ ((N + 1 : Nat) : Int) := (by omega); rw [← HDA.out]; go_simp; (try simp))
    (try simp only [Act.put, List.setIfInBounds_toArray, List.set_cons_zero, List.set_cons_succ])
    refine wpAnyH_take (i := 4) (oi := ⟨some 15, _, _, _, _, _⟩) (v := ?_) rfl (by kernel_rfl) (by kernel_rfl) (by kernel_rfl) (fun _ _ _ h => h) (Or.inl ⟨by kernel_rfl, ?_⟩) (by assumption) ?_
    rotate_left
    · (intro ww hSw; (try dsimp only at hSw); go_simp); (try with_reducible rfl)
    (try simp only [Act.put, List.setIfInBounds_toArray, List.set_cons_zero, List.set_cons_succ])
    refine wpAnyH_take (i := 5) (oi := ⟨some 16, _, _, _, _, _⟩) (v := ?_) rfl (by kernel_rfl) (by kernel_rfl) (by kernel_rfl) (fun _ _ _ h => h) (Or.inl ⟨by kernel_rfl, ?_⟩) (by assumption) ?_
    rotate_left
    · (intro ww hSw; (try dsimp only at hSw); go_simp); (try with_reducible rfl)
    (try simp only [Act.put, List.setIfInBounds_toArray, List.set_cons_zero, List.set_cons_succ])
    refine wpAnyH_take (i := 6) (oi := ⟨some 17, _, _, _, _, _⟩) (v := .slice (some ⟨g, k * 12, none⟩) (N + 1 - k) (cap - k)) rfl (by kernel_rfl) (by kernel_rfl) (by kernel_rfl) (fun _ _ _ h => h) (Or.inl ⟨by kernel_rfl, ?_⟩) (by assumption) ?_
    · (intro ww hSw; (try dsimp only at hSw); have h1 : (0 : Int) ≤ (k : Int) := (by omega); have h2 : (k : Int) ≤ ((N + 1 : Nat) : Int) := (by omega); have h3 : ¬ cap = k := (by omega); go_simp; (try simp [h3]); (try omega))
    (try simp only [Act.put, List.setIfInBounds_toArray, List.set_cons_zero, List.set_cons_succ])
    refine wpAnyH_ready (rs := [7]) (by kernel_rfl) (by simp) ?_
    refine AllReadyH.cons rfl (fun K hK => ?_) AllReadyH.nil
    refine wp_copy_zero (.tmp 14) (.tmp 17) 25 25 rfl 29 i0 Tryz.underlying25 hi DA (some ⟨g, k * 12, none⟩) (N + 1 - (k + 1)) (cap - (k + 1)) (N + 1 - k) (cap - k) (by kernel_rfl) (by kernel_rfl) (by show min _ _ = _; omega) ?_
    change K (Act.put _ (some 18) _) _
    refine hK.out _ _ ?_ (fun hHeld => ?_)
    · (try dsimp only); (try trivial)
    clear hK K
    (try simp only [Act.put, List.setIfInBounds_toArray, List.set_cons_zero, List.set_cons_succ])
    refine wpAnyH_done (by kernel_rfl) ?_ _
    obtain ⟨W4, hW4⟩ : ∃ W4, w3.drew = W4 := ⟨_, rfl⟩
    rw [hW4]
    have HR4 : RowIs W4 g cap (a ++ (d ++ t.cells).take 12 ++ d) R := by
      rw [← hW4]
      have e : d = [] := List.eq_nil_of_length_eq_zero (by rw [HD.out]; omega)
      have h := HR3'.out
      subst e
      have e2 : (([] : List Value) ++ t.cells).take 12 = t.cells := rfl
      rw [e2]
      exact (by simpa using h : RowIs w3 g cap (a ++ t.cells ++ []) R)
    have HG4 : w3.grownBy W4 (some g) := by rw [← hW4]; exact grown_drew w3 (some g)
    clear hW4
    have HG4' := Lib.hid HG4
    have HR4' := Lib.hid HR4
    clear HG4 HR4
    have hgn := Lib.hid (show g ≠ w.heap.size by
      rcases HAT.out with h | h
      · intro e
        have := hown.lt g h.symm
        omega
      · simp [Value.ownBlock] at h; omega)
    have bx : Box12 W4 w.heap.size t := by
      have b0 : Blk ((w.alloc (.cells #[.int .i64 t.s.k, .string (bs t.s.x), .string (bs t.s.y), .string (bs t.s.z), .int .i64 t.p.k, .string (bs t.p.x), .string (bs t.p.y), .string (bs t.p.z), .int .i64 t.o.k, .string (bs t.o.x), .string (bs t.o.y), .string (bs t.o.z)] 29)).alloc (.cells #[.int .i64 t.s.k, .string (bs t.s.x), .string (bs t.s.y), .string (bs t.s.z), .int .i64 t.p.k, .string (bs t.p.x), .string (bs t.p.y), .string (bs t.p.z), .int .i64 t.o.k, .string (bs t.o.x), .string (bs t.o.y), .string (bs t.o.z)] 29)) w.heap.size 29 (cells12 t) := blk_on (blk_new w 29 (cells12 t)) (box_below _ _) (by simp)
      have b1 : Blk w3 w.heap.size 29 (cells12 t) := by
        unfold Blk at *
        rw [HG.out.block w.heap.size (by simp; omega) (fun e => by have := hown.lt _ e.symm; omega)]; exact b0
      have b2 : Blk W4 w.heap.size 29 (cells12 t) := by
        unfold Blk at *
        rw [HG4'.out.block w.heap.size (Array.getElem?_eq_some_iff.1 b1).1 (fun e => hgn.out (by injection e with e; exact e.symm))]; exact b1
      exact box12_of b2
    obtain ⟨⟨c0, c1, c2, c3⟩, ⟨c4, c5, c6, c7⟩, ⟨c8, c9, c10, c11⟩⟩ := bx
    have g1 : (0 : Int) ≤ (k : Int) := by omega
    have g2 : (k : Int) < ((N + 1 : Nat) : Int) := by omega
    have g3 : (k : Int) < (N : Int) + 1 := by omega
    have HFIT := Lib.hid (show k * 12 + 12 ≤ ((a ++ (d ++ t.cells).take 12 ++ d) ++ R).length by have := HR4'.out.2.1; rw [this]; omega)
    have HOWN := Lib.hid hown
    have HEQ := Lib.hid (show ((a ++ (d ++ t.cells).take 12 ++ d) ++ R).take (k * 12) ++ t.cells ++ ((a ++ (d ++ t.cells).take 12 ++ d) ++ R).drop (k * 12 + t.cells.length) = (a ++ t.cells ++ d) ++ R by rw [← HA.out]; exact open_end a d t.cells R rfl)
    clear hown
    go_wp2_with (refine store_abs 29 (.tmp 22) (.tmp 21) ⟨rfl, rfl⟩ g cap (k * 12) #[.int .i64 t.s.k, .string (bs t.s.x), .string (bs t.s.y), .string (bs t.s.z), .int .i64 t.p.k, .string (bs t.p.x), .string (bs t.p.y), .string (bs t.p.z), .int .i64 t.o.k, .string (bs t.o.x), .string (bs t.o.y), .string (bs t.o.z)] (by kernel_rfl) (by kernel_rfl) (by kernel_rfl) (by kernel_rfl) (a ++ (d ++ t.cells).take 12 ++ d) R (a ++ t.cells ++ d) R HR4'.out (HEQ.out) (HFIT.out) ?_; intro W5 HR5 HG5)
    go_ret
    refine ⟨_, rfl, ?_, ?_, ?_⟩
    · rw [HI.out, HN.out]
      exact row_owns HR5.out (by have h1 := HA.out; have h2 := HD.out; rw [List.length_append, List.length_append, h1, h2]; have e : t.cells.length = 12 := rfl; rw [e]; omega) hcap hBg
    · refine grown_then (row2 := some g) ((World.grownBy_alloc w _ v.ownBlock).trans ((World.grownBy_alloc _ _ _).trans HG.out)) (HG4'.out.trans HG5.out) ?_
      rcases HAT.out with h | h
      · exact .inl h
      · exact .inr ⟨g, rfl, by simp [Value.ownBlock] at h; omega⟩
    · rcases HAT.out with h | h
      · exact .inl h
      · exact .inr ⟨g, rfl, by simp [Value.ownBlock] at h; omega⟩

end Go.Proofs.YtnojdchodmogbaaGreat
