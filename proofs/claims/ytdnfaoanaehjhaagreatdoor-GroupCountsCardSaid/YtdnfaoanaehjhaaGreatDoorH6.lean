/- ShpDistPlain, ShpKit, StoLaws, ShpLaws, put together. -/
import Derived.Test.YtdnfaoanaehjhaaGreatDoorH5
import Derived.Test.YtdnfaoanaehjhaaGreatDoorH3
import Derived.Deep.RegionHeld3
import Derived.Deep.LoopGhost
import Derived.Deep.QuietTactic
import Derived.BigQuiet
import Derived.Maps.AppendAt
import Derived.Laws.CopyRow
import Derived.Laws.CopyOwn
import Derived.Tactics
import Derived.Laws.OwnMore
import Derived.OwnWalk

/- Each row once, in plain words (no program): by the numbers' texts. -/
namespace Go.Proofs.YtdnfaoanaehjhaaGreatDoor

def distP (R : List RowL) : List RowL := R.foldl (fun m x => if x ∈ m then m else m ++ [x]) []
theorem dist_snoc (R : List RowL) (x : RowL) : distP (R ++ [x]) = if x ∈ distP R then distP R else distP R ++ [x] := by unfold distP; rw [List.foldl_append]; rfl
theorem dist_mem (R : List RowL) (x : RowL) : x ∈ distP R ↔ x ∈ R := by
  refine snoc_ind (P := fun R => x ∈ distP R ↔ x ∈ R) Iff.rfl (fun r y ih => ?_) R
  rw [dist_snoc, List.mem_append, ← ih]
  split
  · rename_i h
    exact ⟨fun k => .inl k, fun k => k.elim id (fun k => by rw [List.mem_singleton] at k; rw [k]; exact h)⟩
  · rw [List.mem_append]
theorem dist_le (R : List RowL) : (distP R).length ≤ R.length := by
  refine snoc_ind (P := fun R => (distP R).length ≤ R.length) (Nat.le_refl _) (fun r y ih => ?_) R
  rw [dist_snoc, List.length_append, List.length_singleton]
  split
  · omega
  · rw [List.length_append, List.length_singleton]; omega
theorem dist_nodup (R : List RowL) : (distP R).Nodup := by
  refine snoc_ind (P := fun R => (distP R).Nodup) List.nodup_nil (fun r y ih => ?_) R
  rw [dist_snoc]
  split
  · exact ih
  · rename_i h
    refine List.nodup_append.2 ⟨ih, List.nodup_cons.2 ⟨List.not_mem_nil, List.nodup_nil⟩, fun a ha b hb e => ?_⟩
    rw [List.mem_singleton] at hb
    rw [e, hb] at ha
    exact h ha
theorem dist_same {R : List RowL} (h : R.Nodup) : distP R = R := by
  have : ∀ R : List RowL, R.Nodup → distP R = R := fun R => by
    refine snoc_ind (P := fun R => R.Nodup → distP R = R) (fun _ => rfl) (fun r y ih => ?_) R
    intro hn
    obtain ⟨h1, h2, h3⟩ := List.nodup_append.1 hn
    rw [dist_snoc, ih h1, if_neg (fun c => h3 y c y (List.mem_singleton.2 rfl) rfl)]
  exact this R h
theorem dist_twice (R : List RowL) : distP (distP R) = distP R := dist_same (dist_nodup R)

/- numbers of the terms of k rows -/
def idsP (R : List RowL) (k : Nat) : NumT × Nat := runN (fun _ => none, 0) (R.take k).flatten
theorem num_zero (R : List RowL) : idsP R 0 = (fun _ => none, 0) := by unfold idsP; rw [List.take_zero]; rfl
theorem num_step {R : List RowL} {k : Nat} (hk : k < R.length) : idsP R (k + 1) = runN (idsP R k) R[k] := by
  unfold idsP
  rw [List.take_succ_eq_append_getElem hk, List.flatten_append]
  unfold runN
  rw [List.foldl_append]
  simp
theorem num_at (R : List RowL) (k : Nat) : NumF (idsP R k).1 (idsP R k).2 ∧ (∀ r ∈ R.take k, ∀ t ∈ r, ((idsP R k).1 t).isSome = true) := by
  obtain ⟨h1, _, h3, _⟩ := run_num (p := (fun _ => none, 0)) num_none (R.take k).flatten
  exact ⟨h1, fun r hr t ht => h3 t (List.mem_flatten.2 ⟨r, hr, ht⟩)⟩
theorem num_le {R : List RowL} {n : Nat} (h : ∀ r ∈ R, r.length = n) (k : Nat) : k ≤ R.length → (idsP R k).2 ≤ k * n := by
  intro hk
  induction k with
  | zero => rw [num_zero]; exact Nat.zero_le _
  | succ k ih =>
    have h1 := ih (by omega)
    rw [num_step (by omega), Nat.succ_mul]
    have h2 := (run_num (num_at R k).1 (R[k]'(by omega))).2.2.2
    rw [h _ (List.getElem_mem (by omega))] at h2
    omega

/- how often each text came -/
def Came (R : List RowL) (k : Nat) (f : List UInt8 → Option Int) : Prop :=
  (∀ x v, f x = some v → 1 ≤ v ∧ v ≤ k ∧ ∃ r ∈ R.take k, txtN (idsP R k).1 r = x) ∧ ∀ r ∈ R.take k, (f (txtN (idsP R k).1 r)).isSome = true
theorem came_zero (R : List RowL) : Came R 0 (fun _ => none) := ⟨(fun _ _ h => nomatch h), fun r hr => by rw [List.take_zero] at hr; exact absurd hr List.not_mem_nil⟩
theorem came_old {R : List RowL} {k : Nat} (hk : k < R.length) {r : RowL} (hr : r ∈ R.take k) : txtN (idsP R (k + 1)).1 r = txtN (idsP R k).1 r := by
  have hx := (run_num (num_at R k).1 R[k]).2.1
  rw [← num_step hk] at hx
  exact txt_ext hx ((num_at R k).2 r hr)
theorem came_is {R : List RowL} {k : Nat} (hk : k < R.length) {f : List UInt8 → Option Int} (h : Came R k f) : (f (txtN (idsP R (k + 1)).1 R[k])).isSome = true ↔ R[k] ∈ R.take k := by
  obtain ⟨h1, h2⟩ := num_at R (k + 1)
  rw [List.take_succ_eq_append_getElem hk] at h2
  constructor
  · intro hs
    obtain ⟨v, hv⟩ := Option.isSome_iff_exists.1 hs
    obtain ⟨_, _, r, hr, e⟩ := h.1 _ v hv
    rw [← came_old hk hr] at e
    have := txt_one h1 (h2 r (List.mem_append_left _ hr)) (h2 R[k] (List.mem_append_right _ (List.mem_singleton.2 rfl))) e
    rw [this] at hr
    exact hr
  · intro hm
    rw [came_old hk hm]
    exact h.2 _ hm
theorem came_step {R : List RowL} {k : Nat} (hk : k < R.length) {f g : List UInt8 → Option Int} (h : Came R k f) (hg : ∀ x, g x = if x = txtN (idsP R (k + 1)).1 R[k] then some ((f (txtN (idsP R (k + 1)).1 R[k])).getD 0 + 1) else f x) : Came R (k + 1) g := by
  rw [Came, List.take_succ_eq_append_getElem hk]
  refine ⟨fun x v hv => ?_, fun r hr => ?_⟩
  · rw [hg] at hv
    split at hv
    · rename_i e
      have e2 : (f (txtN (idsP R (k + 1)).1 R[k])).getD 0 + 1 = v := by simpa using hv
      refine ⟨?_, ?_, R[k], List.mem_append_right _ (List.mem_singleton.2 rfl), e.symm⟩
      all_goals
        cases hq : f (txtN (idsP R (k + 1)).1 R[k]) with
        | none => rw [hq, Option.getD_none] at e2; omega
        | some u =>
          have := h.1 _ u hq
          rw [hq, Option.getD_some] at e2; omega
    · obtain ⟨h1, h2, r, hr, e⟩ := h.1 x v hv
      exact ⟨h1, by omega, r, List.mem_append_left _ hr, by rw [came_old hk hr]; exact e⟩
  · rw [hg]
    split
    · rfl
    · rename_i hne
      rcases List.mem_append.1 hr with hr | hr
      · rw [came_old hk hr]; exact h.2 r hr
      · rw [List.mem_singleton] at hr; rw [hr] at hne; exact absurd rfl hne
theorem came_txt {R : List RowL} {n k : Nat} (h : ∀ r ∈ R, r.length = n) (hn : n ≤ 32) (hl : R.length ≤ 4096) (hk : k < R.length) : (txtN (idsP R (k + 1)).1 R[k]).length ≤ 704 := by
  have h1 := num_at R (k + 1)
  have h2 := num_le h (k + 1) (by omega)
  have h5 : (k + 1) * n ≤ 4096 * 32 := Nat.mul_le_mul (by omega) hn
  have := txt_len h1.1 (by omega) R[k] (fun t ht => h1.2 R[k] (by rw [List.take_succ_eq_append_getElem hk]; exact List.mem_append_right _ (List.mem_singleton.2 rfl)) t ht)
  have h6 := h _ (List.getElem_mem hk)
  omega

end Go.Proofs.YtdnfaoanaehjhaaGreatDoor

/- Small things for the walks of layer 12. -/
namespace Go.Proofs.YtdnfaoanaehjhaaGreatDoor
open Go.RowKit

theorem name_world {P : Program} {c : Code} {Q : Exit → Act → World → Prop} {a : Act} {w : World} (h : ∀ W1, W1 = w → c.wp P Q a W1) : c.wp P Q a w := h w rfl
theorem keptC {w w' : World} {g o B : Nat} {v : Value} (h : w.cell? ⟨g, o, none⟩ = some v) (hb : Below B w w') (hg : g < B) : w'.cell? ⟨g, o, none⟩ = some v := (hb.cell (p := ⟨g, o, none⟩) hg).trans h
theorem drewN_below {B : Nat} {a w : World} (h : Below B a w) (n : Nat) : Below B a (w.drewN n) := ⟨h.os, h.tape, h.output, h.size, h.block⟩
theorem term_box {w : World} {t : TermL} {T : TypeId} : TermAt (w.alloc (.cells #[.int .i64 t.k, .string (bs t.x), .string (bs t.y), .string (bs t.z)] T)) w.heap.size 0 t := by
  have h := blk_new w T #[.int .i64 t.k, .string (bs t.x), .string (bs t.y), .string (bs t.z)]
  exact ⟨by rw [blk_cell h]; rfl, by rw [blk_cell h]; rfl, by rw [blk_cell h]; rfl, by rw [blk_cell h]; rfl⟩
theorem term_two {w : World} {t u : TermL} {T : TypeId} : TermAt ((w.alloc (.cells #[.int .i64 t.k, .string (bs t.x), .string (bs t.y), .string (bs t.z)] T)).alloc (.cells #[.int .i64 u.k, .string (bs u.x), .string (bs u.y), .string (bs u.z)] T)) w.heap.size 0 t ∧ TermAt ((w.alloc (.cells #[.int .i64 t.k, .string (bs t.x), .string (bs t.y), .string (bs t.z)] T)).alloc (.cells #[.int .i64 u.k, .string (bs u.x), .string (bs u.y), .string (bs u.z)] T)) (w.heap.size + 1) 0 u := by
  refine ⟨(term_box (w := w) (t := t) (T := T)).on (box_below _ _) (by simp), ?_⟩
  have h := term_box (w := w.alloc (.cells #[.int .i64 t.k, .string (bs t.x), .string (bs t.y), .string (bs t.z)] T)) (t := u) (T := T)
  have e : (w.alloc (.cells #[.int .i64 t.k, .string (bs t.x), .string (bs t.y), .string (bs t.z)] T)).heap.size = w.heap.size + 1 := by simp
  rw [e] at h
  exact h

end Go.Proofs.YtdnfaoanaehjhaaGreatDoor

/- Laws on copy, on append where there is room, on clear and on a store into a row, at elements of any size. Of no program. -/
namespace Go.Proofs.YtdnfaoanaehjhaaGreatDoor

section
variable {P : Program}

theorem run_copy_sized (w : World) (dT sT ty elem : TypeId) (i : TypeInfo) (hu : P.underlying dT = some (.slice elem)) (hi : P.info? elem = some i)
    (g off dLen dCap : Nat) (ad : Addr) (sLen sCap m : Nat) (hm : Nat.min sLen dLen = m) (cur : Array Value) (t : TypeId) (hg : w.heap[g]? = some (.cells cur t (0, 0)))
    (cs : List Value) (hn : cs.length = m * i.size) (hsrc : ∀ j v, cs[j]? = some v → w.cell? (ad.add j) = some v) (hfit : off + cs.length ≤ cur.size) (h1 : ∀ v ∈ cs, v.oneCell' = true) :
    (Builtin.copy_ #[dT, sT] ty #[.slice (some ⟨g, off, none⟩) dLen dCap, .slice (some ad) sLen sCap]).run P w =
      .ok (goInt m) (w.setRow g (cur.toList.take off ++ cs ++ cur.toList.drop (off + cs.length)).toArray) := by
  have hf := run_firstCells_some (P := P) w i.size m ad sLen sCap cs hn hsrc
  have hst := run_storeCells_at P g off t cs 0 cur w hg (by simpa using hfit) h1
  rw [Nat.add_zero] at hst
  simp [Builtin.copy_, run_underlying hu, Builtin.lenOf, sizeOf, typeInfo, hi, hm, hf, hst]

theorem run_copy_zero (w : World) (dT sT ty elem : TypeId) (i : TypeInfo) (hu : P.underlying dT = some (.slice elem)) (hi : P.info? elem = some i)
    (d a : Option Addr) (dLen dCap sLen sCap : Nat) (hn : Nat.min sLen dLen = 0) :
    (Builtin.copy_ #[dT, sT] ty #[.slice d dLen dCap, .slice a sLen sCap]).run P w = .ok (goInt 0) w := by
  have hl : ∀ (x : Addr), (loadCells x 0).run P w = .ok #[] w := fun x => by simpa using run_loadCells_list (P := P) w x [] (by simp)
  cases d <;> cases a <;> simp [Builtin.copy_, run_underlying hu, Builtin.lenOf, Builtin.firstCells, sizeOf, typeInfo, hi, hn, storeCells, hl]

theorem wp_copy_sized {o : Oper} {a : Act} {w : World} {K : Act → World → Prop} {Q : Exit → Act → World → Prop} (d s : Operand) (dT sT : TypeId)
    (ho : o.op = .call { callee := .builtin .copy, args := #[d, s], argTypes := #[dT, sT] }) (elem : TypeId) (i : TypeInfo) (hu : P.underlying dT = some (.slice elem)) (hi : P.info? elem = some i)
    (g off dLen dCap : Nat) (ad : Addr) (sLen sCap m : Nat) (hd : a.eval d = .slice (some ⟨g, off, none⟩) dLen dCap) (hs : a.eval s = .slice (some ad) sLen sCap) (hm : Nat.min sLen dLen = m)
    (cur : Array Value) (t : TypeId) (hg : w.heap[g]? = some (.cells cur t (0, 0)))
    (cs : List Value) (hn : cs.length = m * i.size) (hsrc : ∀ j v, cs[j]? = some v → w.cell? (ad.add j) = some v) (hfit : off + cs.length ≤ cur.size) (h1 : ∀ v ∈ cs, v.oneCell' = true)
    (h : K (a.put o.dst (goInt m)) (w.setRow g (cur.toList.take off ++ cs ++ cur.toList.drop (off + cs.length)).toArray)) : Oper.wp P o a w K Q := by
  have hrun := run_copy_sized (P := P) w dT sT o.type elem i hu hi g off dLen dCap ad sLen sCap m hm cur t hg cs hn hsrc hfit h1
  unfold Oper.wp execOp
  simp only [ho, resolve, invoke, builtin, Sem.run_bind, Sem.run_pure, Result.andThen_ok, List.map_toArray, List.map_cons, List.map_nil, hd, hs, hrun]
  exact h
theorem wp_copy_zero {o : Oper} {a : Act} {w : World} {K : Act → World → Prop} {Q : Exit → Act → World → Prop} (d s : Operand) (dT sT : TypeId)
    (ho : o.op = .call { callee := .builtin .copy, args := #[d, s], argTypes := #[dT, sT] }) (elem : TypeId) (i : TypeInfo) (hu : P.underlying dT = some (.slice elem)) (hi : P.info? elem = some i)
    (da sa : Option Addr) (dLen dCap sLen sCap : Nat) (hd : a.eval d = .slice da dLen dCap) (hs : a.eval s = .slice sa sLen sCap) (hn : Nat.min sLen dLen = 0)
    (h : K (a.put o.dst (goInt 0)) w) : Oper.wp P o a w K Q := by
  have hrun := run_copy_zero (P := P) w dT sT o.type elem i hu hi da sa dLen dCap sLen sCap hn
  unfold Oper.wp execOp
  simp only [ho, resolve, invoke, builtin, Sem.run_bind, Sem.run_pure, Result.andThen_ok, List.map_toArray, List.map_cons, List.map_nil, hd, hs, hrun]
  exact h

theorem wp_append_room {o : Oper} {a : Act} {w : World} {K : Act → World → Prop} {Q : Exit → Act → World → Prop} (s x : Operand) (t : TypeId)
    (ho : o.op = .call { callee := .builtin .append, args := #[s, x], argTypes := #[t, t] }) (e : TypeId) (i : TypeInfo) (ht : P.underlying t = some (.slice e)) (hi : P.info? e = some i)
    (g sLen sCap : Nat) (cur : Array Value) (hg : w.heap[g]? = some (.cells cur e (0, 0))) (ad : Addr) (m c : Nat) (news : List Value)
    (hs : a.eval s = .slice (some ⟨g, 0, none⟩) sLen sCap) (hx : a.eval x = .slice (some ad) m c)
    (hl : news.length = m * i.size) (hnews : ∀ j u, news[j]? = some u → w.cell? (ad.add j) = some u) (h1 : ∀ u ∈ news, u.oneCell' = true)
    (hroom : sLen + m ≤ sCap) (hfit : sLen * i.size + news.length ≤ cur.size)
    (h : K (a.put o.dst (.slice (some ⟨g, 0, none⟩) (sLen + m) sCap)) (w.setRow g (cur.toList.take (sLen * i.size) ++ news ++ cur.toList.drop (sLen * i.size + news.length)).toArray)) : Oper.wp P o a w K Q := by
  have hrun := run_append_room (P := P) w t o.type e i ht hi g sLen sCap cur hg ad m c news hl hnews h1 hroom hfit
  unfold Oper.wp execOp
  simp only [ho, resolve, invoke, builtin, Sem.run_bind, Sem.run_pure, Result.andThen_ok, List.map_toArray, List.map_cons, List.map_nil, hs, hx, hrun]
  exact h

theorem run_clear_row (w : World) (t ty e : TypeId) (i : TypeInfo) (z : Value) (ht : P.underlying t = some (.slice e)) (hi : P.info? e = some i) (hz : i.zero = some z)
    (g off n cap : Nat) (cur : Array Value) (tt : TypeId) (hg : w.heap[g]? = some (.cells cur tt (0, 0))) (hn : 0 < n) (hfit : off + n * z.cells.size ≤ cur.size) (h1 : ∀ u ∈ (Builtin.zeroCells z.cells n).toList, u.oneCell' = true) :
    (Builtin.clear_ #[t] ty #[.slice (some ⟨g, off, none⟩) n cap]).run P w =
      .ok (.tuple #[]) (w.setRow g (cur.toList.take off ++ (Builtin.zeroCells z.cells n).toList ++ cur.toList.drop (off + (Builtin.zeroCells z.cells n).toList.length)).toArray) := by
  have hst := run_storeCells_at P g off tt (Builtin.zeroCells z.cells n).toList 0 cur w hg (by simpa [size_zeroCells] using hfit) h1
  rw [Nat.add_zero] at hst
  obtain ⟨n', rfl⟩ : ∃ n', n = n' + 1 := ⟨n - 1, by omega⟩
  simp [Builtin.clear_, run_underlying ht, zeroValue, typeInfo, hi, hz, hst]

theorem wpList_clear_row {ops : Array Oper} {rest : List Oper} {o : Oper} {a : Act} {w : World} {Q : Exit → Act → World → Prop} (hgd : o.guard = none) (s : Operand) (t : TypeId)
    (ho : o.op = .call { callee := .builtin .clear, args := #[s], argTypes := #[t] }) (e : TypeId) (i : TypeInfo) (z : Value) (ht : P.underlying t = some (.slice e)) (hi : P.info? e = some i) (hz : i.zero = some z)
    (g off n cap : Nat) (cur : Array Value) (tt : TypeId) (hg : w.heap[g]? = some (.cells cur tt (0, 0))) (hs : a.eval s = .slice (some ⟨g, off, none⟩) n cap) (hn : 0 < n) (hfit : off + n * z.cells.size ≤ cur.size)
    (h1 : ∀ u ∈ (Builtin.zeroCells z.cells n).toList, u.oneCell' = true)
    (h : wpList P ops Q rest (a.put o.dst (.tuple #[])) (w.setRow g (cur.toList.take off ++ (Builtin.zeroCells z.cells n).toList ++ cur.toList.drop (off + (Builtin.zeroCells z.cells n).toList.length)).toArray)) : wpList P ops Q (o :: rest) a w := by
  refine wpList_plain hgd fun K hK => ?_
  have hrun := run_clear_row (P := P) w t o.type e i z ht hi hz g off n cap cur tt hg hn hfit h1
  unfold Oper.wp execOp
  simp only [ho, resolve, invoke, builtin, Sem.run_bind, Sem.run_pure, Result.andThen_ok, List.map_toArray, List.map_cons, List.map_nil, hs, hrun]
  exact hK _ _ h

theorem run_storeVar_at (w : World) (g off : Nat) (t ty : TypeId) (old cells : Array Value) (hg : w.heap[g]? = some (.cells old t (0, 0))) (hi : (P.info? ty).map (·.size) = some cells.size)
    (ho : off + cells.size ≤ old.size) (h1 : cells.all (·.oneCell') = true) :
    (storeVar ty ⟨g, off, none⟩ (.agg cells)).run P w = .ok () (w.setRow g (old.toList.take off ++ cells.toList ++ old.toList.drop (off + cells.toList.length)).toArray) := by
  have := run_storeCells_at P g off t cells.toList 0 old w hg (by simpa using ho) (fun v hv => (Array.all_eq_true_iff_forall_mem.1 h1) v (by simpa using hv))
  rw [Nat.add_zero] at this
  cases hq : P.info? ty with
  | none => simp [hq] at hi
  | some i =>
    have hs : cells.size = i.size := by simp [hq] at hi; omega
    simp [storeVar, sizeOf, typeInfo, hq, Value.cells, hs, this]
theorem wp_store_at {o : Oper} {a : Act} {w : World} {K : Act → World → Prop} {Q : Exit → Act → World → Prop} (ty : TypeId) (x y : Operand) (ho : o.op = .store ty x y)
    (g off : Nat) (cells : Array Value) (hx : a.eval x = .pointer (some ⟨g, off, none⟩)) (hy : a.eval y = .agg cells)
    (t : TypeId) (old : Array Value) (hg : w.heap[g]? = some (.cells old t (0, 0))) (hi : (P.info? ty).map (·.size) = some cells.size)
    (hold : off + cells.size ≤ old.size) (h1 : cells.all (·.oneCell') = true)
    (h : K (a.put o.dst undef) (w.setRow g (old.toList.take off ++ cells.toList ++ old.toList.drop (off + cells.toList.length)).toArray)) : o.wp P a w K Q := by
  unfold Oper.wp execOp
  simp only [ho, hx, hy, Instr.storeAt, Instr.sureAddr, Sem.run_bind, Sem.run_pure, Result.andThen_ok, run_storeVar_at w g off t ty old cells hg hi hold h1]
  exact h
theorem wpList_store_at {ops : Array Oper} {rest : List Oper} {o : Oper} {a : Act} {w : World} {Q : Exit → Act → World → Prop} (hgd : o.guard = none) (ty : TypeId) (x y : Operand) (ho : o.op = .store ty x y)
    (g off : Nat) (cells : Array Value) (hx : a.eval x = .pointer (some ⟨g, off, none⟩)) (hy : a.eval y = .agg cells)
    (t : TypeId) (old : Array Value) (hg : w.heap[g]? = some (.cells old t (0, 0))) (hi : (P.info? ty).map (·.size) = some cells.size)
    (hold : off + cells.size ≤ old.size) (h1 : cells.all (·.oneCell') = true)
    (h : wpList P ops Q rest (a.put o.dst undef) (w.setRow g (old.toList.take off ++ cells.toList ++ old.toList.drop (off + cells.toList.length)).toArray)) : wpList P ops Q (o :: rest) a w :=
  wpList_plain hgd fun _ hK => wp_store_at ty x y ho g off cells hx hy t old hg hi hold h1 (hK _ _ h)

end
end Go.Proofs.YtdnfaoanaehjhaaGreatDoor

/- Terms as cells; laws on making rows, on stores into them and on copies, the world behind each a name. -/
namespace Go.Proofs.YtdnfaoanaehjhaaGreatDoor
open Go.RowKit

theorem row_other (W : World) (Y : Nat) (n : Array Value) (X : Nat) (hne : X ≠ Y) : (W.setRow Y n).heap[X]? = W.heap[X]? := by
  show (W.heap.modify Y _)[X]? = _
  rw [Array.getElem?_modify]
  rw [if_neg (fun e => hne e.symm)]
theorem blk_row {W : World} {X : Nat} {T : TypeId} {a : Array Value} (h : Blk W X T a) (n : Array Value) : Blk (W.setRow X n) X T n := setRow_heap W X a n T _ h
theorem blk_kinds {w : World} {X Y : Nat} {T U : TypeId} {a b : Array Value} (h : Blk w X T a) (k : Blk w Y U b) (hT : T ≠ U) : X ≠ Y := by
  intro e
  subst e
  unfold Blk at *
  rw [k] at h
  injection h with h
  injection h with _ h2 _
  exact hT h2.symm
theorem blk_grown {w w' : World} {X G : Nat} {T : TypeId} {a : Array Value} (h : Blk w X T a) (hne : X ≠ G) (hG : w.grownBy w' (some G)) : Blk w' X T a := (hG.block X (blk_lt h) (fun c => hne (by injection c))).trans h
theorem grown_set (w : World) (g : Nat) (cs : Array Value) : w.grownBy (w.setRow g cs) (some g) := ⟨rfl, rfl, rfl, by simp, fun k _ hk => setRow_other w g k cs (fun e => hk (by simp [e]))⟩
theorem grown_refl (w : World) (row : Option Nat) : w.grownBy w row := ⟨rfl, rfl, rfl, Nat.le_refl _, fun _ _ _ => rfl⟩
theorem fb2 {B : Nat} {W W' W'' : World} (h : Below B W W') (h' : Below W'.heap.size W' W'') (hB : B ≤ W.heap.size) : Below B W W'' := h.trans (h'.mono (Nat.le_trans hB h.size))
theorem from_drewN {W W' : World} {n : Nat} (h : Below (W.drewN n).heap.size (W.drewN n) W') : Below W.heap.size W W' := (drewN_below (Below.refl W.heap.size W) n).trans h
theorem from_drew {W W' : World} (h : Below W.drew.heap.size W.drew W') : Below W.heap.size W W' := (Below.refl W.heap.size W).drew.trans h
theorem blk_drew {W : World} {X : Nat} {T : TypeId} {a : Array Value} (h : Blk W X T a) : Blk W.drew X T a := h

/- terms as cells -/
def TermL.cs (t : TermL) : List Value := [.int .i64 t.k, .string (bs t.x), .string (bs t.y), .string (bs t.z)]
def cellsT (l : List TermL) : List Value := l.flatMap TermL.cs
theorem cellsT_nil : cellsT [] = [] := rfl
theorem cellsT_length (l : List TermL) : (cellsT l).length = l.length * 4 := by
  induction l with
  | nil => rfl
  | cons t r ih => unfold cellsT at *; rw [List.flatMap_cons, List.length_append, ih, List.length_cons]; show 4 + _ = _; omega
theorem cellsT_append (l r : List TermL) : cellsT (l ++ r) = cellsT l ++ cellsT r := by unfold cellsT; exact List.flatMap_append
theorem cellsT_cons (t : TermL) (r : List TermL) : cellsT (t :: r) = t.cs ++ cellsT r := by unfold cellsT; exact List.flatMap_cons
theorem cellsT_one (t : TermL) : cellsT [t] = t.cs := by simp [cellsT]
theorem cellsT_at : ∀ (L : List TermL) (k : Nat) (hk : k < L.length) (i : Nat), i < 4 → (cellsT L)[k * 4 + i]? = L[k].cs[i]? := by
  intro L
  induction L with
  | nil => intro k hk; simp at hk
  | cons t r ih =>
    intro k hk i hi
    rw [cellsT_cons]
    cases k with
    | zero => rw [List.getElem?_append_left (by show _ < 4; omega)]; simp
    | succ k =>
      rw [List.getElem?_append_right (by show 4 ≤ _; omega)]
      rw [show (k + 1) * 4 + i - t.cs.length = k * 4 + i by show (k + 1) * 4 + i - 4 = _; omega]
      exact ih k (by simpa using hk) i hi
theorem cellsT_take (L : List TermL) (n : Nat) : cellsT (L.take n) = (cellsT L).take (n * 4) := by
  induction L generalizing n with
  | nil => simp [cellsT]
  | cons t r ih =>
    cases n with
    | zero => simp [cellsT]
    | succ n =>
      rw [List.take_succ_cons, cellsT_cons, cellsT_cons, ih, List.take_append, List.take_of_length_le (show t.cs.length ≤ _ by show 4 ≤ _; omega)]
      congr 2
      show n * 4 = (n + 1) * 4 - 4
      omega
theorem cellsT_drop (L : List TermL) (n : Nat) : cellsT (L.drop n) = (cellsT L).drop (n * 4) := by
  induction L generalizing n with
  | nil => simp [cellsT]
  | cons t r ih =>
    cases n with
    | zero => simp
    | succ n =>
      rw [List.drop_succ_cons, cellsT_cons, ih, List.drop_append, List.drop_eq_nil_of_le (show t.cs.length ≤ _ by show 4 ≤ _; omega), List.nil_append]
      congr 1
      show n * 4 = (n + 1) * 4 - 4
      omega
theorem cellsT_cell {l : List TermL} : ∀ v ∈ cellsT l, v.oneCell' = true := by
  intro v hv
  obtain ⟨t, _, ht⟩ := List.mem_flatMap.1 hv
  simp only [TermL.cs, List.mem_cons, List.not_mem_nil, or_false] at ht
  rcases ht with rfl | rfl | rfl | rfl <;> rfl
/- a piece of a list of terms, put in the place of another one -/
def splice (L : List TermL) (o : Nat) (M : List TermL) : List TermL := L.take o ++ M ++ L.drop (o + M.length)
theorem splice_cells (L : List TermL) (o : Nat) (M : List TermL) : (cellsT L).take (o * 4) ++ cellsT M ++ (cellsT L).drop (o * 4 + (cellsT M).length) = cellsT (splice L o M) := by
  unfold splice
  rw [cellsT_append, cellsT_append, cellsT_take, cellsT_drop, cellsT_length, Nat.add_mul]
theorem splice_length {L : List TermL} {o : Nat} {M : List TermL} (h : o + M.length ≤ L.length) : (splice L o M).length = L.length := by
  unfold splice
  rw [List.length_append, List.length_append, List.length_take, List.length_drop]
  omega
theorem splice_in {L : List TermL} {o : Nat} {M : List TermL} (h : o + M.length ≤ L.length) {i : Nat} (hi : i < M.length) : (splice L o M)[o + i]? = M[i]? := by
  unfold splice
  have e : (L.take o).length = o := by rw [List.length_take]; omega
  rw [List.append_assoc, List.getElem?_append_right (by omega), e, Nat.add_sub_cancel_left, List.getElem?_append_left hi]
theorem splice_out {L : List TermL} {o : Nat} {M : List TermL} (h : o + M.length ≤ L.length) {i : Nat} (hi : i < o ∨ o + M.length ≤ i) : (splice L o M)[i]? = L[i]? := by
  unfold splice
  have e : (L.take o).length = o := by rw [List.length_take]; omega
  rcases hi with hi | hi
  · rw [List.append_assoc, List.getElem?_append_left (by omega), List.getElem?_take_of_lt hi]
  · rw [List.getElem?_append_right (by rw [List.length_append, e]; exact hi), List.length_append, e, List.getElem?_drop]
    congr 1
    omega

theorem info_term : (Tryz.prog.info? 37).map (fun i => (i.zero, i.size, i.bytes)) = some (some nilT.v, 4, 56) := by kernel_rfl
theorem info_text : (Tryz.prog.info? 9).map (fun i => (i.zero, i.size, i.bytes)) = some (some (.string ⟨#[]⟩), 1, 16) := by kernel_rfl
theorem info_row : (Tryz.prog.info? 35).map (fun i => (i.zero, i.size, i.bytes)) = some (some (.slice none 0 0), 1, 24) := by kernel_rfl

/- a whole struct stored into a block that is known whole -/
theorem whole_abs {ops : Array Oper} {rest : List Oper} {o : Oper} {a : Act} {w : World} {Q : Exit → Act → World → Prop} (ty : TypeId) (x y : Operand) (ho : o.op = .store ty x y ∧ o.guard = none)
    (g : Nat) (cells : Array Value) (hx : a.eval x = .pointer (some ⟨g, 0, none⟩)) (hy : a.eval y = .agg cells) (T : TypeId) (old : Array Value) (hg : Blk w g T old) (hi : (Tryz.prog.info? ty).map (·.size) = some cells.size)
    (hold : old.size = cells.size) (h1 : cells.all (·.oneCell') = true)
    (h : ∀ w', Hid (Blk w' g T cells) → Hid (w.grownBy w' (some g)) → wpList Tryz.prog ops Q rest (a.put o.dst undef) w') : wpList Tryz.prog ops Q (o :: rest) a w :=
  wpList_store_row ho.2 ty x y ho.1 g cells hx hy T old hg hi hold h1 (h _ (blk_row hg cells) (grown_set _ _ _))
theorem wp_whole_abs {o : Oper} {a : Act} {w : World} {K : Act → World → Prop} {Q : Exit → Act → World → Prop} (ty : TypeId) (x y : Operand) (ho : o.op = .store ty x y)
    (g : Nat) (cells : Array Value) (hx : a.eval x = .pointer (some ⟨g, 0, none⟩)) (hy : a.eval y = .agg cells) (T : TypeId) (old : Array Value) (hg : Blk w g T old) (hi : (Tryz.prog.info? ty).map (·.size) = some cells.size)
    (hold : old.size = cells.size) (h1 : cells.all (·.oneCell') = true)
    (h : ∀ w', Blk w' g T cells → w.grownBy w' (some g) → K (a.put o.dst undef) w') : Oper.wp Tryz.prog o a w K Q :=
  wp_store_row ty x y ho g cells hx hy T old hg hi hold h1 (h _ (blk_row hg cells) (grown_set _ _ _))
/- a struct stored into the midst of a row -/
theorem wp_mid_abs {o : Oper} {a : Act} {w : World} {K : Act → World → Prop} {Q : Exit → Act → World → Prop} (ty : TypeId) (x y : Operand) (ho : o.op = .store ty x y)
    (g off : Nat) (cells : Array Value) (hx : a.eval x = .pointer (some ⟨g, off, none⟩)) (hy : a.eval y = .agg cells) (T : TypeId) (xs ys : List Value) (hg : Blk w g T xs.toArray) (hi : (Tryz.prog.info? ty).map (·.size) = some cells.size)
    (h1 : cells.all (·.oneCell') = true) (e : xs.take off ++ cells.toList ++ xs.drop (off + cells.toList.length) = ys) (hfit : off + cells.toList.length ≤ xs.length)
    (h : ∀ w', Blk w' g T ys.toArray → w.grownBy w' (some g) → K (a.put o.dst undef) w') : Oper.wp Tryz.prog o a w K Q := by
  refine wp_store_at ty x y ho g off cells hx hy T xs.toArray hg hi (by simpa using hfit) h1 (h _ ?_ (grown_set _ _ _))
  rw [List.toList_toArray, e]
  exact blk_row hg _
theorem mid_abs {ops : Array Oper} {rest : List Oper} {o : Oper} {a : Act} {w : World} {Q : Exit → Act → World → Prop} (ty : TypeId) (x y : Operand) (ho : o.op = .store ty x y ∧ o.guard = none)
    (g off : Nat) (cells : Array Value) (hx : a.eval x = .pointer (some ⟨g, off, none⟩)) (hy : a.eval y = .agg cells) (T : TypeId) (xs ys : List Value) (hg : Blk w g T xs.toArray) (hi : (Tryz.prog.info? ty).map (·.size) = some cells.size)
    (h1 : cells.all (·.oneCell') = true) (e : xs.take off ++ cells.toList ++ xs.drop (off + cells.toList.length) = ys) (hfit : off + cells.toList.length ≤ xs.length)
    (h : ∀ w', Hid (Blk w' g T ys.toArray) → Hid (w.grownBy w' (some g)) → wpList Tryz.prog ops Q rest (a.put o.dst undef) w') : wpList Tryz.prog ops Q (o :: rest) a w :=
  wpList_plain ho.2 fun _ hK => wp_mid_abs ty x y ho.1 g off cells hx hy T xs ys hg hi h1 e hfit fun w' h2 h3 => hK _ _ (h w' h2 h3)
/- a value of one cell stored into a row -/
theorem run_storeVar_one {P : Program} (w : World) (g off : Nat) (t ty : TypeId) (old : Array Value) (v : Value) (hg : w.heap[g]? = some (.cells old t (0, 0))) (hi : (P.info? ty).map (·.size) = some 1) (hv : v.cells = #[v])
    (ho : off < old.size) (h1 : v.oneCell' = true) :
    (storeVar ty ⟨g, off, none⟩ v).run P w = .ok () (w.setRow g (old.toList.take off ++ [v] ++ old.toList.drop (off + 1)).toArray) := by
  have := run_storeCells_at P g off t [v] 0 old w hg (by simp; omega) (fun u hu => by simp at hu; rw [hu]; exact h1)
  rw [Nat.add_zero] at this
  cases hq : P.info? ty with
  | none => simp [hq] at hi
  | some i =>
    have hs : i.size = 1 := by simp [hq] at hi; omega
    simp [storeVar, sizeOf, typeInfo, hq, hv, hs]
    simpa using this
theorem wp_one_abs {o : Oper} {a : Act} {w : World} {K : Act → World → Prop} {Q : Exit → Act → World → Prop} (ty : TypeId) (x y : Operand) (ho : o.op = .store ty x y)
    (g off : Nat) (v : Value) (hx : a.eval x = .pointer (some ⟨g, off, none⟩)) (hy : a.eval y = v) (hv : v.cells = #[v]) (h1 : v.oneCell' = true)
    (t : TypeId) (xs : List Value) (hR : Blk w g t xs.toArray) (hi : (Tryz.prog.info? ty).map (·.size) = some 1)
    (hold : off < xs.length)
    (h : ∀ w', Blk w' g t (xs.set off v).toArray → w.grownBy w' (some g) → K (a.put o.dst undef) w') : Oper.wp Tryz.prog o a w K Q := by
  have hrun := run_storeVar_one (P := Tryz.prog) w g off t ty xs.toArray v hR hi hv (by simpa using hold) h1
  have e : xs.take off ++ [v] ++ xs.drop (off + 1) = xs.set off v := by rw [List.set_eq_take_append_cons_drop, if_pos hold]; simp
  rw [List.toList_toArray, e] at hrun
  unfold Oper.wp execOp
  simp only [ho, hx, hy, Instr.storeAt, Instr.sureAddr, Sem.run_bind, Sem.run_pure, Result.andThen_ok, hrun]
  exact h _ (blk_row hR _) (grown_set _ _ _)
theorem one_abs {ops : Array Oper} {rest : List Oper} {o : Oper} {a : Act} {w : World} {Q : Exit → Act → World → Prop} (ty : TypeId) (x y : Operand) (ho : o.op = .store ty x y ∧ o.guard = none)
    (g off : Nat) (v : Value) (hx : a.eval x = .pointer (some ⟨g, off, none⟩)) (hy : a.eval y = v) (hv : v.cells = #[v]) (h1 : v.oneCell' = true)
    (t : TypeId) (xs : List Value) (hR : Blk w g t xs.toArray) (hi : (Tryz.prog.info? ty).map (·.size) = some 1) (hold : off < xs.length)
    (h : ∀ w', Hid (Blk w' g t (xs.set off v).toArray) → Hid (w.grownBy w' (some g)) → wpList Tryz.prog ops Q rest (a.put o.dst undef) w') : wpList Tryz.prog ops Q (o :: rest) a w :=
  wpList_plain ho.2 fun _ hK => wp_one_abs ty x y ho.1 g off v hx hy hv h1 t xs hR hi hold fun w' h2 h3 => hK _ _ (h w' h2 h3)

/- a row that is made -/
theorem blk_made {w : World} {B g n size : Nat} {e : TypeId} {xs : List Value} (h : w.ownsRow B e size (.slice (some ⟨g, 0, none⟩) n n) n xs) : Blk w g e xs.toArray := by
  rcases h.2 with ⟨e0, _⟩ | ⟨g', cap, cur, e0, hb, hg, hn, hm, hs, ht⟩
  · cases e0
  · injection e0 with e1 _ e3
    injection e1 with e1
    injection e1 with e1
    subst e1; subst e3
    rw [List.take_of_length_le (by rw [Array.length_toList, hs]; exact Nat.le_refl _)] at ht
    unfold Blk
    rw [← ht]
    simpa using hg
theorem wp_make_abs {o : Oper} {a : Act} {w : World} {K : Act → World → Prop} {Q : Exit → Act → World → Prop} (l c : Operand) (t : TypeId) (hop : o.op = Op.makeSlice t l c)
    (e : TypeId) (i : TypeInfo) (z : Value) (size : Nat) (h1 : Tryz.prog.underlying t = some (.slice e)) (h2 : Tryz.prog.info? e = some i) (h3 : i.zero = some z) (h4 : i.size = size)
    (kl kc : IntKind) (n : Nat) (hl : a.eval l = .int kl n) (hc : a.eval c = .int kc n) (b2 : i.bytes * n ≤ 281474976710656) (b3 : n ≤ maxLen) (G : Nat) (hG : w.heap.size = G)
    (hK : ∀ w', Blk w' G e (madeCells z.cells (n * size)) → Below w.heap.size w w' → K (a.put o.dst (.slice (some ⟨G, 0, none⟩) n n)) w') : Oper.wp Tryz.prog o a w K Q := by
  obtain ⟨w', hrun, r1, r2⟩ := run_make_full (P := Tryz.prog) w w.heap.size t e i z size h1 h2 h3 h4 kl kc n b2 b3 (Nat.le_refl _)
  subst hG
  unfold Oper.wp
  simp [execOp, hop, hl, hc, hrun, Result.andThen]
  refine hK _ ?_ ?_
  · have := blk_made r1
    simpa using this
  · exact (Below.refl w.heap.size w).grown r2 (Nat.le_refl _) (fun k hk => by cases hk)
theorem make_abs {ops : Array Oper} {rest : List Oper} {o : Oper} {a : Act} {w : World} {Q : Exit → Act → World → Prop} (l c : Operand) (t : TypeId) (hop : o.op = Op.makeSlice t l c ∧ o.guard = none)
    (e : TypeId) (i : TypeInfo) (z : Value) (size : Nat) (h1 : Tryz.prog.underlying t = some (.slice e)) (h2 : Tryz.prog.info? e = some i) (h3 : i.zero = some z) (h4 : i.size = size)
    (kl kc : IntKind) (n : Nat) (hl : a.eval l = .int kl n) (hc : a.eval c = .int kc n) (b2 : i.bytes * n ≤ 281474976710656) (b3 : n ≤ maxLen) (G : Nat) (hG : w.heap.size = G)
    (h : ∀ w', Hid (Blk w' G e (madeCells z.cells (n * size))) → Hid (Below w.heap.size w w') → wpList Tryz.prog ops Q rest (a.put o.dst (.slice (some ⟨G, 0, none⟩) n n)) w') : wpList Tryz.prog ops Q (o :: rest) a w :=
  wpList_plain hop.2 fun _ hK => wp_make_abs l c t hop.1 e i z size h1 h2 h3 h4 kl kc n hl hc b2 b3 G hG fun w' k1 k2 => hK _ _ (h w' k1 k2)
theorem rep_at (l : List Value) : ∀ (n q r : Nat), q < n → r < l.length → ((List.replicate n l).flatten)[q * l.length + r]? = l[r]?
  | 0, q, r, hq, _ => absurd hq (Nat.not_lt_zero _)
  | n + 1, q, r, hq, hr => by
    rw [List.replicate_succ, List.flatten_cons]
    cases q with
    | zero => rw [Nat.zero_mul, Nat.zero_add, List.getElem?_append_left hr]
    | succ q =>
      rw [List.getElem?_append_right (by rw [Nat.succ_mul]; omega), show (q + 1) * l.length + r - l.length = q * l.length + r by rw [Nat.succ_mul]; omega]
      exact rep_at l n q r (by omega) hr
theorem made_list (z : Value) (n : Nat) (l : List Value) (hl : z.cells.toList = l) (h0 : 0 < l.length) : madeCells z.cells (n * l.length) = ((List.replicate n l).flatten).toArray := by
  have hs : z.cells.size = l.length := by rw [← Array.length_toList, hl]
  have hlen : ((List.replicate n l).flatten).length = n * l.length := by simp
  unfold madeCells
  apply Array.ext_getElem?
  intro i
  rw [Array.getElem?_map, show ((List.replicate n l).flatten).toArray[i]? = ((List.replicate n l).flatten)[i]? from by simp]
  by_cases hi : i < n * l.length
  · have hm : i % l.length < l.length := Nat.mod_lt _ h0
    have e := rep_at l n (i / l.length) (i % l.length) (by rw [Nat.div_lt_iff_lt_mul h0]; exact hi) hm
    rw [Nat.mul_comm, Nat.div_add_mod] at e
    rw [e, Array.getElem?_eq_getElem (by simpa using hi)]
    simp only [Array.getElem_range, Option.map_some, hs]
    rw [getElem!_pos _ _ (by rw [hs]; exact hm), ← Array.getElem?_eq_getElem (by rw [hs]; exact hm), ← Array.getElem?_toList, hl]
  · rw [Array.getElem?_eq_none (by simpa using hi), List.getElem?_eq_none (by omega)]
    rfl

end Go.Proofs.YtdnfaoanaehjhaaGreatDoor
