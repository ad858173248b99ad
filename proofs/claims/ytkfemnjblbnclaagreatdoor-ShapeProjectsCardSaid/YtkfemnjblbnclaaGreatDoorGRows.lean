/- ShpRowCK, ShpAppend, ShpAppAny, ShpRowsR, put together. -/
import Derived.Test.YtkfemnjblbnclaaGreatDoorShpEmpty
import Derived.Test.YtkfemnjblbnclaaGreatDoorShpLaws
import Derived.Maps.AppendAt

/- Rows of rows in a row of one's own: slices' values in its cells. -/
namespace Go.Proofs.YtkfemnjblbnclaaGreatDoor
open Go.RowKit

/- slices' values in the cells of a row of rows, in blocks that K tells of -/
def RowCK (K : Nat → Prop) (w : World) (cs : List Value) (F : List RowL) : Prop := cs.length = F.length ∧ ∀ j (h : j < F.length), ∃ a' c', cs[j]? = some (.slice a' F[j].length c') ∧ TrmK K w a' F[j].length c' F[j]
theorem rowCK_nil (K : Nat → Prop) (w : World) : RowCK K w [] [] := ⟨rfl, fun _ h => absurd h (Nat.not_lt_zero _)⟩
theorem RowCK.on {K : Nat → Prop} {w w' : World} {cs : List Value} {F : List RowL} (h : RowCK K w cs F) (hs : Stay K w w') : RowCK K w' cs F := ⟨h.1, fun j hj => by
  obtain ⟨a', c', e, ht⟩ := h.2 j hj
  exact ⟨a', c', e, ht.on hs⟩⟩
theorem RowCK.mono {K K' : Nat → Prop} {w : World} {cs : List Value} {F : List RowL} (h : RowCK K w cs F) (hk : ∀ i, i < w.heap.size → K i → K' i) : RowCK K' w cs F := ⟨h.1, fun j hj => by
  obtain ⟨a', c', e, ht⟩ := h.2 j hj
  exact ⟨a', c', e, ht.mono hk⟩⟩
theorem RowCK.app {K : Nat → Prop} {w : World} {cs ds : List Value} {F G : List RowL} (h : RowCK K w cs F) (k : RowCK K w ds G) : RowCK K w (cs ++ ds) (F ++ G) := by
  obtain ⟨h0, h⟩ := h
  obtain ⟨k0, k⟩ := k
  refine ⟨by rw [List.length_append, List.length_append, h0, k0], fun j hj => ?_⟩
  by_cases e : j < F.length
  · obtain ⟨a', c', e1, e2⟩ := h j e
    rw [List.getElem_append_left e]
    exact ⟨a', c', by rw [List.getElem?_append_left (by omega)]; exact e1, e2⟩
  · rw [List.length_append] at hj
    obtain ⟨a', c', e1, e2⟩ := k (j - F.length) (by omega)
    rw [List.getElem_append_right (by omega)]
    exact ⟨a', c', by rw [List.getElem?_append_right (by omega), h0]; exact e1, e2⟩
theorem own_rows {K : Nat → Prop} {W : World} {B n : Nat} {v : Value} {cs : List Value} {F : List RowL} (h : W.ownsRow B 51 1 v n cs) (hc : RowCK K W cs F) (hn : F.length = n) : ∃ a c, v = .slice a n c ∧ RowA W a n c F := by
  rcases h.2 with ⟨rfl, h0⟩ | ⟨g, cap, cur, rfl, hg, hblk, h1, h2, h3, h4⟩
  · subst h0
    have : F = [] := List.eq_nil_of_length_eq_zero hn
    subst this
    exact ⟨_, _, rfl, (row_nil (fun _ => True) W none 0 (Nat.zero_le _)).a⟩
  · refine ⟨_, _, rfl, hn, h1, h2, fun h0 => ⟨g, 0, rfl, (Array.getElem?_eq_some_iff.1 hblk).1, fun j hj => ?_⟩⟩
    obtain ⟨a', c', e1, e2⟩ := hc.2 j hj
    refine ⟨a', c', ?_, e2.a⟩
    rw [Nat.zero_add, h.cellAt j (by omega)]
    exact e1
/- the cells of a slice of rows -/
theorem rows_cells {K : Nat → Prop} {w : World} {g o n c : Nat} {F : List RowL} (h : RowK K w (some ⟨g, o, none⟩) n c F) (h0 : 0 < n) : ∃ cs, RowCK K w cs F ∧ (∀ j u, cs[j]? = some u → w.cell? ((⟨g, o, none⟩ : Addr).add j) = some u) ∧ ∀ u ∈ cs, u.oneCell' = true := by
  obtain ⟨g', o', e, hg, hk, hc⟩ := h.cells h0
  cases e
  have H : ∀ k, k ≤ F.length → ∃ cs : List Value, cs.length = k ∧ (∀ j (hj : j < F.length), j < k → ∃ a' c', cs[j]? = some (.slice a' F[j].length c') ∧ TrmK K w a' F[j].length c' F[j]) ∧ (∀ j u, cs[j]? = some u → w.cell? ((⟨g, o, none⟩ : Addr).add j) = some u) ∧ ∀ u ∈ cs, u.oneCell' = true := by
    intro k
    induction k with
    | zero => intro _; exact ⟨[], rfl, fun _ _ h => absurd h (Nat.not_lt_zero _), fun j u h => by simp at h, fun u h => absurd h List.not_mem_nil⟩
    | succ k ih =>
      intro hk
      obtain ⟨cs, e1, e2, e3, e4⟩ := ih (by omega)
      obtain ⟨a', c', d1, d2⟩ := hc k (by omega)
      refine ⟨cs ++ [.slice a' (F[k]'(by omega)).length c'], by rw [List.length_append, e1]; rfl, fun j hj hjk => ?_, fun j u hu => ?_, fun u hu => ?_⟩
      · by_cases e : j < k
        · obtain ⟨x, y, f1, f2⟩ := e2 j hj e
          exact ⟨x, y, by rw [List.getElem?_append_left (by omega)]; exact f1, f2⟩
        · have ej : j = k := by omega
          subst ej
          exact ⟨a', c', by rw [List.getElem?_append_right (by omega), e1, Nat.sub_self]; rfl, d2⟩
      · by_cases e : j < k
        · exact e3 j u (by rw [List.getElem?_append_left (by omega)] at hu; exact hu)
        · rw [List.getElem?_append_right (by omega)] at hu
          have ej : j = k := by
            have := (List.getElem?_eq_some_iff.1 hu).1
            simp at this
            omega
          subst ej
          rw [e1, Nat.sub_self] at hu
          have eu : Value.slice a' (F[j]'(by omega)).length c' = u := by simpa using hu
          rw [add_at, ← eu]
          exact d1
      · rcases List.mem_append.1 hu with hu | hu
        · exact e4 u hu
        · rw [List.mem_singleton] at hu
          rw [hu]; rfl
  obtain ⟨cs, e1, e2, e3, e4⟩ := H F.length (Nat.le_refl _)
  exact ⟨cs, ⟨e1, fun j hj => e2 j hj hj⟩, e3, e4⟩

theorem own_cells {w : World} {B size n : Nat} {e : TypeId} {v : Value} {xs : List Value} (h : w.ownsRow B e size v n xs) : v.cells = #[v] ∧ v.oneCell' = true := by
  rcases h.2 with ⟨rfl, _⟩ | ⟨g, cap, cur, rfl, _⟩
  · exact ⟨rfl, rfl⟩
  · exact ⟨rfl, rfl⟩

end Go.Proofs.YtkfemnjblbnclaaGreatDoor

/- An append to a row of one's own, within a region that draws its order. -/
namespace Go.Proofs.YtkfemnjblbnclaaGreatDoor
open Go.RowKit Go.Maps

theorem wp_append_own {o : Oper} {a : Act} {w : World} {K : Act → World → Prop} {Q : Exit → Act → World → Prop} (s x : Operand) (t : TypeId)
    (ho : o.op = .call { callee := .builtin .append, args := #[s, x], argTypes := #[t, t] })
    (base : Nat) (e : TypeId) (i : TypeInfo) (z : Value) (size bytes : Nat) (ht : Tryz.prog.underlying t = some (.slice e)) (hi : Tryz.prog.info? e = some i) (hz : i.zero = some z)
    (hsize : i.size = size) (hby : i.bytes = bytes) (hzs : z.cells.size = size) (hsz : 0 < size)
    (v : Value) (n : Nat) (xs : List Value) (hs : a.eval s = v) (hown : w.ownsRow base e size v n xs)
    (ad : Addr) (m c : Nat) (news : List Value) (hx : a.eval x = .slice (some ad) m c) (hl : news.length = m * size) (hnews : ∀ j u, news[j]? = some u → w.cell? (ad.add j) = some u) (h1 : ∀ u ∈ news, u.oneCell' = true)
    (h63 : n + m ≤ maxLen) (hbytes : (n + m) * bytes ≤ 140737488355328) (hbase : base ≤ w.heap.size)
    (h : ∀ v' w', w'.ownsRow base e size v' (n + m) (xs ++ news) → w.grownBy w' v.ownBlock → (v'.ownBlock = v.ownBlock ∨ v'.ownBlock = some w.heap.size) → K (a.put o.dst v') w') : Oper.wp Tryz.prog o a w K Q := by
  obtain ⟨v', w', hr, h2, h3, _, h5⟩ := run_append_own_at (P := Tryz.prog) w base t o.type e i z size bytes ht hi hz hsize hby hzs hsz v n xs hown ad m c news hl hnews h1 h63 hbytes hbase
  unfold Oper.wp execOp
  simp only [ho, resolve, invoke, builtin, Sem.run_bind, Sem.run_pure, Result.andThen_ok, List.map_toArray, List.map_cons, List.map_nil, hs, hx, hr]
  exact h v' w' h2 h3 h5

end Go.Proofs.YtkfemnjblbnclaaGreatDoor

/- An append to a row of one's own of what any slice holds: nothing at all, or its cells; rows of terms in blocks of terms alone. -/
namespace Go.Proofs.YtkfemnjblbnclaaGreatDoor
open Go.RowKit Go.Maps

theorem run_append_void {w : World} {base : Nat} {t ty e : TypeId} {i : TypeInfo} {size : Nat} (ht : Tryz.prog.underlying t = some (.slice e)) (hi : Tryz.prog.info? e = some i)
    {v : Value} {n : Nat} {xs : List Value} (hown : w.ownsRow base e size v n xs) (c : Nat) :
    (Builtin.append_ #[t, t] ty #[v, .slice none 0 c]).run Tryz.prog w = .ok v w := by
  rcases hown.2 with ⟨rfl, rfl⟩ | ⟨g, cap, cur, rfl, _, _, hnc, _⟩
  · simp [Builtin.append_, run_underlying ht, sizeOf, typeInfo, hi, Builtin.lenOf, Builtin.firstCells]
  · simp [Builtin.append_, run_underlying ht, sizeOf, typeInfo, hi, Builtin.lenOf, Builtin.firstCells, hnc, storeCells]
theorem wp_append_any {o : Oper} {a : Act} {w : World} {K : Act → World → Prop} {Q : Exit → Act → World → Prop} (s x : Operand) (t : TypeId)
    (ho : o.op = .call { callee := .builtin .append, args := #[s, x], argTypes := #[t, t] })
    (base : Nat) (e : TypeId) (i : TypeInfo) (z : Value) (size bytes : Nat) (ht : Tryz.prog.underlying t = some (.slice e)) (hi : Tryz.prog.info? e = some i) (hz : i.zero = some z)
    (hsize : i.size = size) (hby : i.bytes = bytes) (hzs : z.cells.size = size) (hsz : 0 < size)
    (v : Value) (n : Nat) (xs : List Value) (hs : a.eval s = v) (hown : w.ownsRow base e size v n xs)
    (xa : Option Addr) (m c : Nat) (news : List Value) (hx : a.eval x = .slice xa m c) (hl : news.length = m * size) (hnews : 0 < m → ∃ ad, xa = some ad ∧ ∀ j u, news[j]? = some u → w.cell? (ad.add j) = some u) (h1 : ∀ u ∈ news, u.oneCell' = true)
    (h63 : n + m ≤ maxLen) (hbytes : (n + m) * bytes ≤ 140737488355328) (hbase : base ≤ w.heap.size)
    (h : ∀ v' w', w'.ownsRow base e size v' (n + m) (xs ++ news) → w.grownBy w' v.ownBlock → (v'.ownBlock = v.ownBlock ∨ v'.ownBlock = some w.heap.size) → K (a.put o.dst v') w') : Oper.wp Tryz.prog o a w K Q := by
  have hnil : ¬ 0 < m → news = [] := fun h0 => List.eq_nil_of_length_eq_zero (by rw [hl, show m = 0 by omega, Nat.zero_mul])
  cases xa with
  | some ad =>
    refine wp_append_own s x t ho base e i z size bytes ht hi hz hsize hby hzs hsz v n xs hs hown ad m c news hx hl (fun j u hj => ?_) h1 h63 hbytes hbase h
    by_cases h0 : 0 < m
    · obtain ⟨ad', e', hc⟩ := hnews h0
      cases e'
      exact hc j u hj
    · rw [hnil h0] at hj; simp at hj
  | none =>
    have hm : ¬ 0 < m := fun h0 => by obtain ⟨ad', e', _⟩ := hnews h0; cases e'
    have hm0 : m = 0 := by omega
    have hn0 := hnil hm
    subst hm0 hn0
    have hr := run_append_void (ty := o.type) ht hi hown c
    unfold Oper.wp execOp
    simp only [ho, resolve, invoke, builtin, Sem.run_bind, Sem.run_pure, Result.andThen_ok, List.map_toArray, List.map_cons, List.map_nil, hs, hx, hr]
    exact h v w (by rw [List.append_nil, Nat.add_zero]; exact hown) (grown_refl _ _) (.inl rfl)
theorem append_any {ops : Array Oper} {rest : List Oper} {o : Oper} {a : Act} {w : World} {Q : Exit → Act → World → Prop} (s x : Operand) (t : TypeId)
    (ho : o.op = .call { callee := .builtin .append, args := #[s, x], argTypes := #[t, t] } ∧ o.guard = none)
    (base : Nat) (e : TypeId) (i : TypeInfo) (z : Value) (size bytes : Nat) (ht : Tryz.prog.underlying t = some (.slice e)) (hi : Tryz.prog.info? e = some i) (hz : i.zero = some z)
    (hsize : i.size = size) (hby : i.bytes = bytes) (hzs : z.cells.size = size) (hsz : 0 < size)
    (v : Value) (n : Nat) (xs : List Value) (hs : a.eval s = v) (hown : w.ownsRow base e size v n xs)
    (xa : Option Addr) (m c : Nat) (news : List Value) (hx : a.eval x = .slice xa m c) (hl : news.length = m * size) (hnews : 0 < m → ∃ ad, xa = some ad ∧ ∀ j u, news[j]? = some u → w.cell? (ad.add j) = some u) (h1 : ∀ u ∈ news, u.oneCell' = true)
    (h63 : n + m ≤ maxLen) (hbytes : (n + m) * bytes ≤ 140737488355328) (hbase : base ≤ w.heap.size)
    (h : ∀ v' w', Hid (w'.ownsRow base e size v' (n + m) (xs ++ news)) → Hid (w.grownBy w' v.ownBlock) → Hid (v'.ownBlock = v.ownBlock ∨ v'.ownBlock = some w.heap.size) → wpList Tryz.prog ops Q rest (a.put o.dst v') w') : wpList Tryz.prog ops Q (o :: rest) a w :=
  wpList_plain ho.2 fun _ hK => wp_append_any s x t ho.1 base e i z size bytes ht hi hz hsize hby hzs hsz v n xs hs hown xa m c news hx hl hnews h1 h63 hbytes hbase fun v' w' k1 k2 k3 => hK _ _ (h v' w' k1 k2 k3)

/- blocks of terms -/
def isT (w : World) (b : Nat) : Prop := ∃ cur, Blk w b 23 cur
theorem isT_same {w w' : World} {b : Nat} (h : isT w b) (e : w'.heap[b]? = w.heap[b]?) : isT w' b := by
  obtain ⟨cur, hc⟩ := h
  exact ⟨cur, by unfold Blk at *; rw [e]; exact hc⟩
theorem not_isT {w : World} {b : Nat} {T : TypeId} {cur : Array Value} (h : Blk w b T cur) (hT : T ≠ 23) : ¬ isT w b := by
  rintro ⟨c2, h2⟩
  exact blk_kinds h h2 hT rfl
theorem own_blk {w : World} {B size n : Nat} {e : TypeId} {v : Value} {xs : List Value} (h : w.ownsRow B e size v n xs) {g : Nat} (hg : v.ownBlock = some g) : ∃ cur, Blk w g e cur := by
  rcases h.2 with ⟨rfl, _⟩ | ⟨g', cap, cur, rfl, _, hb, _⟩
  · cases hg
  · cases hg
    exact ⟨cur, hb⟩
theorem own_notT {w : World} {B size n : Nat} {e : TypeId} {v : Value} {xs : List Value} (h : w.ownsRow B e size v n xs) (he : e ≠ 23) {g : Nat} (hg : isT w g) : v.ownBlock ≠ some g := fun c => by
  obtain ⟨cur, hc⟩ := own_blk h c
  exact not_isT hc he hg
/- a row of terms of one's own -/
theorem own_trms {w : World} {B n : Nat} {v : Value} {L : List TermL} (h : w.ownsRow B 23 4 v n (cellsT L)) : ∃ a c, v = .slice a n c ∧ TrmK (fun b => B ≤ b ∧ isT w b) w a n c L := by
  have hl : L.length = n := by have := h.1; rw [cellsT_length] at this; omega
  rcases h.2 with ⟨rfl, rfl⟩ | ⟨g, cap, cur, rfl, hg, hblk, h1, h2, h3, h4⟩
  · exact ⟨_, _, rfl, hl, Nat.le_refl _, Nat.zero_le _, fun h0 => absurd h0 (Nat.lt_irrefl _)⟩
  · refine ⟨_, _, rfl, hl, h1, h2, fun h0 => ⟨g, 0, rfl, (Array.getElem?_eq_some_iff.1 hblk).1, ⟨hg, cur, hblk⟩, fun j hj => ?_⟩⟩
    have hc := fun q (hq : q < 4) => (h.cellAt (j * 4 + q) (by omega)).trans (cellsT_at L j hj q hq)
    rw [Nat.zero_add]
    exact ⟨hc 0 (by omega), hc 1 (by omega), hc 2 (by omega), hc 3 (by omega)⟩
theorem own_txts {w : World} {B n : Nat} {v : Value} {L : List (List UInt8)} (h : w.ownsRow B 9 1 v n (textCells L)) : ∃ a c, v = .slice a n c ∧ TxtK (fun b => B ≤ b ∧ ¬ isT w b) w a n c L := by
  have hl : L.length = n := by have := h.1; unfold textCells at this; rw [List.length_map] at this; omega
  rcases h.2 with ⟨rfl, rfl⟩ | ⟨g, cap, cur, rfl, hg, hblk, h1, h2, h3, h4⟩
  · exact ⟨_, _, rfl, hl, Nat.le_refl _, Nat.zero_le _, fun h0 => absurd h0 (Nat.lt_irrefl _)⟩
  · refine ⟨_, _, rfl, hl, h1, h2, fun h0 => ⟨g, 0, rfl, (Array.getElem?_eq_some_iff.1 hblk).1, ⟨hg, not_isT hblk str_trm⟩, fun j hj => ?_⟩⟩
    rw [Nat.zero_add, h.cellAt j (by omega)]
    simp [textCells, hj]
/- what is appended, out of slices -/
theorem TrmA.news {w : World} {a : Option Addr} {n c : Nat} {L : List TermL} (h : TrmA w a n c L) : 0 < n → ∃ ad, a = some ad ∧ ∀ j u, (cellsT L)[j]? = some u → w.cell? (ad.add j) = some u := fun h0 => by
  obtain ⟨g, o, e, _, hc⟩ := h.flat h0
  refine ⟨_, e, fun j u hu => ?_⟩
  rw [add_at]; exact hc j u hu
theorem TxtA.news {w : World} {a : Option Addr} {n c : Nat} {L : List (List UInt8)} (h : TxtA w a n c L) : 0 < n → ∃ ad, a = some ad ∧ ∀ j u, (textCells L)[j]? = some u → w.cell? (ad.add j) = some u := fun h0 => by
  obtain ⟨g, o, e, _, hc⟩ := h.cells h0
  refine ⟨_, e, fun j u hu => ?_⟩
  rw [add_at]
  unfold textCells at hu
  rw [List.getElem?_map] at hu
  cases hq : L[j]? with
  | none => rw [hq] at hu; cases hu
  | some x =>
    rw [hq] at hu
    obtain ⟨hj, e2⟩ := List.getElem?_eq_some_iff.1 hq
    subst e2
    rw [hc j hj]; exact hu
theorem textCells_cell {l : List (List UInt8)} : ∀ v ∈ textCells l, v.oneCell' = true := by
  intro v hv
  unfold textCells at hv
  obtain ⟨x, _, rfl⟩ := List.mem_map.1 hv
  rfl
/- rows of rows: the slices lie in blocks that H tells of, the terms in those that K tells of -/
structure RowJ (H K : Nat → Prop) (w : World) (a : Option Addr) (n c : Nat) (R : List (List TermL)) : Prop where
  len : R.length = n
  cap : n ≤ c
  most : c ≤ maxLen
  cells : 0 < n → ∃ g o, a = some ⟨g, o, none⟩ ∧ g < w.heap.size ∧ H g ∧ ∀ j (h : j < R.length), ∃ a' c', w.cell? ⟨g, o + j, none⟩ = some (.slice a' R[j].length c') ∧ TrmK K w a' R[j].length c' R[j]
theorem RowJ.a {H K : Nat → Prop} {w : World} {a : Option Addr} {n c : Nat} {R : List (List TermL)} (h : RowJ H K w a n c R) : RowA w a n c R := ⟨h.len, h.cap, h.most, fun h0 => by
  obtain ⟨g, o, e, hg, _, hc⟩ := h.cells h0
  exact ⟨g, o, e, hg, fun j hj => by obtain ⟨a', c', h1, h2⟩ := hc j hj; exact ⟨a', c', h1, h2.a⟩⟩⟩
theorem RowJ.on {H K : Nat → Prop} {w w' : World} {a : Option Addr} {n c : Nat} {R : List (List TermL)} (h : RowJ H K w a n c R) (hs : Stay (fun i => H i ∨ K i) w w') : RowJ H K w' a n c R := ⟨h.len, h.cap, h.most, fun h0 => by
  obtain ⟨g, o, e, hg, k, hc⟩ := h.cells h0
  exact ⟨g, o, e, Nat.lt_of_lt_of_le hg hs.size, k, fun j hj => by
    obtain ⟨a', c', h1, h2⟩ := hc j hj
    exact ⟨a', c', (cell_same (hs.block g hg (.inl k)) _).trans h1, h2.on (hs.mono (fun i _ hi => .inr hi))⟩⟩⟩
theorem RowJ.mono {H K H' K' : Nat → Prop} {w : World} {a : Option Addr} {n c : Nat} {R : List (List TermL)} (h : RowJ H K w a n c R) (h1 : ∀ i, i < w.heap.size → H i → H' i) (h2 : ∀ i, i < w.heap.size → K i → K' i) : RowJ H' K' w a n c R := ⟨h.len, h.cap, h.most, fun h0 => by
  obtain ⟨g, o, e, hg, k, hc⟩ := h.cells h0
  exact ⟨g, o, e, hg, h1 g hg k, fun j hj => by obtain ⟨a', c', k1, k2⟩ := hc j hj; exact ⟨a', c', k1, k2.mono h2⟩⟩⟩
theorem own_rowsJ {K : Nat → Prop} {W : World} {B n : Nat} {v : Value} {cs : List Value} {F : List RowL} (h : W.ownsRow B 51 1 v n cs) (hc : RowCK K W cs F) (hn : F.length = n) : ∃ a c, v = .slice a n c ∧ RowJ (fun b => B ≤ b ∧ ¬ isT W b) K W a n c F := by
  rcases h.2 with ⟨rfl, h0⟩ | ⟨g, cap, cur, rfl, hg, hblk, h1, h2, h3, h4⟩
  · subst h0
    have : F = [] := List.eq_nil_of_length_eq_zero hn
    subst this
    exact ⟨_, _, rfl, rfl, Nat.le_refl _, Nat.zero_le _, fun h0 => absurd h0 (Nat.lt_irrefl _)⟩
  · refine ⟨_, _, rfl, hn, h1, h2, fun h0 => ⟨g, 0, rfl, (Array.getElem?_eq_some_iff.1 hblk).1, ⟨hg, not_isT hblk row_trm⟩, fun j hj => ?_⟩⟩
    obtain ⟨a', c', e1, e2⟩ := hc.2 j hj
    refine ⟨a', c', ?_, e2⟩
    rw [Nat.zero_add, h.cellAt j (by omega)]
    exact e1
/- a table of one's own: its terms' blocks hold terms alone, and nothing else of it -/
structure OwnTab (B : Nat) (w : World) (tv : Value) (V : List (List UInt8)) (R : List RowL) : Prop where
  is : ∃ va n vc ra m rc, tv = .agg #[.slice va n vc, .slice ra m rc] ∧ TxtK (fun b => B ≤ b ∧ ¬ isT w b) w va n vc V ∧ RowJ (fun b => B ≤ b ∧ ¬ isT w b) (fun b => B ≤ b ∧ isT w b) w ra m rc R
theorem OwnTab.a {B : Nat} {w : World} {tv : Value} {V : List (List UInt8)} {R : List RowL} (h : OwnTab B w tv V R) : TabA w tv V R := by
  obtain ⟨va, n, vc, ra, m, rc, e, h1, h2⟩ := h.is
  exact ⟨va, n, vc, ra, m, rc, e, h1.a, h2.a⟩

end Go.Proofs.YtkfemnjblbnclaaGreatDoor

/- Rows gathered in a box's field: what the rounds keep, and one row more. -/
namespace Go.Proofs.YtkfemnjblbnclaaGreatDoor
open Go.RowKit Go.Maps

structure RowsR (X : Nat) (w0 : World) (vs v : Value) (F : List RowL) (wr : World) : Prop where
  all : Blk wr X 31 #[vs, v]
  own : ∃ cs, wr.ownsRow (X + 1) 51 1 v F.length cs ∧ RowCK (fun b => b < X) wr cs F
  below : Below X w0 wr
  size : X + 1 ≤ wr.heap.size
theorem RowsR.start {X : Nat} {w0 : World} {vs : Value} {F : List RowL} (h : Blk w0 X 31 #[vs, .slice none 0 0]) : RowsR X w0 vs (.slice none 0 0) (F.take 0) w0 :=
  ⟨h, ⟨[], by rw [List.take_zero]; exact World.ownsRow_nil _ _ _ _, by rw [List.take_zero]; exact rowCK_nil _ _⟩, Below.refl _ _, by have := blk_lt h; omega⟩
theorem rows_next {X i yn : Nat} {w0 W1 w5 w6 : World} {vs v v5 : Value} {F G : List RowL} {y : RowL} {cs : List Value} {a' : Option Addr} {c' : Nat} (hR : RowsR X w0 vs v F W1) (hC : RowCK (fun b => b < X) W1 cs F) (hl : F.length = i)
    (ht : TrmK (fun b => b < X) W1 a' yn c' y) (hy : y.length = yn) (hTK : F ++ [y] = G) (h5 : w5.ownsRow (X + 1) 51 1 v5 (i + 1) (cs ++ [.slice a' yn c'])) (hX6 : Blk w6 X 31 ([vs, v].set 1 v5).toArray) (g6 : w5.grownBy w6 (some X)) (hb6 : Below X W1 w6) : RowsR X w0 vs v5 G w6 := by
  have h1 : RowCK (fun b => b < X) W1 [.slice a' yn c'] [y] := ⟨rfl, fun j hj => by
    have e : j = 0 := by simp at hj; exact hj
    subst e
    subst hy
    exact ⟨a', c', rfl, ht⟩⟩
  have h12 := (hC.app h1).on (stay_under hb6)
  rw [hTK] at h12
  have hl2 : G.length = i + 1 := by rw [← hTK, List.length_append, hl]; rfl
  refine ⟨hX6, ⟨cs ++ [.slice a' yn c'], ?_, h12⟩, hR.below.trans hb6, by have h1 := hR.size; have h2 := hb6.size; omega⟩
  rw [hl2]
  exact h5.kept g6 (.inr (fun e => by have := (h5.lt X e).1; omega))
theorem RowsR.rows {X : Nat} {w0 wr : World} {vs v : Value} {F : List RowL} (h : RowsR X w0 vs v F wr) : ∃ a c, v = .slice a F.length c ∧ RowA wr a F.length c F := by
  obtain ⟨cs, h1, h2⟩ := h.own
  exact own_rows h1 h2 rfl

end Go.Proofs.YtkfemnjblbnclaaGreatDoor
