/- ShpAppAny, NumKit, ShpText, put together. -/
import Derived.Test.YtdnfaoanaehjhaaGreatDoorH9
import Derived.Test.YtdnfaoanaehjhaaGreatDoorH2
import Derived.Test.YtdnfaoanaehjhaaGreatDoorProg
import Derived.WalkKit
import Derived.Lib.Hide
import Derived.Lib.LaidTab
import Derived.Lib.ItoaMem
import Derived.WalkSpells
import Derived.WalkLawsBesides
import Derived.BigQuiet
import Derived.Deep.QuietTactic
import Derived.RegionTactic
import Derived.ChangeAlike
import Derived.Test.YtdnfaoanaehjhaaGreatDoorH7
import Derived.Test.YtdnfaoanaehjhaaGreatDoorH5
import Derived.Test.YtdnfaoanaehjhaaGreatDoorH6
import Derived.Test.YtdnfaoanaehjhaaGreatDoorShelf
import Derived.Laws.IdiomStrings
import Derived.Lib.UnsafeStr
import Derived.Deep.LoopGhost

/- An append to a row of one's own of what any slice holds: nothing at all, or its cells; rows of terms in blocks of terms alone. -/
namespace Go.Proofs.YtdnfaoanaehjhaaGreatDoor
open Go.RowKit Go.Maps

theorem run_append_void {w : World} {base : Nat} {t ty e : TypeId} {i : TypeInfo} {size : Nat} (ht : Tryz.prog.underlying t = some (.slice e)) (hi : Tryz.prog.info? e = some i)
    {v : Value} {n : Nat} {xs : List Value} (hown : w.ownsRow base e size v n xs) (c : Nat) :
    (Builtin.append_ #[t, t] ty #[v, .slice none 0 c]).run Tryz.prog w = .ok v w := by
  rcases hown.2 with ⟨rfl, rfl⟩ | ⟨g, cap, cur, rfl, _, _, hnc, _⟩
  · simp [Builtin.append_, run_underlying ht, sizeOf, typeInfo, hi, Builtin.lenOf, Builtin.firstCells]
  · simp [Builtin.append_, run_underlying ht, sizeOf, typeInfo, hi, Builtin.lenOf, Builtin.firstCells, hnc, storeCells]
theorem wp_append_any {o : Oper} {a : Act} {w : World} {K : Act → World → Prop} {Q : Exit → Act → World → Prop} (s x : Operand) (t : TypeId)
    (ho : o.op = .call { callee := .builtin .append, args := #[s, x], argTypes := #[t, t] })
    (base : Nat) (e : TypeId) (i : TypeInfo) (z : Value) (size bytes : Nat) (ht : Tryz.prog.underlying t = some (.slice e)) (hi : Tryz.prog.info? e = some i) (hz : i.zero = some z)
    (hsize : i.size = size) (hby : i.bytes = bytes) (hzs : z.cells.size = size) (hsz : 0 < size)
    (v : Value) (n : Nat) (xs : List Value) (hs : a.eval s = v) (hown : w.ownsRow base e size v n xs)
    (xa : Option Addr) (m c : Nat) (news : List Value) (hx : a.eval x = .slice xa m c) (hl : news.length = m * size) (hnews : 0 < m → ∃ ad, xa = some ad ∧ ∀ j u, news[j]? = some u → w.cell? (ad.add j) = some u) (h1 : ∀ u ∈ news, u.oneCell' = true)
    (h63 : n + m ≤ maxLen) (hbytes : (n + m) * bytes ≤ 140737488355328) (hbase : base ≤ w.heap.size)
    (h : ∀ v' w', w'.ownsRow base e size v' (n + m) (xs ++ news) → w.grownBy w' v.ownBlock → (v'.ownBlock = v.ownBlock ∨ v'.ownBlock = some w.heap.size) → K (a.put o.dst v') w') : Oper.wp Tryz.prog o a w K Q := by
  have hnil : ¬ 0 < m → news = [] := fun h0 => List.eq_nil_of_length_eq_zero (by rw [hl, show m = 0 by omega, Nat.zero_mul])
  cases xa with
  | some ad =>
    refine wp_append_own s x t ho base e i z size bytes ht hi hz hsize hby hzs hsz v n xs hs hown ad m c news hx hl (fun j u hj => ?_) h1 h63 hbytes hbase h
    by_cases h0 : 0 < m
    · obtain ⟨ad', e', hc⟩ := hnews h0
      cases e'
      exact hc j u hj
    · rw [hnil h0] at hj; simp at hj
  | none =>
    have hm : ¬ 0 < m := fun h0 => by obtain ⟨ad', e', _⟩ := hnews h0; cases e'
    have hm0 : m = 0 := by omega
    have hn0 := hnil hm
    subst hm0 hn0
    have hr := run_append_void (ty := o.type) ht hi hown c
    unfold Oper.wp execOp
    simp only [ho, resolve, invoke, builtin, Sem.run_bind, Sem.run_pure, Result.andThen_ok, List.map_toArray, List.map_cons, List.map_nil, hs, hx, hr]
    exact h v w (by rw [List.append_nil, Nat.add_zero]; exact hown) (grown_refl _ _) (.inl rfl)
theorem append_any {ops : Array Oper} {rest : List Oper} {o : Oper} {a : Act} {w : World} {Q : Exit → Act → World → Prop} (s x : Operand) (t : TypeId)
    (ho : o.op = .call { callee := .builtin .append, args := #[s, x], argTypes := #[t, t] } ∧ o.guard = none)
    (base : Nat) (e : TypeId) (i : TypeInfo) (z : Value) (size bytes : Nat) (ht : Tryz.prog.underlying t = some (.slice e)) (hi : Tryz.prog.info? e = some i) (hz : i.zero = some z)
    (hsize : i.size = size) (hby : i.bytes = bytes) (hzs : z.cells.size = size) (hsz : 0 < size)
    (v : Value) (n : Nat) (xs : List Value) (hs : a.eval s = v) (hown : w.ownsRow base e size v n xs)
    (xa : Option Addr) (m c : Nat) (news : List Value) (hx : a.eval x = .slice xa m c) (hl : news.length = m * size) (hnews : 0 < m → ∃ ad, xa = some ad ∧ ∀ j u, news[j]? = some u → w.cell? (ad.add j) = some u) (h1 : ∀ u ∈ news, u.oneCell' = true)
    (h63 : n + m ≤ maxLen) (hbytes : (n + m) * bytes ≤ 140737488355328) (hbase : base ≤ w.heap.size)
    (h : ∀ v' w', Hid (w'.ownsRow base e size v' (n + m) (xs ++ news)) → Hid (w.grownBy w' v.ownBlock) → Hid (v'.ownBlock = v.ownBlock ∨ v'.ownBlock = some w.heap.size) → wpList Tryz.prog ops Q rest (a.put o.dst v') w') : wpList Tryz.prog ops Q (o :: rest) a w :=
  wpList_plain ho.2 fun _ hK => wp_append_any s x t ho.1 base e i z size bytes ht hi hz hsize hby hzs hsz v n xs hs hown xa m c news hx hl hnews h1 h63 hbytes hbase fun v' w' k1 k2 k3 => hK _ _ (h v' w' k1 k2 k3)

/- blocks of terms -/
def isT (w : World) (b : Nat) : Prop := ∃ cur, Blk w b 37 cur
theorem isT_same {w w' : World} {b : Nat} (h : isT w b) (e : w'.heap[b]? = w.heap[b]?) : isT w' b := by
  obtain ⟨cur, hc⟩ := h
  exact ⟨cur, by unfold Blk at *; rw [e]; exact hc⟩
theorem not_isT {w : World} {b : Nat} {T : TypeId} {cur : Array Value} (h : Blk w b T cur) (hT : T ≠ 37) : ¬ isT w b := by
  rintro ⟨c2, h2⟩
  exact blk_kinds h h2 hT rfl
theorem own_blk {w : World} {B size n : Nat} {e : TypeId} {v : Value} {xs : List Value} (h : w.ownsRow B e size v n xs) {g : Nat} (hg : v.ownBlock = some g) : ∃ cur, Blk w g e cur := by
  rcases h.2 with ⟨rfl, _⟩ | ⟨g', cap, cur, rfl, _, hb, _⟩
  · cases hg
  · cases hg
    exact ⟨cur, hb⟩
theorem own_notT {w : World} {B size n : Nat} {e : TypeId} {v : Value} {xs : List Value} (h : w.ownsRow B e size v n xs) (he : e ≠ 37) {g : Nat} (hg : isT w g) : v.ownBlock ≠ some g := fun c => by
  obtain ⟨cur, hc⟩ := own_blk h c
  exact not_isT hc he hg
/- a row of terms of one's own -/
theorem own_trms {w : World} {B n : Nat} {v : Value} {L : List TermL} (h : w.ownsRow B 37 4 v n (cellsT L)) : ∃ a c, v = .slice a n c ∧ TrmK (fun b => B ≤ b ∧ isT w b) w a n c L := by
  have hl : L.length = n := by have := h.1; rw [cellsT_length] at this; omega
  rcases h.2 with ⟨rfl, rfl⟩ | ⟨g, cap, cur, rfl, hg, hblk, h1, h2, h3, h4⟩
  · exact ⟨_, _, rfl, hl, Nat.le_refl _, Nat.zero_le _, fun h0 => absurd h0 (Nat.lt_irrefl _)⟩
  · refine ⟨_, _, rfl, hl, h1, h2, fun h0 => ⟨g, 0, rfl, (Array.getElem?_eq_some_iff.1 hblk).1, ⟨hg, cur, hblk⟩, fun j hj => ?_⟩⟩
    have hc := fun q (hq : q < 4) => (h.cellAt (j * 4 + q) (by omega)).trans (cellsT_at L j hj q hq)
    rw [Nat.zero_add]
    exact ⟨hc 0 (by omega), hc 1 (by omega), hc 2 (by omega), hc 3 (by omega)⟩
theorem own_txts {w : World} {B n : Nat} {v : Value} {L : List (List UInt8)} (h : w.ownsRow B 9 1 v n (textCells L)) : ∃ a c, v = .slice a n c ∧ TxtK (fun b => B ≤ b ∧ ¬ isT w b) w a n c L := by
  have hl : L.length = n := by have := h.1; unfold textCells at this; rw [List.length_map] at this; omega
  rcases h.2 with ⟨rfl, rfl⟩ | ⟨g, cap, cur, rfl, hg, hblk, h1, h2, h3, h4⟩
  · exact ⟨_, _, rfl, hl, Nat.le_refl _, Nat.zero_le _, fun h0 => absurd h0 (Nat.lt_irrefl _)⟩
  · refine ⟨_, _, rfl, hl, h1, h2, fun h0 => ⟨g, 0, rfl, (Array.getElem?_eq_some_iff.1 hblk).1, ⟨hg, not_isT hblk str_trm⟩, fun j hj => ?_⟩⟩
    rw [Nat.zero_add, h.cellAt j (by omega)]
    simp [textCells, hj]
/- what is appended, out of slices -/
theorem TrmA.news {w : World} {a : Option Addr} {n c : Nat} {L : List TermL} (h : TrmA w a n c L) : 0 < n → ∃ ad, a = some ad ∧ ∀ j u, (cellsT L)[j]? = some u → w.cell? (ad.add j) = some u := fun h0 => by
  obtain ⟨g, o, e, _, hc⟩ := h.flat h0
  refine ⟨_, e, fun j u hu => ?_⟩
  rw [add_at]; exact hc j u hu
theorem TxtA.news {w : World} {a : Option Addr} {n c : Nat} {L : List (List UInt8)} (h : TxtA w a n c L) : 0 < n → ∃ ad, a = some ad ∧ ∀ j u, (textCells L)[j]? = some u → w.cell? (ad.add j) = some u := fun h0 => by
  obtain ⟨g, o, e, _, hc⟩ := h.cells h0
  refine ⟨_, e, fun j u hu => ?_⟩
  rw [add_at]
  unfold textCells at hu
  rw [List.getElem?_map] at hu
  cases hq : L[j]? with
  | none => rw [hq] at hu; cases hu
  | some x =>
    rw [hq] at hu
    obtain ⟨hj, e2⟩ := List.getElem?_eq_some_iff.1 hq
    subst e2
    rw [hc j hj]; exact hu
theorem textCells_cell {l : List (List UInt8)} : ∀ v ∈ textCells l, v.oneCell' = true := by
  intro v hv
  unfold textCells at hv
  obtain ⟨x, _, rfl⟩ := List.mem_map.1 hv
  rfl
/- rows of rows: the slices lie in blocks that H tells of, the terms in those that K tells of -/
structure RowJ (H K : Nat → Prop) (w : World) (a : Option Addr) (n c : Nat) (R : List (List TermL)) : Prop where
  len : R.length = n
  cap : n ≤ c
  most : c ≤ maxLen
  cells : 0 < n → ∃ g o, a = some ⟨g, o, none⟩ ∧ g < w.heap.size ∧ H g ∧ ∀ j (h : j < R.length), ∃ a' c', w.cell? ⟨g, o + j, none⟩ = some (.slice a' R[j].length c') ∧ TrmK K w a' R[j].length c' R[j]
theorem RowJ.a {H K : Nat → Prop} {w : World} {a : Option Addr} {n c : Nat} {R : List (List TermL)} (h : RowJ H K w a n c R) : RowA w a n c R := ⟨h.len, h.cap, h.most, fun h0 => by
  obtain ⟨g, o, e, hg, _, hc⟩ := h.cells h0
  exact ⟨g, o, e, hg, fun j hj => by obtain ⟨a', c', h1, h2⟩ := hc j hj; exact ⟨a', c', h1, h2.a⟩⟩⟩
theorem RowJ.on {H K : Nat → Prop} {w w' : World} {a : Option Addr} {n c : Nat} {R : List (List TermL)} (h : RowJ H K w a n c R) (hs : Stay (fun i => H i ∨ K i) w w') : RowJ H K w' a n c R := ⟨h.len, h.cap, h.most, fun h0 => by
  obtain ⟨g, o, e, hg, k, hc⟩ := h.cells h0
  exact ⟨g, o, e, Nat.lt_of_lt_of_le hg hs.size, k, fun j hj => by
    obtain ⟨a', c', h1, h2⟩ := hc j hj
    exact ⟨a', c', (cell_same (hs.block g hg (.inl k)) _).trans h1, h2.on (hs.mono (fun i _ hi => .inr hi))⟩⟩⟩
theorem RowJ.mono {H K H' K' : Nat → Prop} {w : World} {a : Option Addr} {n c : Nat} {R : List (List TermL)} (h : RowJ H K w a n c R) (h1 : ∀ i, i < w.heap.size → H i → H' i) (h2 : ∀ i, i < w.heap.size → K i → K' i) : RowJ H' K' w a n c R := ⟨h.len, h.cap, h.most, fun h0 => by
  obtain ⟨g, o, e, hg, k, hc⟩ := h.cells h0
  exact ⟨g, o, e, hg, h1 g hg k, fun j hj => by obtain ⟨a', c', k1, k2⟩ := hc j hj; exact ⟨a', c', k1, k2.mono h2⟩⟩⟩
theorem own_rowsJ {K : Nat → Prop} {W : World} {B n : Nat} {v : Value} {cs : List Value} {F : List RowL} (h : W.ownsRow B 35 1 v n cs) (hc : RowCK K W cs F) (hn : F.length = n) : ∃ a c, v = .slice a n c ∧ RowJ (fun b => B ≤ b ∧ ¬ isT W b) K W a n c F := by
  rcases h.2 with ⟨rfl, h0⟩ | ⟨g, cap, cur, rfl, hg, hblk, h1, h2, h3, h4⟩
  · subst h0
    have : F = [] := List.eq_nil_of_length_eq_zero hn
    subst this
    exact ⟨_, _, rfl, rfl, Nat.le_refl _, Nat.zero_le _, fun h0 => absurd h0 (Nat.lt_irrefl _)⟩
  · refine ⟨_, _, rfl, hn, h1, h2, fun h0 => ⟨g, 0, rfl, (Array.getElem?_eq_some_iff.1 hblk).1, ⟨hg, not_isT hblk row_trm⟩, fun j hj => ?_⟩⟩
    obtain ⟨a', c', e1, e2⟩ := hc.2 j hj
    refine ⟨a', c', ?_, e2⟩
    rw [Nat.zero_add, h.cellAt j (by omega)]
    exact e1
/- a table of one's own: its terms' blocks hold terms alone, and nothing else of it -/
structure OwnTab (B : Nat) (w : World) (tv : Value) (V : List (List UInt8)) (R : List RowL) : Prop where
  is : ∃ va n vc ra m rc, tv = .agg #[.slice va n vc, .slice ra m rc] ∧ TxtK (fun b => B ≤ b ∧ ¬ isT w b) w va n vc V ∧ RowJ (fun b => B ≤ b ∧ ¬ isT w b) (fun b => B ≤ b ∧ isT w b) w ra m rc R
theorem OwnTab.a {B : Nat} {w : World} {tv : Value} {V : List (List UInt8)} {R : List RowL} (h : OwnTab B w tv V R) : TabA w tv V R := by
  obtain ⟨va, n, vc, ra, m, rc, e, h1, h2⟩ := h.is
  exact ⟨va, n, vc, ra, m, rc, e, h1.a, h2.a⟩

end Go.Proofs.YtdnfaoanaehjhaaGreatDoor

/- The world that every function here finds: the two tables read as they are laid; what is below stays; the small tests. -/
namespace Go.Proofs.YtdnfaoanaehjhaaGreatDoor.Nm
open Go.RowKit

theorem box_below (w : World) (o : Obj) : Below w.heap.size w (w.alloc o) := (Below.refl _ _).alloc (Nat.le_refl _) _
theorem two_alloc (w : World) (o o2 : Obj) : Below w.heap.size w ((w.alloc o).alloc o2) := (box_below w o).alloc (by simp) _
theorem bcell {W w1 : World} (hb : Below W.heap.size W w1) : (∀ b o, b < W.heap.size → w1.cell? ⟨b, o, none⟩ = W.cell? ⟨b, o, none⟩) ∧ (∀ b o, b < W.heap.size → w1.frozen? ⟨b, o, none⟩ = W.frozen? ⟨b, o, none⟩) :=
  ⟨fun b o h => hb.cell (p := ⟨b, o, none⟩) h, fun b o h => hb.frozen (p := ⟨b, o, none⟩) h⟩
theorem bnext {W w1 w2 : World} (h1 : Below W.heap.size W w1) (h2 : Below w1.heap.size w1 w2) : Below W.heap.size W w2 := h1.trans (h2.mono h1.size)
theorem one_box {w w1 : World} {o : Obj} (h1 : Below (w.alloc o).heap.size (w.alloc o) w1) : Below w.heap.size w w1 :=
  (box_below w o).trans (h1.mono (by simp))
theorem below_drewN {B : Nat} {a w : World} (h : Below B a w) (n : Nat) : Below B a (w.drewN n) := ⟨h.os, h.tape, h.output, h.size, h.block⟩

theorem quiet_add_same {P : Program} {f : FuncId} {args : Array Value} {w : World} {a n : Nat} {v : Value}
    (h : Calls P f args (w.drewN (a + n)) fun e w' => e = .returned v ∧ w' = w.drewN (a + n)) :
    Calls P f args (w.drewN (a + n)) fun e w'' => e = .returned v ∧ ∃ m, w'' = w.drewN (a + m) :=
  h.mono fun _ _ ⟨he, hm⟩ => ⟨he, n, hm⟩

/- the two tables -/
def powTab : List Int := [1, 10, 100, 1000, 10000, 100000, 1000000, 10000000, 100000000]
structure Good (w : World) : Prop where
  pow : Lib.TabIs Tryz.prog w "legation/number.powers" .i64 powTab
  dec : Lib.TabIs Tryz.prog w "internal/strconv.uint64pow10" .u64 Lib.pow10Tab
  big : 0 < w.heap.size
  big2 : 1 < w.heap.size

theorem gPow : Tryz.prog.globalNamed "legation/number.powers" = some 0 := by kernel_rfl
theorem gDec : Tryz.prog.globalNamed "internal/strconv.uint64pow10" = some 1 := by kernel_rfl

theorem var?_below {P : Program} {B g : Nat} {W W' : World} {n : String} {cs : Array Value} (h : Below B W W') (hg : P.globalNamed n = some g) (hgB : g < B) (hv : W.var? P n = some cs) : W'.var? P n = some cs := by
  unfold World.var? at hv ⊢
  simp only [hg, Option.bind_some] at hv ⊢
  rw [h.block g hgB]
  exact hv

theorem Good.on {w w' : World} (h : Good w) (hb : Below w.heap.size w w') : Good w' :=
  ⟨var?_below hb gPow h.big h.pow, var?_below hb gDec h.big2 h.dec, Nat.lt_of_lt_of_le h.big hb.size, Nat.lt_of_lt_of_le h.big2 hb.size⟩
theorem Good.alloc {w : World} (h : Good w) (o : Obj) : Good (w.alloc o) := h.on (box_below w o)
theorem Good.drew {w : World} (h : Good w) : Good w.drew := h.on (Below.refl _ _).drew
theorem Good.drewN {w : World} (h : Good w) (n : Nat) : Good (w.drewN n) := h.on (below_drewN (Below.refl _ _) n)

theorem Good.cell {w : World} (h : Good w) (i : Nat) (hi : i < 9) : w.cell? ⟨0, i, none⟩ = some (.int .i64 (powTab.getD i 0)) := by
  rw [h.pow.cell gPow i (by simpa [powTab] using hi)]

end Go.Proofs.YtdnfaoanaehjhaaGreatDoor.Nm

/- A row's text: package shape's text of numbers. -/
namespace Go.Proofs.YtdnfaoanaehjhaaGreatDoor
open Go.RowKit Go.Maps

/- what holds of the two tables holds behind what leaves them alone -/
theorem tab_same {w w' : World} {n : String} {k : IntKind} {zs : List Int} {g : Nat} (h : Lib.TabIs Tryz.prog w n k zs) (hg : Tryz.prog.globalNamed n = some g) (hs : w'.heap[g]? = w.heap[g]?) : Lib.TabIs Tryz.prog w' n k zs := by
  unfold Lib.TabIs World.var? at *
  simp only [hg, Option.bind_some] at h ⊢
  rw [hs]; exact h
theorem good_stay {K : Nat → Prop} {w w' : World} (h : Nm.Good w) (hs : Stay K w w') (h1 : K 0) (h2 : K 1) : Nm.Good w' :=
  ⟨tab_same h.pow Nm.gPow (hs.block _ h.big h1), tab_same h.dec Nm.gDec (hs.block _ h.big2 h2), Nat.lt_of_lt_of_le h.big hs.size, Nat.lt_of_lt_of_le h.big2 hs.size⟩
theorem tab_cells {w : World} {n : String} {k : IntKind} {zs : List Int} {g : Nat} (h : Lib.TabIs Tryz.prog w n k zs) (hg : Tryz.prog.globalNamed n = some g) : ∃ cs t f, w.heap[g]? = some (.cells cs t f) := by
  unfold Lib.TabIs World.var? at h
  simp only [hg, Option.bind_some] at h
  split at h
  · rename_i e; exact ⟨_, _, _, e⟩
  · cases h
theorem map_ne {T : TypeId} {α : Type} {ok : α → Prop} {code : α → List UInt8} {w : World} {b s : Nat} {f : α → Option Int} (h : MapG T ok code w b s f) {g : Nat} {cs : Array Value} {t : TypeId} {fz : Nat × Nat} (hc : w.heap[g]? = some (.cells cs t fz)) : b ≠ g := by
  obtain ⟨D, ⟨es, c, hb, _⟩, _⟩ := h
  rintro rfl
  rw [hb] at hc
  cases hc
theorem good_map {T : TypeId} {α : Type} {ok : α → Prop} {code : α → List UInt8} {w w' : World} {b s : Nat} {f : α → Option Int} (h : Nm.Good w) (hm : MapG T ok code w b s f) (hg : w.grownBy w' (some b)) : Nm.Good w' := by
  obtain ⟨c1, t1, f1, e1⟩ := tab_cells h.pow Nm.gPow
  obtain ⟨c2, t2, f2, e2⟩ := tab_cells h.dec Nm.gDec
  exact good_stay h (stay_row hg) (Ne.symm (map_ne hm e1)) (Ne.symm (map_ne hm e2))

theorem add_at0 (g o j : Nat) : (⟨g, o, none⟩ : Addr).add j = ⟨g, o + j, none⟩ := by unfold Addr.add; split <;> simp_all
theorem news_gen (W : World) (T : TypeId) (cs : List Value) {X : Nat} (hX : X = W.heap.size) : ∀ n u, cs[n]? = some u → (W.alloc (.cells cs.toArray T)).cell? ((⟨X, 0, none⟩ : Addr).add n) = some u := by
  subst hX
  intro n u hu
  rw [add_at0, Nat.zero_add, blk_cell (blk_new W T cs.toArray)]
  simpa using hu
theorem info_byte : (Tryz.prog.info? 5).map (fun i => (i.zero, i.size, i.bytes)) = some (some (.int .u8 0), 1, 1) := by kernel_rfl
theorem conv_nil (W : World) : (Go.convert 113 9 (.slice none 0 0)).run Tryz.prog W = .ok (.string ⟨#[]⟩) W := by kernel_rfl
theorem conv_own {w : World} {B n : Nat} {v : Value} {l : List UInt8} (h : w.ownsRow B 5 1 v n (Lib.byteCells l)) : (Go.convert 113 9 v).run Tryz.prog w = .ok (.string (bs l)) w := by
  have hl : l.length = n := by have := h.1; rw [Lib.byteCells_length] at this; omega
  rcases h.2 with ⟨rfl, h0⟩ | ⟨g, cap, cur, rfl, _⟩
  · have : l = [] := List.eq_nil_of_length_eq_zero (by omega)
    subst this
    exact conv_nil w
  · have := run_convert_bytes_back (P := Tryz.prog) w 113 9 5 ⟨g, 0, none⟩ cap l Tryz.underlying113 Tryz.underlying5 Tryz.underlying9 (fun j hj => h.cells (g := g) rfl j _ (by unfold Lib.byteCells; simp [hj]))
    rw [hl] at this
    exact this
theorem putT_upd (f : NumT) (t : TermL) (v : Option Int) : updG f t v = putT f t v := rfl
/- what the rounds keep -/
def TextR (w : World) (b : Nat) (p : NumT × Nat) (r : List TermL) (k : Nat) (v : Value) (wr : World) : Prop :=
  MapT wr b (runN p (r.take k)).2 (runN p (r.take k)).1 ∧ wr.ownsRow w.heap.size 5 1 v (txtN (runN p (r.take k)).1 (r.take k)).length (Lib.byteCells (txtN (runN p (r.take k)).1 (r.take k))) ∧ w.grownBy wr (some b)
theorem grown_trans {a b c : World} {row : Option Nat} (h : a.grownBy b row) (k : b.grownBy c row) : a.grownBy c row := h.andThen k (fun _ hj => .inr hj)
theorem grown_below {a b c : World} {row : Option Nat} (h : a.grownBy b row) (k : Below a.heap.size b c) : a.grownBy c row := by
  refine ⟨k.os.trans h.os, k.tape.trans h.tape, k.output.trans h.output, Nat.le_trans h.size k.size, fun i hi hne => ?_⟩
  rw [k.block i hi]
  exact h.block i hi hne
theorem map_cell {T : TypeId} {α : Type} {ok : α → Prop} {code : α → List UInt8} {w : World} {b s : Nat} {f : α → Option Int} (h : MapG T ok code w b s f) {g o : Nat} {v : Value} (hc : w.cell? ⟨g, o, none⟩ = some v) : g ≠ b := by
  obtain ⟨D, ⟨es, c, hb, _⟩, _⟩ := h
  rintro rfl
  unfold World.cell? at hc
  simp [hb] at hc
theorem tab_below {w W : World} {b s : Nat} {f : NumT} (hg : Nm.Good w) (hm : MapT w b s f) (hgr : w.grownBy W (some b)) : Lib.TabBelow Tryz.prog w.heap.size W "internal/strconv.uint64pow10" .u64 Lib.pow10Tab :=
  fun _ hb => tab_same (good_map hg hm hgr).dec Nm.gDec (hb.block _ hg.big2)
theorem own_from {w : World} {B size n : Nat} {e : TypeId} {v : Value} {xs : List Value} (h : w.ownsRow B e size v n xs) (k : Nat) (hk : v.ownBlock = some k) : B ≤ k := (h.lt k hk).1
theorem own_ne {w : World} {B size n b : Nat} {e : TypeId} {v : Value} {xs : List Value} (h : w.ownsRow B e size v n xs) (hb : b < B) : some b ≠ v.ownBlock := fun e => by
  have := own_from h b e.symm
  omega
theorem own_text {w : World} {B : Nat} {v : Value} {L : List UInt8} {u : Int} (h : w.ownsRow B 5 1 v (L.length + (Lib.itoa u).length + 1) ((Lib.byteCells L ++ Lib.byteCells (Lib.itoa u)) ++ [.int .u8 32])) : w.ownsRow B 5 1 v (L ++ (Lib.itoa u ++ [32])).length (Lib.byteCells (L ++ (Lib.itoa u ++ [32]))) := by
  rw [Lib.byteCells_append, Lib.byteCells_append, List.length_append, List.length_append, ← List.append_assoc, ← Nat.add_assoc]
  exact h
/- the next term -/
structure NextN (p : NumT × Nat) (r : List TermL) (k : Nat) (f : NumT) (s : Nat) (y : TermL) : Prop where
  old : ∀ v, f y = some v → runN p (r.take (k + 1)) = (f, s) ∧ txtN f (r.take (k + 1)) = txtN f (r.take k) ++ (Lib.itoa v ++ [32]) ∧ 0 ≤ v ∧ v < s
  new : f y = none → runN p (r.take (k + 1)) = (putT f y (some s), s + 1) ∧ txtN (putT f y (some s)) (r.take (k + 1)) = txtN f (r.take k) ++ (Lib.itoa (s : Int) ++ [32])
  le : s ≤ p.2 + k
  len : s ≤ 1000000 → (txtN f (r.take k)).length ≤ k * 22
theorem text_next {p : NumT × Nat} {r : List TermL} {k : Nat} {f : NumT} {s : Nat} (hp : NumF p.1 p.2) (hk : k < r.length) (hfs : runN p (r.take k) = (f, s)) : NextN p r k f s r[k] := by
  obtain ⟨h1, _, h3, h4⟩ := run_num hp (r.take k)
  rw [hfs] at h1 h3 h4
  dsimp only at h1 h3 h4
  have hl : (r.take k).length = k := by rw [List.length_take]; omega
  have e : runN p (r.take (k + 1)) = stepN (f, s) r[k] := by rw [List.take_succ_eq_append_getElem hk, runN_snoc, hfs]
  refine ⟨fun v hv => ?_, fun hv => ?_, by omega, fun h6 => ?_⟩
  · have e2 : stepN (f, s) r[k] = (f, s) := by unfold stepN; rw [if_pos (by dsimp only; rw [hv]; rfl)]
    refine ⟨by rw [e, e2], ?_, h1.1 _ v hv⟩
    rw [List.take_succ_eq_append_getElem hk, txt_snoc, hv]; rfl
  · have e2 : stepN (f, s) r[k] = (putT f r[k] (some s), s + 1) := by unfold stepN; rw [if_neg (by dsimp only; rw [hv]; simp)]
    refine ⟨by rw [e, e2], ?_⟩
    have hx := step_ext (f, s) r[k]
    rw [e2] at hx
    rw [List.take_succ_eq_append_getElem hk, txt_snoc, txt_ext hx h3]
    have e3 : putT f r[k] (some s) r[k] = some (s : Int) := if_pos rfl
    rw [e3]; rfl
  · have := txt_len h1 h6 (r.take k) h3
    rw [hl] at this
    exact this

end Go.Proofs.YtdnfaoanaehjhaaGreatDoor
