/- ShpCopied, ShpDistinct, GrpGrps, put together. -/
import Derived.Test.YtdnfaoanaehjhaaGreatDoorH9
import Derived.Test.YtdnfaoanaehjhaaGreatDoorH6
import Derived.Test.YtdnfaoanaehjhaaGreatDoorH10
import Derived.Test.YtdnfaoanaehjhaaGreatDoorH8
import Derived.Test.YtdnfaoanaehjhaaGreatDoorH11

/- A table of these rows in new memory: package shape's copied. -/
namespace Go.Proofs.YtdnfaoanaehjhaaGreatDoor
open Go.RowKit

/- the first k rows are filled in -/
def Fill (R : List RowL) (L : List TermL) (m k : Nat) : Prop := ∀ j, j < k → ∀ i, i < m → L[j * m + i]? = (R.getD j [])[i]?
theorem fill_zero (R : List RowL) (L : List TermL) (m : Nat) : Fill R L m 0 := fun _ h => absurd h (Nat.not_lt_zero _)
theorem row_fits {j m n i : Nat} (hj : j < n) (hi : i < m) : j * m + i < n * m := by
  have := Nat.mul_le_mul_right m (Nat.succ_le_of_lt hj)
  rw [Nat.succ_mul] at this
  omega
theorem fill_next {R : List RowL} {L : List TermL} {m n k : Nat} (h : Fill R L m k) (hl : L.length = n * m) (hk : k < n) (hkR : k < R.length) (hr : R[k].length = m) : Fill R (splice L (k * m) R[k]) m (k + 1) := by
  have hfit : k * m + R[k].length ≤ L.length := by
    rw [hr, hl, ← Nat.succ_mul]
    exact Nat.mul_le_mul_right m hk
  intro j hj i hi
  by_cases e : j = k
  · subst e
    rw [splice_in hfit (by rw [hr]; exact hi), List.getD_eq_getElem?_getD, List.getElem?_eq_getElem hkR]
    rfl
  · have hlt := row_fits (show j < k by omega) hi
    rw [splice_out hfit (.inl hlt)]
    exact h j (by omega) i hi
theorem grid_tab {w : World} {B : Nat} {tv : Value} {V : List (List UInt8)} {n : Nat} {L : List TermL} {R : List RowL} (h : Grid w B tv V n L) (hn : R.length = n) (hr : ∀ r ∈ R, r.length = V.length) (hf : Fill R L V.length n) (hn2 : n ≤ 1000000) (hm : V.length ≤ 1000000) : TabK (fun i => B ≤ i) w tv V R := by
  obtain ⟨G1, G2, G3, rfl, b1, b2, b3, h1, h2, h3, hl⟩ := h
  refine ⟨_, _, _, _, _, _, rfl, ⟨rfl, Nat.le_refl _, by unfold maxLen; omega, fun _ => ⟨G1, 0, rfl, blk_lt h1, b1, fun j hj => ?_⟩⟩, ⟨hn, Nat.le_refl _, by unfold maxLen; omega, fun _ => ⟨G2, 0, rfl, blk_lt h2, b2, fun j hj => ?_⟩⟩⟩
  · rw [blk_cell h1, Nat.zero_add]
    simp [textCells, hj]
  · have e := hr _ (List.getElem_mem hj)
    rw [e]
    refine ⟨some ⟨G3, j * V.length * 4, none⟩, V.length, ?_, e, Nat.le_refl _, by unfold maxLen; omega, fun _ => ⟨G3, j * V.length * 4, rfl, blk_lt h3, b3, fun i hi => ?_⟩⟩
    · rw [blk_cell h2, Nat.zero_add]
      have := cutRows_at (G := G3) (m := V.length) (n := n) (k := n) (i := j) (by omega)
      simpa [cutV] using this
    · rw [e] at hi
      have hL := hf j (by omega) i hi
      rw [List.getD_eq_getElem?_getD, List.getElem?_eq_getElem hj, Option.getD_some, List.getElem?_eq_getElem (l := R[j]) (i := i) (by rw [e]; exact hi)] at hL
      have hlt : j * V.length + i < L.length := (List.getElem?_eq_some_iff.1 hL).1
      have eL : L[j * V.length + i] = R[j][i] := by rw [List.getElem?_eq_getElem hlt] at hL; exact Option.some.inj hL
      have hc := fun q (hq : q < 4) => cellsT_at L _ hlt q hq
      rw [eL] at hc
      have ea : ∀ q, j * V.length * 4 + i * 4 + q = (j * V.length + i) * 4 + q := fun q => by omega
      refine ⟨?_, ?_, ?_, ?_⟩
      · rw [blk_cell h3]
        have := hc 0 (by omega)
        rw [← ea 0, Nat.add_zero] at this
        simpa [TermL.cs] using this
      · rw [blk_cell h3, ea 1]
        simpa [TermL.cs] using hc 1 (by omega)
      · rw [blk_cell h3, ea 2]
        simpa [TermL.cs] using hc 2 (by omega)
      · rw [blk_cell h3, ea 3]
        simpa [TermL.cs] using hc 3 (by omega)

def CopyR (A X B0 : Nat) (W0 : World) (V : List (List UInt8)) (R : List RowL) (n G1 G2 G3 k : Nat) (wr : World) : Prop :=
  Blk wr A 25 #[.slice none 0 0, .slice none 0 0] ∧ Blk wr X 25 #[.slice (some ⟨G1, 0, none⟩) V.length V.length, .slice (some ⟨G2, 0, none⟩) n n] ∧ Blk wr G1 9 (textCells V).toArray ∧
    Blk wr G2 35 (cutRows G3 V.length n n).toArray ∧ (∃ L, Blk wr G3 37 (cellsT L).toArray ∧ L.length = n * V.length ∧ Fill R L V.length k) ∧ Below B0 W0 wr

end Go.Proofs.YtdnfaoanaehjhaaGreatDoor

/- Each row once: package shape's Distinct, for every table. -/
namespace Go.Proofs.YtdnfaoanaehjhaaGreatDoor
open Go.RowKit Go.Maps

def okRT (R : List RowL) : Prop := ∀ r ∈ R, ∀ t ∈ r, okT t
theorem okRT.r {R : List RowL} (h : okRT R) : okR R := fun r hr t ht => (h r hr t ht).1
/- slices' values in the cells of a row of rows -/
def RowC (w : World) (cs : List Value) (F : List RowL) : Prop := cs.length = F.length ∧ ∀ j (h : j < F.length), ∃ a' c', cs[j]? = some (.slice a' F[j].length c') ∧ TrmA w a' F[j].length c' F[j]
theorem rowC_nil (w : World) : RowC w [] [] := ⟨rfl, fun _ h => absurd h (Nat.not_lt_zero _)⟩
theorem rowC_snoc {w : World} {cs : List Value} {F : List RowL} (h : RowC w cs F) {r : RowL} {a : Option Addr} {c : Nat} (hr : TrmA w a r.length c r) : RowC w (cs ++ [.slice a r.length c]) (F ++ [r]) := by
  obtain ⟨hl, h⟩ := h
  refine ⟨by simp [hl], fun j hj => ?_⟩
  by_cases e : j < F.length
  · obtain ⟨a', c', h1, h2⟩ := h j e
    rw [List.getElem_append_left e]
    exact ⟨a', c', by rw [List.getElem?_append_left (by omega)]; exact h1, h2⟩
  · have ej : j = F.length := by rw [List.length_append, List.length_singleton] at hj; omega
    subst ej
    rw [List.getElem_append_right (Nat.le_refl _)]
    simp only [Nat.sub_self, List.getElem_cons_zero]
    exact ⟨a, c, by rw [List.getElem?_append_right (by omega), hl, Nat.sub_self]; rfl, hr⟩
theorem own_row {w W : World} {B n : Nat} {v : Value} {cs : List Value} {F : List RowL} (h : W.ownsRow B 35 1 v n cs) (hc : RowC w cs F) (hn : F.length = n) (hb : Below w.heap.size w W) : ∃ a c, v = .slice a n c ∧ RowA W a n c F := by
  rcases h.2 with ⟨rfl, h0⟩ | ⟨g, cap, cur, rfl, hg, hblk, h1, h2, h3, h4⟩
  · subst h0
    have : F = [] := List.eq_nil_of_length_eq_zero hn
    subst this
    exact ⟨_, _, rfl, (row_nil (fun _ => True) W none 0 (Nat.zero_le _)).a⟩
  · refine ⟨_, _, rfl, hn, h1, h2, fun h0 => ⟨g, 0, rfl, (Array.getElem?_eq_some_iff.1 hblk).1, fun j hj => ?_⟩⟩
    obtain ⟨a', c', e1, e2⟩ := hc.2 j hj
    refine ⟨a', c', ?_, e2.on hb⟩
    rw [Nat.zero_add, h.cellAt j (by omega)]
    exact e1
theorem updG_same {α : Type} [DecidableEq α] (f : α → Option Int) (x : α) (v : Option Int) : updG f x v x = v := if_pos rfl
theorem grown_size {w w' : World} {row : Option Nat} (h : w.grownBy w' row) : w.heap.size ≤ w'.heap.size := h.size

/- what the rounds keep -/
structure DistR (w : World) (A X b bm B1 : Nat) (vs rs : Value) (R : List RowL) (k : Nat) (v : Value) (wr : World) : Prop where
  arg : Blk wr A 25 #[vs, rs]
  box : Blk wr X 25 #[.slice none 0 0, .slice none 0 0]
  num : MapT wr b (idsP R k).2 (idsP R k).1
  came : ∃ f s, MapS wr bm s f ∧ s ≤ k ∧ Came R k f
  first : ∃ cs, wr.ownsRow B1 35 1 v (distP (R.take k)).length cs ∧ RowC w cs (distP (R.take k))
  below : Below w.heap.size w wr
  size : B1 ≤ wr.heap.size
def onlyB {α : Type} (b : Bool) (l : List α) : List α := if b = true then l else []

end Go.Proofs.YtdnfaoanaehjhaaGreatDoor

/- Rows gathered into groups: package group's gathered, for every rows and columns (written by gen/mkgather13.py). -/
namespace Go.Proofs.YtdnfaoanaehjhaaGreatDoor
open Go.RowKit Go.Maps

/- slices of slices of rows: the slices lie in blocks that H tells of, the terms in those that K tells of -/
structure GrpJ (H K : Nat → Prop) (w : World) (a : Option Addr) (n c : Nat) (G : List (List RowL)) : Prop where
  len : G.length = n
  cap : n ≤ c
  most : c ≤ maxLen
  cells : 0 < n → ∃ g o, a = some ⟨g, o, none⟩ ∧ g < w.heap.size ∧ H g ∧ ∀ j (h : j < G.length), ∃ a' c', w.cell? ⟨g, o + j, none⟩ = some (.slice a' G[j].length c') ∧ RowJ H K w a' G[j].length c' G[j]
theorem GrpJ.on {H K : Nat → Prop} {w w' : World} {a : Option Addr} {n c : Nat} {G : List (List RowL)} (h : GrpJ H K w a n c G) (hs : Stay (fun i => H i ∨ K i) w w') : GrpJ H K w' a n c G := ⟨h.len, h.cap, h.most, fun h0 => by
  obtain ⟨g, o, e, hg, hh, hc⟩ := h.cells h0
  refine ⟨g, o, e, Nat.lt_of_lt_of_le hg hs.size, hh, fun j hj => ?_⟩
  obtain ⟨a', c', h1, h2⟩ := hc j hj
  exact ⟨a', c', (cell_same (hs.block g hg (.inl hh)) _).trans h1, h2.on hs⟩⟩
theorem GrpJ.mono {H K H' K' : Nat → Prop} {w : World} {a : Option Addr} {n c : Nat} {G : List (List RowL)} (h : GrpJ H K w a n c G) (h1 : ∀ i, i < w.heap.size → H i → H' i) (h2 : ∀ i, i < w.heap.size → K i → K' i) : GrpJ H' K' w a n c G := ⟨h.len, h.cap, h.most, fun h0 => by
  obtain ⟨g, o, e, hg, hh, hc⟩ := h.cells h0
  refine ⟨g, o, e, hg, h1 g hg hh, fun j hj => ?_⟩
  obtain ⟨a', c', k1, k2⟩ := hc j hj
  exact ⟨a', c', k1, k2.mono h1 h2⟩⟩
/- terms don't lie in a table's block -/
theorem trm_ne {K : Nat → Prop} {w : World} {a : Option Addr} {n c X : Nat} {L : List TermL} {u v : Value} (h : TrmK K w a n c L) (hX : Blk w X 25 #[u, v]) (hu : ∀ k i, u ≠ .int k i) (hv : ∀ k i, v ≠ .int k i) : TrmK (fun i => i ≠ X) w a n c L := ⟨h.len, h.cap, h.most, fun h0 => by
  obtain ⟨g, o, e, hg, _, hc⟩ := h.cells h0
  refine ⟨g, o, e, hg, fun q => ?_, hc⟩
  subst q
  have h1 := (hc 0 (by rw [h.len]; exact h0)).1
  rw [blk_cell hX] at h1
  rw [Nat.zero_mul, Nat.add_zero] at h1
  match o, h1 with
  | 0, h1 => injection h1 with h1; exact hu _ _ h1
  | 1, h1 => injection h1 with h1; exact hv _ _ h1
  | o + 2, h1 => simp at h1⟩
theorem row_ne {H K : Nat → Prop} {w : World} {a : Option Addr} {n c X : Nat} {R : List RowL} {u v : Value} (h : RowJ H K w a n c R) (hX : Blk w X 25 #[u, v]) (hu : ∀ k i, u ≠ .int k i) (hv : ∀ k i, v ≠ .int k i) : RowJ H (fun i => i ≠ X) w a n c R := ⟨h.len, h.cap, h.most, fun h0 => by
  obtain ⟨g, o, e, hg, hh, hc⟩ := h.cells h0
  refine ⟨g, o, e, hg, hh, fun j hj => ?_⟩
  obtain ⟨a', c', k1, k2⟩ := hc j hj
  exact ⟨a', c', k1, trm_ne k2 hX hu hv⟩⟩
theorem GrpJ.ne {H K : Nat → Prop} {w : World} {a : Option Addr} {n c X : Nat} {G : List (List RowL)} {u v : Value} (h : GrpJ H K w a n c G) (hX : Blk w X 25 #[u, v]) (hu : ∀ k i, u ≠ .int k i) (hv : ∀ k i, v ≠ .int k i) : GrpJ H (fun i => i ≠ X) w a n c G := ⟨h.len, h.cap, h.most, fun h0 => by
  obtain ⟨g, o, e, hg, hh, hc⟩ := h.cells h0
  refine ⟨g, o, e, hg, hh, fun j hj => ?_⟩
  obtain ⟨a', c', k1, k2⟩ := hc j hj
  exact ⟨a', c', k1, row_ne k2 hX hu hv⟩⟩
theorem row_j {H : Nat → Prop} {w W : World} {cs : List Value} {F : List RowL} (h : RowC w cs F) (hb : Below w.heap.size w W) (hH : ∀ i, H i) : RowCK H W cs F := ⟨h.1, fun j hj => by
  obtain ⟨a', c', e, ht⟩ := h.2 j hj
  exact ⟨a', c', e, ((ht.on hb).k).mono (fun i _ _ => hH i)⟩⟩

theorem own_same {w w' : World} {B size n : Nat} {e : TypeId} {v : Value} {xs : List Value} (h : w.ownsRow B e size v n xs) (hb : ∀ g, v.ownBlock = some g → w'.heap[g]? = w.heap[g]?) : w'.ownsRow B e size v n xs := by
  obtain ⟨h1, h2⟩ := h
  refine ⟨h1, ?_⟩
  rcases h2 with h2 | ⟨g, cap, cur, rfl, h3, h4, h5⟩
  · exact .inl h2
  · exact .inr ⟨g, cap, cur, rfl, h3, (hb g rfl).trans h4, h5⟩
theorem own_form {w : World} {B size n : Nat} {e : TypeId} {v : Value} {xs : List Value} (h : w.ownsRow B e size v n xs) : ∃ a c, v = .slice a n c ∧ n ≤ c ∧ c ≤ maxLen := by
  rcases h.2 with ⟨rfl, rfl⟩ | ⟨g, cap, cur, rfl, _, _, h5, h6, _⟩
  · exact ⟨_, _, rfl, Nat.le_refl _, Nat.zero_le _⟩
  · exact ⟨_, _, rfl, h5, h6⟩
theorem own_open {w : World} {B n : Nat} {e : TypeId} {v : Value} {xs : List Value} (h : w.ownsRow B e 1 v n xs) (h0 : 0 < n) : ∃ g cap, ∃ cur : List Value, v = .slice (some ⟨g, 0, none⟩) n cap ∧ B ≤ g ∧ Blk w g e cur.toArray ∧ n ≤ cap ∧ cap ≤ maxLen ∧ cur.length = cap ∧ cur.take n = xs := by
  rcases h.2 with ⟨_, h1⟩ | ⟨g, cap, cur, rfl, hg, hb, h5, h6, h7, h8⟩
  · omega
  · refine ⟨g, cap, cur.toList, rfl, hg, by simpa [Blk] using hb, h5, h6, by simpa using h7, by simpa using h8⟩
theorem own_shut {w : World} {B g n cap : Nat} {e : TypeId} {cur xs : List Value} (hb : Blk w g e cur.toArray) (hg : B ≤ g) (h1 : n ≤ cap) (h2 : cap ≤ maxLen) (h3 : cur.length = cap) (h4 : cur.take n = xs) : w.ownsRow B e 1 (.slice (some ⟨g, 0, none⟩) n cap) n xs := by
  refine ⟨by rw [← h4, List.length_take]; omega, .inr ⟨g, cap, cur.toArray, rfl, hg, hb, h1, h2, by simpa using h3, by simpa using h4⟩⟩
theorem own_other {w : World} {B size n g : Nat} {e T : TypeId} {v : Value} {xs : List Value} {cur : Array Value} (h : w.ownsRow B e size v n xs) (hb : Blk w g T cur) (hT : e ≠ T) : v.ownBlock ≠ some g := fun c => by
  obtain ⟨c2, h2⟩ := own_blk h c
  exact blk_kinds h2 hb hT rfl
theorem info_rows : (Tryz.prog.info? 23).map (fun i => (i.zero, i.size, i.bytes)) = some (some (.slice none 0 0), 1, 24) := by kernel_rfl

/- groups' rows, each in a row of its own -/
def Grps (w0 w : World) (B : Nat) (vs : List Value) (G : List (List RowL)) : Prop :=
  vs.length = G.length ∧ (∀ (i : Nat) (h : i < G.length), ∃ (u : Value) (cs : List Value), vs[i]? = some u ∧ w.ownsRow B 35 1 u G[i].length cs ∧ RowC w0 cs G[i]) ∧ ∀ (i j : Nat) (u u' : Value) (e : Nat), i ≠ j → vs[i]? = some u → vs[j]? = some u' → u.ownBlock = some e → u'.ownBlock ≠ some e
theorem grps_nil (w0 w : World) (B : Nat) : Grps w0 w B [] [] := ⟨rfl, fun _ h => absurd h (Nat.not_lt_zero _), fun i j u u' e _ h => by simp at h⟩
theorem Grps.step {w0 w w' : World} {B : Nat} {vs : List Value} {G : List (List RowL)} (h : Grps w0 w B vs G) (hk : ∀ b, B ≤ b → (∃ cur, Blk w b 35 cur) → w'.heap[b]? = w.heap[b]?) : Grps w0 w' B vs G := by
  obtain ⟨h1, h2, h3⟩ := h
  refine ⟨h1, fun i hi => ?_, h3⟩
  obtain ⟨u, cs, e1, e2, e3⟩ := h2 i hi
  exact ⟨u, cs, e1, own_same e2 (fun g hg => hk g (e2.lt g hg).1 (own_blk e2 hg)), e3⟩
theorem Grps.grown {w0 w w' : World} {B x : Nat} {vs : List Value} {G : List (List RowL)} (h : Grps w0 w B vs G) (hg : w.grownBy w' (some x)) (hx : x < B) : Grps w0 w' B vs G :=
  h.step fun b hb ⟨_, hc⟩ => hg.block b (blk_lt hc) (fun e => by injection e with e; omega)
theorem Grps.on {w0 w w' : World} {B : Nat} {vs : List Value} {G : List (List RowL)} (h : Grps w0 w B vs G) (hb : Below w.heap.size w w') : Grps w0 w' B vs G :=
  h.step fun b _ ⟨_, hc⟩ => hb.block b (blk_lt hc)
theorem Grps.other {w0 w w' : World} {B x : Nat} {T : TypeId} {old : Array Value} {vs : List Value} {G : List (List RowL)} (h : Grps w0 w B vs G) (hg : w.grownBy w' (some x)) (hx : Blk w x T old) (hT : (35 : TypeId) ≠ T) : Grps w0 w' B vs G :=
  h.step fun b _ ⟨_, hc⟩ => hg.block b (blk_lt hc) (fun e => by injection e with e; exact blk_kinds hc hx hT e)
/- a group more, of no rows -/
theorem Grps.more {w0 w : World} {B : Nat} {vs : List Value} {G : List (List RowL)} (h : Grps w0 w B vs G) : Grps w0 w B (vs ++ [.slice none 0 0]) (G ++ [[]]) := by
  obtain ⟨h1, h2, h3⟩ := h
  refine ⟨by rw [List.length_append, List.length_append, h1]; rfl, fun i hi => ?_, fun i j u u' e hij hu hu' he => ?_⟩
  · by_cases c : i < G.length
    · obtain ⟨u, cs, e1, e2, e3⟩ := h2 i c
      rw [List.getElem_append_left c]
      exact ⟨u, cs, by rw [List.getElem?_append_left (by omega)]; exact e1, e2, e3⟩
    · have e : i = G.length := by rw [List.length_append, List.length_singleton] at hi; omega
      subst e
      rw [List.getElem_append_right (Nat.le_refl _)]
      simp only [Nat.sub_self, List.getElem_cons_zero]
      refine ⟨.slice none 0 0, [], ?_, World.ownsRow_nil _ _ _ _, rowC_nil _⟩
      rw [List.getElem?_append_right (by omega), h1, Nat.sub_self]; rfl
  · by_cases c : i < vs.length
    · rw [List.getElem?_append_left c] at hu
      by_cases d : j < vs.length
      · rw [List.getElem?_append_left d] at hu'
        exact h3 i j u u' e hij hu hu' he
      · rw [List.getElem?_append_right (by omega)] at hu'
        cases hj : j - vs.length with
        | zero => rw [hj] at hu'; injection hu' with hu'; subst hu'; intro c; cases c
        | succ q => rw [hj] at hu'; simp at hu'
    · rw [List.getElem?_append_right (by omega)] at hu
      cases hj : i - vs.length with
      | zero => rw [hj] at hu; injection hu with hu; subst hu; cases he
      | succ q => rw [hj] at hu; simp at hu
/- one row more in a group -/
theorem Grps.put {w0 w w' : World} {B j : Nat} {vs : List Value} {G : List (List RowL)} {u u' : Value} {cs : List Value} {y : RowL} (h : Grps w0 w B vs G) (hj : j < G.length) (hu : vs[j]? = some u) (hg : w.grownBy w' u.ownBlock) (hn : u'.ownBlock = u.ownBlock ∨ u'.ownBlock = some w.heap.size)
    (ho : w'.ownsRow B 35 1 u' (G[j] ++ [y]).length cs) (hc : RowC w0 cs (G[j] ++ [y])) : Grps w0 w' B (vs.set j u') (G.set j (G[j] ++ [y])) := by
  obtain ⟨h1, h2, h3⟩ := h
  have hjv : j < vs.length := by omega
  refine ⟨by rw [List.length_set, List.length_set, h1], fun i hi => ?_, fun i k a b e hik ha hb he => ?_⟩
  · rw [List.length_set] at hi
    by_cases c : j = i
    · subst c
      rw [List.getElem_set_self]
      exact ⟨u', cs, by rw [List.getElem?_set_self hjv], ho, hc⟩
    · rw [List.getElem_set_ne c]
      obtain ⟨x, xs, e1, e2, e3⟩ := h2 i hi
      refine ⟨x, xs, by rw [List.getElem?_set_ne c]; exact e1, own_same e2 (fun g hg' => hg.block g (e2.lt g hg').2 (fun q => ?_)), e3⟩
      exact h3 i j x u g (fun q => c q.symm) e1 hu hg' q.symm
  · have hnew : ∀ (q : Nat) (x : Value), vs[q]? = some x → x.ownBlock ≠ some w.heap.size := fun q x hq c => by
      obtain ⟨hl, _⟩ := List.getElem?_eq_some_iff.1 hq
      obtain ⟨x', xs, e1, e2, _⟩ := h2 q (by omega)
      rw [hq] at e1
      injection e1 with e1
      subst e1
      have := (e2.lt _ c).2
      omega
    by_cases c : j = i
    · subst c
      rw [List.getElem?_set_self hjv] at ha
      injection ha with ha
      subst ha
      rw [List.getElem?_set_ne hik] at hb
      rcases hn with hn | hn
      · rw [hn] at he
        exact h3 j k u b e hik hu hb he
      · rw [hn] at he
        injection he with he
        subst he
        exact hnew k b hb
    · rw [List.getElem?_set_ne c] at ha
      by_cases d : j = k
      · subst d
        rw [List.getElem?_set_self hjv] at hb
        injection hb with hb
        subst hb
        rcases hn with hn | hn
        · rw [hn]
          exact h3 i j a u e hik ha hu he
        · rw [hn]
          intro q
          injection q with q
          subst q
          exact hnew i a ha he
      · rw [List.getElem?_set_ne d] at hb
        exact h3 i k a b e hik ha hb he

/- the plain steps -/
theorem gth_old {f : RowL → RowL} {R : List RowL} {k : Nat} (hk : k < R.length) {F : List UInt8 → Option Int} (h : Spot (R.map f) k F) {v : Int} (hv : F (txtN (idsP (R.map f) (k + 1)).1 (f R[k])) = some v) :
    ∃ j : Nat, v = j ∧ ∃ hj : j < (gatherP f (R.take k)).length, gatherP f (R.take (k + 1)) = (gatherP f (R.take k)).set j ((gatherP f (R.take k))[j] ++ [R[k]]) ∧ distP ((R.map f).take (k + 1)) = distP ((R.map f).take k) ∧ Spot (R.map f) (k + 1) F := by
  have hkm : k < (R.map f).length := by rw [List.length_map]; exact hk
  have e0 : (R.map f)[k] = f R[k] := List.getElem_map _
  rw [← e0] at hv
  obtain ⟨j, e, hj, hx⟩ := spot_old hkm h hv
  have hm : (R.map f)[k] ∈ (R.map f).take k := by rw [← hx]; exact (dist_mem _ _).1 (List.getElem_mem hj)
  have hj2 : j < (distP ((R.take k).map f)).length := by rw [List.map_take]; exact hj
  have hx2 : (distP ((R.take k).map f))[j] = f R[k] := by rw [← e0, ← hx]; simp only [List.map_take]
  obtain ⟨g1, g2⟩ := gather_old hj2 hx2
  rw [← List.take_succ_eq_append_getElem hk] at g1 g2
  refine ⟨j, e, by rw [gather_len]; exact hj2, g2, ?_, spot_keep hkm h hm⟩
  rw [← List.map_take, ← List.map_take]
  exact g1
theorem gth_new {f : RowL → RowL} {R : List RowL} {k : Nat} (hk : k < R.length) {F : List UInt8 → Option Int} (h : Spot (R.map f) k F) (hv : F (txtN (idsP (R.map f) (k + 1)).1 (f R[k])) = none) :
    gatherP f (R.take (k + 1)) = gatherP f (R.take k) ++ [[R[k]]] ∧ (distP ((R.map f).take (k + 1))).length = (distP ((R.map f).take k)).length + 1 ∧ Spot (R.map f) (k + 1) (updG F (txtN (idsP (R.map f) (k + 1)).1 (f R[k])) (some ((distP ((R.map f).take k)).length : Int))) := by
  have hkm : k < (R.map f).length := by rw [List.length_map]; exact hk
  have e0 : (R.map f)[k] = f R[k] := List.getElem_map _
  rw [← e0] at hv ⊢
  have hm := spot_new hkm h hv
  have hm2 : f R[k] ∉ (R.take k).map f := by rw [List.map_take, ← e0]; exact hm
  obtain ⟨g1, g2⟩ := gather_new hm2
  rw [← List.take_succ_eq_append_getElem hk] at g1 g2
  refine ⟨g2, ?_, spot_put hkm h hm (fun x => rfl)⟩
  rw [← List.map_take, ← List.map_take, g1, List.length_append]; rfl
theorem gth_len (f : RowL → RowL) (R : List RowL) (k : Nat) : (distP ((R.map f).take k)).length = (gatherP f (R.take k)).length := by rw [gather_len, List.map_take]

/- what the rounds keep -/
structure GthR (w : World) (K : List Nat) (R : List RowL) (P Q b bm B : Nat) (ka : Option Addr) (kn kc k : Nat) (v : Value) (wr : World) : Prop where
  below : Below w.heap.size w wr
  pc : wr.cell? ⟨P, 0, none⟩ = some (.slice ka kn kc)
  qc : wr.cell? ⟨Q, 0, none⟩ = some (.map (some b))
  num : MapT wr b (idsP (R.map (keyK K)) k).2 (idsP (R.map (keyK K)) k).1
  spot : ∃ f, MapS wr bm (gatherP (keyK K) (R.take k)).length f ∧ Spot (R.map (keyK K)) k f
  grp : ∃ vs, wr.ownsRow B 23 1 v (gatherP (keyK K) (R.take k)).length vs ∧ Grps w wr B vs (gatherP (keyK K) (R.take k))
  size : B ≤ wr.heap.size
theorem Grps.app {w0 w w' : World} {B n : Nat} {v : Value} {xs vs : List Value} {G : List (List RowL)} (h : Grps w0 w B vs G) (ho : w.ownsRow B 23 1 v n xs) (hg : w.grownBy w' v.ownBlock) : Grps w0 w' B vs G :=
  h.step fun b _ ⟨_, hc⟩ => hg.block b (blk_lt hc) (fun e => own_other ho hc (by decide) e.symm)
theorem own_at {W : World} {g n j : Nat} {T : TypeId} {cur vs : List Value} {u : Value} (hb : Blk W g T cur.toArray) (ht : cur.take n = vs) (hu : vs[j]? = some u) : W.cell? ⟨g, j, none⟩ = some u := by
  rw [blk_cell hb, List.getElem?_toArray]
  rw [← ht, List.getElem?_take] at hu
  split at hu
  · exact hu
  · cases hu
theorem run_makeMapS (w : World) : (Instr.makeMap 62 none).run Tryz.prog w = .ok (.map (some w.heap.size)) (w.alloc (.map #[] 0)) := by kernel_rfl
theorem groups_gather {f : RowL → RowL} {R : List RowL} {G : List RowL} (h : G ∈ gatherP f R) : G.length ≤ R.length := by
  unfold gatherP at h
  obtain ⟨d, hd, rfl⟩ := List.mem_map.1 h
  exact List.length_filter_le _ _
theorem gth_put {w W w8 w9 : World} {K : List Nat} {R : List RowL} {P Q b bm B : Nat} {ka : Option Addr} {kn kc k : Nat} {f : List UInt8 → Option Int} {vs : List Value} {G : List (List RowL)} {j g5 cap5 : Nat} {cur5 : List Value} {u v8 : Value} {cs : List Value} {y : RowL} {a' : Option Addr} {yn c' : Nat} {o : Obj}
    (hP : P < B) (hQ : Q < B) (hb : b < B) (hbm : bm < B) (hwB : w.heap.size ≤ B) (hbel : Below w.heap.size w W) (hpc : W.cell? ⟨P, 0, none⟩ = some (.slice ka kn kc)) (hqc : W.cell? ⟨Q, 0, none⟩ = some (.map (some b)))
    (hnum : MapT W b (idsP (R.map (keyK K)) (k + 1)).2 (idsP (R.map (keyK K)) (k + 1)).1) (hS : MapS W bm G.length f) (hsp : Spot (R.map (keyK K)) (k + 1) f) (hgr : Grps w W B vs G) (hsz : B ≤ W.heap.size) (hj : j < G.length) (hu : vs[j]? = some u)
    (hou : W.ownsRow B 35 1 u G[j].length cs) (hrc : RowC w cs G[j]) (hy : y.length = yn) (htm : TrmA w a' yn c' y) (h5 : B ≤ g5) (h6 : G.length ≤ cap5) (h7 : cap5 ≤ maxLen) (h8 : cur5.length = cap5) (h9 : cur5.take G.length = vs)
    (ho8 : w8.ownsRow B 35 1 v8 (G[j].length + 1) (cs ++ [.slice a' yn c'])) (hg8 : (W.alloc o).grownBy w8 u.ownBlock) (hn8 : v8.ownBlock = u.ownBlock ∨ v8.ownBlock = some (W.alloc o).heap.size) (hk8 : Blk w8 g5 23 cur5.toArray)
    (hk9 : Blk w9 g5 23 (cur5.set j v8).toArray) (hg9 : w8.grownBy w9 (some g5)) (hG : gatherP (keyK K) (R.take (k + 1)) = G.set j (G[j] ++ [y])) :
    GthR w K R P Q b bm B ka kn kc (k + 1) (.slice (some ⟨g5, 0, none⟩) G.length cap5) w9 := by
  have hb1 : Below B W (W.alloc o) := (box_below W o).mono hsz
  have hb8 : Below B W w8 := hb1.grown hg8 (Nat.le_trans hsz (by simp)) (fun q hq => (hou.lt q hq).1)
  have hb9 : Below B W w9 := hb8.grown hg9 (Nat.le_trans hsz hb8.size) (fun q hq => by injection hq with hq; omega)
  have hl : (G[j] ++ [y]).length = G[j].length + 1 := by rw [List.length_append]; rfl
  refine ⟨hbel.trans (hb9.mono hwB), keptC hpc hb9 hP, keptC hqc hb9 hQ, hnum.stay (stay_under hb9) hb, ⟨f, ?_, hsp⟩, ⟨vs.set j v8, ?_, ?_⟩, Nat.le_trans hsz hb9.size⟩
  · rw [hG, List.length_set]; exact hS.stay (stay_under hb9) hbm
  · rw [hG, List.length_set]
    exact own_shut hk9 h5 h6 h7 (by rw [List.length_set]; exact h8) (by rw [List.take_set, h9])
  · rw [hG]
    subst hy
    exact ((hgr.on (box_below W o)).put hj hu hg8 hn8 (by rw [hl]; exact ho8) (rowC_snoc hrc htm)).other hg9 hk8 (by decide)

end Go.Proofs.YtdnfaoanaehjhaaGreatDoor
