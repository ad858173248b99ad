/- The rows of a pattern: the document's own answer. -/
import Derived.Test.YtnojdchodmogbaaGreatRefTab
import Derived.Test.YtnojdchodmogbaaGreatRefAt
import Derived.Test.YtnojdchodmogbaaGreatStoKepts
import Derived.Test.YtnojdchodmogbaaGreatStoMatch
import Derived.Test.YtnojdchodmogbaaGreatRefVars2
import Derived.Test.YtnojdchodmogbaaGreatRefPuts
import Derived.Deep.RegionHeld3
namespace Go.Proofs.YtnojdchodmogbaaGreat
open Go.RowKit

theorem owns_kept {F : Nat → Prop} {w w' : World} {B n size : Nat} {e : TypeId} {v : Value} {xs : List Value} (h : w.ownsRow B e size v n xs) (hk : Kept F w w') (hF : ∀ g, v.ownBlock = some g → ¬ F g) : w'.ownsRow B e size v n xs := by
  refine ⟨h.1, ?_⟩
  rcases h.2 with hn | ⟨g, cap, cur, rfl, hb, hgg, rest⟩
  · exact .inl hn
  · refine .inr ⟨g, cap, cur, rfl, hb, ?_, rest⟩
    rw [hk.block g (Array.getElem?_eq_some_iff.1 hgg).1 (hF g rfl)]
    exact hgg
theorem owns_kind {w : World} {B B' n m size size' : Nat} {e e' : TypeId} {v u : Value} {xs ys : List Value} (h : w.ownsRow B e size v n xs) (k : w.ownsRow B' e' size' u m ys) (hne : e ≠ e') : v.ownBlock = none ∨ v.ownBlock ≠ u.ownBlock := by
  rcases h.2 with ⟨rfl, _⟩ | ⟨g, cap, cur, rfl, _, hg, _⟩
  · exact .inl rfl
  · refine .inr fun he => ?_
    rcases k.2 with ⟨rfl, _⟩ | ⟨g', cap', cur', rfl, _, hg', _⟩
    · cases he
    · injection he with he
      simp only at he
      subst he
      rw [hg] at hg'
      injection hg' with hg'
      injection hg' with _ h2 _
      exact hne h2
theorem cells_kept {F : Nat → Prop} {w w' : World} {g k : Nat} {t : TripL} (h : Cells12 w g k t) (hk : Kept F w w') (hF : ¬ F g) (hg : g < w.heap.size) : Cells12 w' g k t := by
  have e : ∀ o, w'.cell? ⟨g, o, none⟩ = w.cell? ⟨g, o, none⟩ := fun o => World.cell?_of_block (hk.block g hg hF)
  obtain ⟨⟨c0, c1, c2, c3⟩, ⟨c4, c5, c6, c7⟩, ⟨c8, c9, c10, c11⟩⟩ := h
  exact ⟨⟨by rw [e]; exact c0, by rw [e]; exact c1, by rw [e]; exact c2, by rw [e]; exact c3⟩, ⟨by rw [e]; exact c4, by rw [e]; exact c5, by rw [e]; exact c6, by rw [e]; exact c7⟩, ⟨by rw [e]; exact c8, by rw [e]; exact c9, by rw [e]; exact c10, by rw [e]; exact c11⟩⟩

def RowsO (w : World) (B : Nat) (rv : Value) (R : List (List TermL)) : Prop :=
  ∃ vs : List Value, w.ownsRow B 65 1 rv R.length vs ∧ ∀ j (h : j < R.length), ∃ v, vs[j]? = some v ∧ w.ownsRow B 27 4 v R[j].length (cellsT R[j])
theorem RowsO.kept {F : Nat → Prop} {w w' : World} {B : Nat} {rv : Value} {R : List (List TermL)} (h : RowsO w B rv R) (hk : Kept F w w') (hF : ∀ k, B ≤ k → k < w.heap.size → ¬ F k) : RowsO w' B rv R := by
  obtain ⟨vs, h1, h2⟩ := h
  refine ⟨vs, owns_kept h1 hk (fun g hg => hF g (h1.lt g hg).1 (h1.lt g hg).2), fun j hj => ?_⟩
  obtain ⟨v, h3, h4⟩ := h2 j hj
  exact ⟨v, h3, owns_kept h4 hk (fun g hg => hF g (h4.lt g hg).1 (h4.lt g hg).2)⟩
theorem RowsO.on {w w' : World} {B C : Nat} {rv : Value} {R : List (List TermL)} (h : RowsO w B rv R) (hb : Below C w w') (hC : w.heap.size ≤ C) : RowsO w' B rv R := by
  obtain ⟨vs, h1, h2⟩ := h
  refine ⟨vs, owns_on h1 hb hC, fun j hj => ?_⟩
  obtain ⟨v, h3, h4⟩ := h2 j hj
  exact ⟨v, h3, owns_on h4 hb hC⟩
theorem RowsO.reads {w : World} {B : Nat} {rv : Value} {R : List (List TermL)} (h : RowsO w B rv R) : RowsV w rv R := by
  obtain ⟨vs, h1, h2⟩ := h
  have hl := h1.1
  rw [Nat.mul_one] at hl
  rcases reads_of h1 with ⟨rfl, h0⟩ | ⟨g, cap, rfl, hg, hc, hm, hr⟩
  · exact ⟨none, 0, by rw [h0], fun h => absurd h (by omega)⟩
  · refine ⟨_, cap, rfl, fun _ => ⟨g, rfl, hg, hc, fun j hj => ?_⟩⟩
    obtain ⟨v, h3, h4⟩ := h2 j hj
    exact ⟨v, hr j v h3, reads_of h4⟩
/- one row more -/
theorem RowsO.push {w w' : World} {B : Nat} {rv rv' v : Value} {R : List (List TermL)} {r : List TermL} {vs : List Value} (h1 : w.ownsRow B 65 1 rv R.length vs) (h2 : ∀ j (h : j < R.length), ∃ v, vs[j]? = some v ∧ w.ownsRow B 27 4 v R[j].length (cellsT R[j]))
    (hv : w.ownsRow B 27 4 v r.length (cellsT r)) (ho : w'.ownsRow B 65 1 rv' (R.length + 1) (vs ++ [v])) (hg : w.grownBy w' rv.ownBlock) : RowsO w' B rv' (R ++ [r]) := by
  have hl := h1.1
  rw [Nat.mul_one] at hl
  refine ⟨vs ++ [v], by rw [List.length_append]; exact ho, fun j hj => ?_⟩
  rw [List.length_append, List.length_singleton] at hj
  by_cases hlt : j < R.length
  · obtain ⟨u, h3, h4⟩ := h2 j hlt
    refine ⟨u, by rw [List.getElem?_append_left (by omega)]; exact h3, ?_⟩
    rw [List.getElem_append_left hlt]
    exact World.ownsRow.kept h4 hg (owns_kind h4 h1 (by decide))
  · have hj' : j = R.length := by omega
    subst hj'
    refine ⟨v, by rw [List.getElem?_append_right (by omega)]; simp [hl], ?_⟩
    rw [List.getElem_append_right (Nat.le_refl _)]
    simp only [Nat.sub_self, List.getElem_cons_zero]
    exact World.ownsRow.kept hv hg (owns_kind hv h1 (by decide))

def rowsN (p : TripL) (L : List TripL) (k : Nat) : List (List TermL) := ((L.take k).filter (matchB p)).map fun t => (varsL p).map (atName p t)
theorem rowsN_yes {p : TripL} {L : List TripL} {k : Nat} (hk : k < L.length) (h : matchB p L[k] = true) : rowsN p L (k + 1) = rowsN p L k ++ [(varsL p).map (atName p L[k])] := by
  unfold rowsN
  rw [List.take_succ_eq_append_getElem hk, List.filter_append, List.map_append]
  simp [h]
theorem rowsN_no {p : TripL} {L : List TripL} {k : Nat} (hk : k < L.length) (h : matchB p L[k] = false) : rowsN p L (k + 1) = rowsN p L k := by
  unfold rowsN
  rw [List.take_succ_eq_append_getElem hk, List.filter_append, List.map_append]
  simp [h]
theorem rowsN_all {p : TripL} (hp : patB p = true) (L : List TripL) : rowsN p L L.length = (L.filter (matchB p)).map (rowP p) := by
  unfold rowsN
  rw [List.take_length]
  exact List.map_congr_left fun t _ => (row_eq hp t).symm
theorem rowsN_length (p : TripL) (L : List TripL) (k : Nat) : (rowsN p L k).length ≤ k := by
  unfold rowsN
  rw [List.length_map]
  exact Nat.le_trans (List.length_filter_le _ _) (by rw [List.length_take]; omega)

/- what the rounds keep: k of the triples are gone through -/
def MtR (W0 : World) (p : TripL) (L : List TripL) (N X : Nat) (vv i : Value) (wr : World) : Prop :=
  ∃ (k : Nat) (rv : Value), k ≤ N ∧ i = .int .i64 k ∧ Blk wr X 56 #[vv, rv] ∧ RowsO wr W0.heap.size rv (rowsN p L k) ∧ Kept (fun j => j = X) W0 wr
/- and inside: j of the names -/
def MtR2 (w3 : World) (p y : TripL) (n : Nat) (row i : Value) (wr : World) : Prop :=
  ∃ j : Nat, j ≤ n ∧ i = .int .i64 j ∧ wr.ownsRow w3.heap.size 27 4 row j (cellsT (((varsL p).take j).map (atName p y))) ∧ Below w3.heap.size w3 wr
def RMatchT (p : TripL) (L : List TripL) (w : World) (e : Ending) (w' : World) : Prop :=
  ∃ tv, e = .returned tv ∧ TabV w' tv (varsL p) ((L.filter (matchB p)).map (rowP p)) ∧ Below w.heap.size w w'

theorem box_kept {F : Nat → Prop} {w w' : World} {g : Nat} {t : TripL} (h : Box12 w g t) (hk : Kept F w w') (hF : ¬ F g) (hg : g < w.heap.size) : Box12 w' g t := by
  have e : ∀ o, w'.cell? ⟨g, o, none⟩ = w.cell? ⟨g, o, none⟩ := fun o => World.cell?_of_block (hk.block g hg hF)
  obtain ⟨⟨c0, c1, c2, c3⟩, ⟨c4, c5, c6, c7⟩, ⟨c8, c9, c10, c11⟩⟩ := h
  exact ⟨⟨by rw [e]; exact c0, by rw [e]; exact c1, by rw [e]; exact c2, by rw [e]; exact c3⟩, ⟨by rw [e]; exact c4, by rw [e]; exact c5, by rw [e]; exact c6, by rw [e]; exact c7⟩, ⟨by rw [e]; exact c8, by rw [e]; exact c9, by rw [e]; exact c10, by rw [e]; exact c11⟩⟩
theorem texts_open {w : World} {v : Value} {n : Nat} {V : List (List UInt8)} (h : Reads w v n (textCells V)) : ∃ a c, v = .slice a n c ∧ (0 < n → ∃ g, a = some ⟨g, 0, none⟩ ∧ g < w.heap.size ∧ n ≤ c ∧ ∀ j (h : j < V.length), w.cell? ⟨g, j, none⟩ = some (.string (bs V[j]))) := by
  rcases h with ⟨rfl, h0⟩ | ⟨g, cap, rfl, hg, hc, hm, hr⟩
  · exact ⟨_, _, by rw [h0], fun h => absurd h (by omega)⟩
  · exact ⟨_, _, rfl, fun _ => ⟨g, rfl, hg, hc, fun j hj => hr j _ (by simp [textCells, hj])⟩⟩
theorem blk_second (w : World) (o : Obj) (a : Array Value) (T : TypeId) : Blk ((w.alloc o).alloc (.cells a T)) (w.heap.size + 1) T a := by
  have h := blk_new (w.alloc o) T a
  have e : (w.alloc o).heap.size = w.heap.size + 1 := by simp
  rw [e] at h
  exact h
theorem news4 (W : World) (T : TypeId) (a b c d : Value) : ∀ n u, [a, b, c, d][n]? = some u → (W.alloc (.cells #[a, b, c, d] T)).cell? ((⟨W.heap.size, 0, none⟩ : Addr).add n) = some u := by
  intro n u h
  have hb := blk_cell (blk_new W T #[a, b, c, d]) n
  have e : ((⟨W.heap.size, 0, none⟩ : Addr).add n) = ⟨W.heap.size, n, none⟩ := by
    cases n with
    | zero => simp [Addr.add]
    | succ n => simp [Addr.add]
  rw [e, hb]
  simpa using h
/- what is in a block of another kind stays when rows grow in place -/
theorem blk_grown' {w w' : World} {o : Obj} {X B n size : Nat} {T e : TypeId} {a : Array Value} {v : Value} {xs : List Value} (h : Blk w X T a) (hg : (w.alloc o).grownBy w' v.ownBlock) (k : w.ownsRow B e size v n xs) (hne : T ≠ e) : Blk w' X T a := by
  have hX := blk_lt h
  refine (hg.block X (by simp; omega) (fun c => ?_)).trans (((World.grownBy_alloc w o none).block X hX (by simp)).trans h)
  rcases k.2 with ⟨rfl, _⟩ | ⟨g, cap, cur, rfl, _, hgg, _⟩
  · cases c
  · injection c with c
    simp only at c
    subst c
    unfold Blk at h
    rw [h] at hgg
    injection hgg with hgg
    injection hgg with _ h2 _
    exact hne h2
theorem cellsT_one (x : TermL) : cellsT [x] = [.int .i64 x.k, .string (bs x.x), .string (bs x.y), .string (bs x.z)] := rfl
theorem rmatch_ret (tm : Array Value) (W : World) (A : Nat) (a b : Value) (Q : Ending → World → Prop) (h4 : tm.getD 4 undef = .pointer (some ⟨A, 0, none⟩)) (hA : Blk W A 56 #[a, b]) (hQ : Q (.returned (.agg #[a, b])) W) :
    bodyPost Tryz.prog Tryz.f27 Q Exit.ret { tmps := tm, defers := [] } W := by
  have q0 : W.cell? ⟨A, 0, none⟩ = some a := by rw [blk_cell hA]; rfl
  have q1 : W.cell? ⟨A, 1, none⟩ = some b := by rw [blk_cell hA]; rfl
  have e4 : tm[4]?.getD undef = .pointer (some ⟨A, 0, none⟩) := by rw [← Array.getD_eq_getD_getElem?]; exact h4
  refine bodyPost_ret (v := .agg #[a, b]) (by simp [results, Tryz.results27, e4, q0, q1, go_sem]) rfl hQ

set_option maxRecDepth 100000 in
set_option maxHeartbeats 8000000 in
theorem rMatch_calls (L : List TripL) (p : TripL) (v : Value) (w : World) (hp : patB p = true) (hv : Reads w v L.length (tripCells L)) (hl : L.length ≤ 4096) :
    Calls Tryz.prog 27 #[v, p.v] w (RMatchT p L w) := by
  have hrv := Lib.hid (fun W => rVars_calls p W)
  have hmt := Lib.hid (fun y W => rMatches_calls p y W)
  have hat := Lib.hid (fun y n W => at_calls p y n W)
  have HPB := Lib.hid hp
  obtain ⟨fa, fc, rfl, hf⟩ := reads_open hv
  obtain ⟨N, hN⟩ : ∃ N, L.length = N := ⟨_, rfl⟩
  have HF := Lib.hid (show 0 < N → ∃ g, fa = some ⟨g, 0, none⟩ ∧ g < w.heap.size ∧ N ≤ fc ∧ ∀ j (h : j < L.length), Cells12 w g j L[j] from fun h0 => by obtain ⟨g, a1, a2, a3, a4⟩ := hf (by rw [hN]; exact h0); exact ⟨g, a1, a2, by rw [← hN]; exact a3, a4⟩)
  clear hv hf hp
  rw [hN] at hl ⊢
  have HN := Lib.hid hN
  clear hN
  simp only [TripL.v]
  go_enter Tryz.func27, Tryz.ntmps27
  have bx0 := Lib.hid (box_on (box12_of (blk_new w 29 (cells12 p))) (box_below (w.alloc (.cells (cells12 p) 29)) (.cells #[.slice none 0 0, .slice none 0 0] 56)) (by simp))
  have bA0 := Lib.hid (show Blk ((w.alloc (.cells (cells12 p) 29)).alloc (.cells #[.slice none 0 0, .slice none 0 0] 56)) (w.heap.size + 1) 56 #[.slice none 0 0, .slice none 0 0] from blk_second _ _ _ _)
  have bb0 := Lib.hid (two_box w (.cells (cells12 p) 29) (.cells #[.slice none 0 0, .slice none 0 0] 56))
  have hs0 := Lib.hid (show ∀ o o2 : Obj, ((w.alloc o).alloc o2).heap.size = w.heap.size + 2 from fun _ _ => by simp)
  obtain ⟨i0, hi, hz0, hz1, hz2⟩ := info_parts info_term
  obtain ⟨j0, hj, hy0, hy1, hy2⟩ := info_parts info_row
  go_wp2_with fail
  refine (hrv.out _).mono ?_
  rintro e w1 ⟨vv, rfl, hV, hb1⟩
  have hbw1 := Lib.hid (first_below bb0.out hb1)
  have hz1w := Lib.hid (show w.heap.size + 2 ≤ w1.heap.size by have h := hb1.size; rw [hs0.out] at h; exact h)
  have bx1 := Lib.hid (box_on bx0.out hb1 (by rw [hs0.out]; omega))
  have bA1 := Lib.hid (blk_on bA0.out hb1 (blk_lt bA0.out))
  have h3 := Lib.hid (varsL_length p)
  obtain ⟨n, hn⟩ : ∃ n, (varsL p).length = n := ⟨_, rfl⟩
  have hr1 := reads_of hV
  rw [hn] at h3 hr1
  have HNV := Lib.hid hn
  obtain ⟨va, vc, rfl, hvo⟩ := texts_open hr1
  have hvo2 := Lib.hid hvo
  have HRV1 := Lib.hid hr1
  have HVL1 := Lib.hid (show ∀ k, (Value.slice va n vc).ownBlock = some k → w.heap.size + 2 ≤ k ∧ k < w1.heap.size from fun k hk => by have h := hV.lt k hk; rw [hs0.out] at h; exact h)
  clear hb1 hV bx0 bA0 bb0 hs0 hr1 hvo hn
  obtain ⟨W0, hW0⟩ : ∃ W0, w1.alloc (.cells #[.slice va n vc, .slice none 0 0] 56) = W0 := ⟨_, rfl⟩
  obtain ⟨X, hX⟩ : ∃ X, w1.heap.size = X := ⟨_, rfl⟩
  have hbW0 := Lib.hid (show Below w1.heap.size w1 W0 by rw [← hW0]; exact box_below _ _)
  have hX0 := Lib.hid (show Blk W0 X 56 #[.slice va n vc, .slice none 0 0] by rw [← hW0, ← hX]; exact blk_new _ _ _)
  have bxW := Lib.hid (box_on bx1.out hbW0.out (by have := hz1w.out; omega))
  have bAW := Lib.hid (blk_on bA1.out hbW0.out (blk_lt bA1.out))
  have hXs := Lib.hid (show w.heap.size + 2 ≤ X ∧ X < W0.heap.size by have := hz1w.out; exact ⟨by omega, blk_lt hX0.out⟩)
  have hbW := Lib.hid (first_below hbw1.out hbW0.out)
  have HVO := Lib.hid (show 0 < n → ∃ g, va = some ⟨g, 0, none⟩ ∧ g < X ∧ n ≤ vc ∧ ∀ j (h : j < (varsL p).length), W0.cell? ⟨g, j, none⟩ = some (.string (bs (varsL p)[j])) from fun h0 => by
    obtain ⟨g, h1, h2, h3, h4⟩ := hvo2.out h0
    exact ⟨g, h1, by omega, h3, fun j hj => keptB (h4 j hj) hbW0.out h2⟩)
  have HRV := Lib.hid (readsOn HRV1.out hbW0.out (Nat.le_refl _))
  have HVL := Lib.hid (show ∀ k, (Value.slice va n vc).ownBlock = some k → w.heap.size + 2 ≤ k ∧ k < X from fun k hk => by have h := HVL1.out k hk; rw [hX] at h; exact h)
  clear hvo2 hbW0 bx1 bA1 hbw1 hz1w HRV1 HVL1
  have HX := Lib.hid hX
  have HW0 := Lib.hid hW0
  clear hX hW0
  go_wp2
  simp only [HX.out, HW0.out]
  go_loopw [6] (fun i wr => MtR W0 p L N X (.slice va n vc) i wr) (fun i _ => N - (intOf i).toNat)
  case atStart => exact ⟨0, .slice none 0 0, Nat.zero_le _, rfl, by first | exact hX0.out | (rw [HW0.out]; exact hX0.out), ⟨[], World.ownsRow_nil _ _ _ _, fun j hj => absurd hj (by simp [rowsN])⟩, by first | exact Kept.refl _ _ | (rw [HW0.out]; exact Kept.refl _ _)⟩
  case round =>
    obtain ⟨W9, rfl⟩ : ∃ W9, W9 = wr := ⟨_, rfl⟩
    obtain ⟨k, rv, hk, rfl, hBX, hR, hKp⟩ := hrel
    have g1 : (0 : Int) ≤ (k : Int) := by omega
    have HBX := Lib.hid hBX
    have HRO := Lib.hid hR
    have HKP := Lib.hid hKp
    have hsW := Lib.hid hKp.size
    clear hBX hR hKp
    by_cases hlt : k < N
    · have g2 : (k : Int) < (N : Int) := by omega
      have hkL : k < L.length := by rw [HN.out]; exact hlt
      obtain ⟨g, rfl, hg, hcap, hrow⟩ := HF.out (by omega)
      have hgX := Lib.hid (show g < W0.heap.size ∧ ¬ g = X by have := hXs.out; exact ⟨by omega, by omega⟩)
      have cm1 := Lib.hid (cells_kept (cells_on (hrow k hkL) hbW.out hg) HKP.out hgX.out.2 hgX.out.1)
      have bxr := Lib.hid (box_kept bxW.out HKP.out (by have := hXs.out; omega) (by have := hXs.out; omega))
      have hgr : g < W9.heap.size := Nat.lt_of_lt_of_le hgX.out.1 hsW.out
      have hwr : w.heap.size < W9.heap.size := by have := hsW.out; have := hXs.out; omega
      have RY := Lib.hid (rowsN_yes (p := p) hkL)
      have RN := Lib.hid (rowsN_no (p := p) hkL)
      clear hrow
      generalize L[k] = y at cm1 RY RN
      obtain ⟨D, hD⟩ : ∃ D, matchB p y = D := ⟨_, rfl⟩
      have hm5 := Lib.hid (fun W => (show Calls Tryz.prog 28 #[p.v, y.v] W (fun e w' => e = .returned (.bool D) ∧ Below W.heap.size W w') from by rw [← hD]; exact hmt.out y W))
      have hat5 := Lib.hid (fun nm W => hat.out y nm W)
      cases D with
      | false =>
        have RE := Lib.hid (RN.out hD)
        clear RY RN hD hat5
        go_wp2_with fail
        refine wp_region_held_drew (S := (fun W => Below W9.heap.size W9 W)) (by kernel_rfl) ?_ (fun hHeld => ?_)
        · (try dsimp only); first | exact Below.refl _ _ | exact (Below.refl _ _).drew
        obtain ⟨w5, hw5⟩ : ∃ w5, W9.drew = w5 := ⟨_, rfl⟩
        rw [hw5]
        have hbn : Below W9.heap.size W9 w5 := by rw [← hw5]; exact (Below.refl _ _).drew
        clear hw5
        refine wpAnyH_take (i := 0) (oi := ⟨some 18, _, _, _, _, _⟩) (v := ?_) rfl (by kernel_rfl) (by kernel_rfl) (by kernel_rfl) (fun _ _ _ h => h) (Or.inl ⟨by kernel_rfl, ?_⟩) (by assumption) ?_
        rotate_left
        · (intro ww hSw; (try dsimp only at hSw); obtain ⟨⟨c0, c1, c2, c3⟩, ⟨c4, c5, c6, c7⟩, ⟨c8, c9, c10, c11⟩⟩ := box_on bxr.out hSw hwr; go_simp); (try with_reducible rfl)
        (try simp only [Act.put, List.setIfInBounds_toArray, List.set_cons_zero, List.set_cons_succ])
        refine wpAnyH_take (i := 1) (oi := ⟨some 19, _, _, _, _, _⟩) (v := ?_) rfl (by kernel_rfl) (by kernel_rfl) (by kernel_rfl) (fun _ _ _ h => h) (Or.inl ⟨by kernel_rfl, ?_⟩) (by assumption) ?_
        rotate_left
        · (intro ww hSw; (try dsimp only at hSw); go_simp); (try with_reducible rfl)
        (try simp only [Act.put, List.setIfInBounds_toArray, List.set_cons_zero, List.set_cons_succ])
        refine wpAnyH_take (i := 2) (oi := ⟨some 20, _, _, _, _, _⟩) (v := ?_) rfl (by kernel_rfl) (by kernel_rfl) (by kernel_rfl) (fun _ _ _ h => h) (Or.inl ⟨by kernel_rfl, ?_⟩) (by assumption) ?_
        rotate_left
        · (intro ww hSw; (try dsimp only at hSw); go_simp); (try with_reducible rfl)
        (try simp only [Act.put, List.setIfInBounds_toArray, List.set_cons_zero, List.set_cons_succ])
        refine wpAnyH_take (i := 3) (oi := ⟨some 21, _, _, _, _, _⟩) (v := .pointer (some ⟨g, k * 12, none⟩)) rfl (by kernel_rfl) (by kernel_rfl) (by kernel_rfl) (fun _ _ _ h => h) (Or.inl ⟨by kernel_rfl, ?_⟩) (by assumption) ?_
        · (intro ww hSw; (try dsimp only at hSw); go_simp)
        (try simp only [Act.put, List.setIfInBounds_toArray, List.set_cons_zero, List.set_cons_succ])
        refine wpAnyH_take (i := 4) (oi := ⟨some 22, _, _, _, _, _⟩) (v := ?_) rfl (by kernel_rfl) (by kernel_rfl) (by kernel_rfl) (fun _ _ _ h => h) (Or.inl ⟨by kernel_rfl, ?_⟩) (by assumption) ?_
        rotate_left
        · (intro ww hSw; (try dsimp only at hSw); obtain ⟨⟨c0, c1, c2, c3⟩, ⟨c4, c5, c6, c7⟩, ⟨c8, c9, c10, c11⟩⟩ := cells_on cm1.out hSw hgr; go_simp); (try with_reducible rfl)
        (try simp only [Act.put, List.setIfInBounds_toArray, List.set_cons_zero, List.set_cons_succ])
        refine wpAnyH_ready (rs := [5]) (by kernel_rfl) (by simp) ?_
        refine AllReadyH.cons rfl (fun K hK => ?_) AllReadyH.nil
        go_simp
        refine (hm5.out _).mono ?_
        rintro e w3 ⟨rfl, hbh⟩
        (try replace hbh := from_drew hbh)
        replace hbn := fb2 hbn hbh (Nat.le_refl _)
        clear hbh
        go_wp2_with fail
        refine hK.out _ _ ?_ (fun hHeld => ?_)
        · (try dsimp only); first | exact hbn | exact hbn.drew
        clear hK K
        (try simp only [Act.put, List.setIfInBounds_toArray, List.set_cons_zero, List.set_cons_succ])
        refine wpAnyH_take (i := 6) (oi := ⟨some 24, _, _, _, _, _⟩) (v := ?_) rfl (by kernel_rfl) (by kernel_rfl) (by kernel_rfl) (fun _ _ _ h => h) (Or.inl ⟨by kernel_rfl, ?_⟩) (by assumption) ?_
        rotate_left
        · (intro ww hSw; (try dsimp only at hSw); go_simp); (try with_reducible rfl)
        (try simp only [Act.put, List.setIfInBounds_toArray, List.set_cons_zero, List.set_cons_succ])
        refine wpAnyH_done (by kernel_rfl) ?_ _
        have HK3 := Lib.hid (HKP.out.then (Kept.of_below (F := fun j => j = X) hbn) (fun i _ h => h))
        have HX3 := Lib.hid (blk_on HBX.out hbn (blk_lt HBX.out))
        have HR3 := Lib.hid (HRO.out.on hbn (Nat.le_refl _))
        clear hbn
        go_wp2
        go_roundw
        case rel => exact ⟨k + 1, rv, by omega, by go_num, by first | exact HX3.out | exact blkDrew HX3.out, by rw [RE.out]; first | exact HR3.out | exact HR3.out.on (Below.refl _ _).drew (Nat.le_refl _), by first | exact HK3.out | exact HK3.out.drew⟩
        case measure => simp [intOf]; omega
      | true =>
        have RE := Lib.hid (RY.out hD)
        clear RY RN hD
        go_wp2_with fail
        refine wp_region_held_drew (S := (fun W => Below W9.heap.size W9 W)) (by kernel_rfl) ?_ (fun hHeld => ?_)
        · (try dsimp only); first | exact Below.refl _ _ | exact (Below.refl _ _).drew
        obtain ⟨w5, hw5⟩ : ∃ w5, W9.drew = w5 := ⟨_, rfl⟩
        rw [hw5]
        have hbn : Below W9.heap.size W9 w5 := by rw [← hw5]; exact (Below.refl _ _).drew
        clear hw5
        refine wpAnyH_take (i := 0) (oi := ⟨some 18, _, _, _, _, _⟩) (v := ?_) rfl (by kernel_rfl) (by kernel_rfl) (by kernel_rfl) (fun _ _ _ h => h) (Or.inl ⟨by kernel_rfl, ?_⟩) (by assumption) ?_
        rotate_left
        · (intro ww hSw; (try dsimp only at hSw); obtain ⟨⟨c0, c1, c2, c3⟩, ⟨c4, c5, c6, c7⟩, ⟨c8, c9, c10, c11⟩⟩ := box_on bxr.out hSw hwr; go_simp); (try with_reducible rfl)
        (try simp only [Act.put, List.setIfInBounds_toArray, List.set_cons_zero, List.set_cons_succ])
        refine wpAnyH_take (i := 1) (oi := ⟨some 19, _, _, _, _, _⟩) (v := ?_) rfl (by kernel_rfl) (by kernel_rfl) (by kernel_rfl) (fun _ _ _ h => h) (Or.inl ⟨by kernel_rfl, ?_⟩) (by assumption) ?_
        rotate_left
        · (intro ww hSw; (try dsimp only at hSw); go_simp); (try with_reducible rfl)
        (try simp only [Act.put, List.setIfInBounds_toArray, List.set_cons_zero, List.set_cons_succ])
        refine wpAnyH_take (i := 2) (oi := ⟨some 20, _, _, _, _, _⟩) (v := ?_) rfl (by kernel_rfl) (by kernel_rfl) (by kernel_rfl) (fun _ _ _ h => h) (Or.inl ⟨by kernel_rfl, ?_⟩) (by assumption) ?_
        rotate_left
        · (intro ww hSw; (try dsimp only at hSw); go_simp); (try with_reducible rfl)
        (try simp only [Act.put, List.setIfInBounds_toArray, List.set_cons_zero, List.set_cons_succ])
        refine wpAnyH_take (i := 3) (oi := ⟨some 21, _, _, _, _, _⟩) (v := .pointer (some ⟨g, k * 12, none⟩)) rfl (by kernel_rfl) (by kernel_rfl) (by kernel_rfl) (fun _ _ _ h => h) (Or.inl ⟨by kernel_rfl, ?_⟩) (by assumption) ?_
        · (intro ww hSw; (try dsimp only at hSw); go_simp)
        (try simp only [Act.put, List.setIfInBounds_toArray, List.set_cons_zero, List.set_cons_succ])
        refine wpAnyH_take (i := 4) (oi := ⟨some 22, _, _, _, _, _⟩) (v := ?_) rfl (by kernel_rfl) (by kernel_rfl) (by kernel_rfl) (fun _ _ _ h => h) (Or.inl ⟨by kernel_rfl, ?_⟩) (by assumption) ?_
        rotate_left
        · (intro ww hSw; (try dsimp only at hSw); obtain ⟨⟨c0, c1, c2, c3⟩, ⟨c4, c5, c6, c7⟩, ⟨c8, c9, c10, c11⟩⟩ := cells_on cm1.out hSw hgr; go_simp); (try with_reducible rfl)
        (try simp only [Act.put, List.setIfInBounds_toArray, List.set_cons_zero, List.set_cons_succ])
        refine wpAnyH_ready (rs := [5]) (by kernel_rfl) (by simp) ?_
        refine AllReadyH.cons rfl (fun K hK => ?_) AllReadyH.nil
        go_simp
        refine (hm5.out _).mono ?_
        rintro e w3 ⟨rfl, hbh⟩
        (try replace hbh := from_drew hbh)
        replace hbn := fb2 hbn hbh (Nat.le_refl _)
        clear hbh
        go_wp2_with fail
        refine hK.out _ _ ?_ (fun hHeld => ?_)
        · (try dsimp only); first | exact hbn | exact hbn.drew
        clear hK K
        (try simp only [Act.put, List.setIfInBounds_toArray, List.set_cons_zero, List.set_cons_succ])
        refine wpAnyH_take (i := 6) (oi := ⟨some 24, _, _, _, _, _⟩) (v := ?_) rfl (by kernel_rfl) (by kernel_rfl) (by kernel_rfl) (fun _ _ _ h => h) (Or.inl ⟨by kernel_rfl, ?_⟩) (by assumption) ?_
        rotate_left
        · (intro ww hSw; (try dsimp only at hSw); go_simp); (try with_reducible rfl)
        (try simp only [Act.put, List.setIfInBounds_toArray, List.set_cons_zero, List.set_cons_succ])
        refine wpAnyH_done (by kernel_rfl) ?_ _
        have HK3 := Lib.hid (HKP.out.then (Kept.of_below (F := fun j => j = X) hbn) (fun i _ h => h))
        have HX3 := Lib.hid (blk_on HBX.out hbn (blk_lt HBX.out))
        have HR3 := Lib.hid (HRO.out.on hbn (Nat.le_refl _))
        have bx3 := Lib.hid (box_on bxr.out hbn hwr)
        have cm3 := Lib.hid (cells_on cm1.out hbn hgr)
        have hgr3 := Lib.hid (Nat.lt_of_lt_of_le hgr hbn.size)
        have hwr3 := Lib.hid (Nat.lt_of_lt_of_le hwr hbn.size)
        have hs3 := Lib.hid (Nat.le_trans hsW.out hbn.size)
        clear hbn cm1 bxr hgr hwr hm5
        have HVO3 := Lib.hid (show 0 < n → ∃ g, va = some ⟨g, 0, none⟩ ∧ g < w3.heap.size ∧ n ≤ vc ∧ ∀ j (h : j < (varsL p).length), w3.cell? ⟨g, j, none⟩ = some (.string (bs (varsL p)[j])) from fun h0 => by
          obtain ⟨g, h1, h2, h3, h4⟩ := HVO.out h0
          have hg0 : g < W0.heap.size := by have := hXs.out; omega
          exact ⟨g, h1, Nat.lt_of_lt_of_le hg0 hs3.out, h3, fun j hj => by rw [World.cell?_of_block (HK3.out.block g hg0 (by omega))]; exact h4 j hj⟩)
        have hst := Lib.hid (show (w3.alloc (.cells #[] 27)).ownsRow w3.heap.size 27 4 (.slice (some ⟨w3.heap.size, 0, none⟩) 0 0) 0 (cellsT (((varsL p).take 0).map (atName p y))) from ⟨rfl, .inr ⟨w3.heap.size, 0, #[], rfl, Nat.le_refl _, blk_new _ _ _, Nat.le_refl _, Nat.zero_le _, rfl, rfl⟩⟩)
        go_wp2
        go_loopw [7, 8] (fun row i wr2 => MtR2 w3 p y n row i wr2) (fun _ i _ => n - (intOf i).toNat)
        case atStart => exact ⟨0, Nat.zero_le _, rfl, hst.out, box_below _ _⟩
        case round =>
          obtain ⟨j, hj2, rfl, hown, hbw⟩ := hrel
          have g3 : (0 : Int) ≤ (j : Int) := by omega
          have hn3 : n ≤ 3 := h3.out
          have cX := keptB (show w3.cell? ⟨X, 0, none⟩ = some (.slice va n vc) by rw [blk_cell HX3.out]; rfl) hbw (blk_lt HX3.out)
          have HOWN := Lib.hid hown
          have HBW := Lib.hid hbw
          clear hown hbw
          by_cases hjn : j < n
          · have g4 : (j : Int) < (n : Int) := by omega
            have hjL : j < (varsL p).length := by rw [HNV.out]; exact hjn
            obtain ⟨gv, rfl, hgv, hvc, hnm⟩ := HVO3.out (by omega)
            have hnm2 := Lib.hid (hnm j hjL)
            have HT := Lib.hid (List.take_succ_eq_append_getElem hjL)
            clear hnm
            generalize (varsL p)[j] = nm at hnm2 HT
            obtain ⟨x, hx⟩ : ∃ x, atName p y nm = x := ⟨_, rfl⟩
            have hatx := Lib.hid (fun W => (show Calls Tryz.prog 53 #[p.v, y.v, .string (bs nm)] W (fun e w' => e = .returned x.v ∧ Below W.heap.size W w') from by rw [← hx]; exact hat5.out nm W))
            have HCE : Hid (cellsT (((varsL p).take (j + 1)).map (atName p y)) = cellsT (((varsL p).take j).map (atName p y)) ++ [.int .i64 x.k, .string (bs x.x), .string (bs x.y), .string (bs x.z)]) := by show _ = _; rw [HT.out, List.map_append, cellsT_append, ← cellsT_one, ← hx]; rfl
            clear hx HT
            have hgv3 := Lib.hid hgv
            go_wp2_with fail
            refine wp_region_held_drew (S := (fun W => Below w3.heap.size w3 W)) (by kernel_rfl) ?_ (fun hHeld => ?_)
            · (try dsimp only); first | exact HBW.out | exact HBW.out.drew
            obtain ⟨w5, hw5⟩ : ∃ w5, wr.drew = w5 := ⟨_, rfl⟩
            rw [hw5]
            have hbn : Below w3.heap.size w3 w5 := by rw [← hw5]; exact HBW.out.drew
            have ho5 := own_drew HOWN.out
            rw [hw5] at ho5
            clear hw5
            refine wpAnyH_take (i := 0) (oi := ⟨some 33, _, _, _, _, _⟩) (v := ?_) rfl (by kernel_rfl) (by kernel_rfl) (by kernel_rfl) (fun _ _ _ h => h) (Or.inl ⟨by kernel_rfl, ?_⟩) (by assumption) ?_
            rotate_left
            · (intro ww hSw; (try dsimp only at hSw); go_simp); (try with_reducible rfl)
            (try simp only [Act.put, List.setIfInBounds_toArray, List.set_cons_zero, List.set_cons_succ])
            refine wpAnyH_take (i := 1) (oi := ⟨some 34, _, _, _, _, _⟩) (v := ?_) rfl (by kernel_rfl) (by kernel_rfl) (by kernel_rfl) (fun _ _ _ h => h) (Or.inl ⟨by kernel_rfl, ?_⟩) (by assumption) ?_
            rotate_left
            · (intro ww hSw; (try dsimp only at hSw); obtain ⟨⟨c0, c1, c2, c3⟩, ⟨c4, c5, c6, c7⟩, ⟨c8, c9, c10, c11⟩⟩ := box_on bx3.out hSw hwr3.out; go_simp); (try with_reducible rfl)
            (try simp only [Act.put, List.setIfInBounds_toArray, List.set_cons_zero, List.set_cons_succ])
            refine wpAnyH_take (i := 2) (oi := ⟨some 35, _, _, _, _, _⟩) (v := ?_) rfl (by kernel_rfl) (by kernel_rfl) (by kernel_rfl) (fun _ _ _ h => h) (Or.inl ⟨by kernel_rfl, ?_⟩) (by assumption) ?_
            rotate_left
            · (intro ww hSw; (try dsimp only at hSw); go_simp); (try with_reducible rfl)
            (try simp only [Act.put, List.setIfInBounds_toArray, List.set_cons_zero, List.set_cons_succ])
            refine wpAnyH_take (i := 3) (oi := ⟨some 36, _, _, _, _, _⟩) (v := ?_) rfl (by kernel_rfl) (by kernel_rfl) (by kernel_rfl) (fun _ _ _ h => h) (Or.inl ⟨by kernel_rfl, ?_⟩) (by assumption) ?_
            rotate_left
            · (intro ww hSw; (try dsimp only at hSw); go_simp); (try with_reducible rfl)
            (try simp only [Act.put, List.setIfInBounds_toArray, List.set_cons_zero, List.set_cons_succ])
            refine wpAnyH_take (i := 4) (oi := ⟨some 37, _, _, _, _, _⟩) (v := .pointer (some ⟨g, k * 12, none⟩)) rfl (by kernel_rfl) (by kernel_rfl) (by kernel_rfl) (fun _ _ _ h => h) (Or.inl ⟨by kernel_rfl, ?_⟩) (by assumption) ?_
            · (intro ww hSw; (try dsimp only at hSw); go_simp)
            (try simp only [Act.put, List.setIfInBounds_toArray, List.set_cons_zero, List.set_cons_succ])
            refine wpAnyH_take (i := 5) (oi := ⟨some 38, _, _, _, _, _⟩) (v := ?_) rfl (by kernel_rfl) (by kernel_rfl) (by kernel_rfl) (fun _ _ _ h => h) (Or.inl ⟨by kernel_rfl, ?_⟩) (by assumption) ?_
            rotate_left
            · (intro ww hSw; (try dsimp only at hSw); obtain ⟨⟨c0, c1, c2, c3⟩, ⟨c4, c5, c6, c7⟩, ⟨c8, c9, c10, c11⟩⟩ := cells_on cm3.out hSw hgr3.out; go_simp); (try with_reducible rfl)
            (try simp only [Act.put, List.setIfInBounds_toArray, List.set_cons_zero, List.set_cons_succ])
            refine wpAnyH_take (i := 6) (oi := ⟨some 39, _, _, _, _, _⟩) (v := ?_) rfl (by kernel_rfl) (by kernel_rfl) (by kernel_rfl) (fun _ _ _ h => h) (Or.inl ⟨by kernel_rfl, ?_⟩) (by assumption) ?_
            rotate_left
            · (intro ww hSw; (try dsimp only at hSw); go_simp); (try with_reducible rfl)
            (try simp only [Act.put, List.setIfInBounds_toArray, List.set_cons_zero, List.set_cons_succ])
            refine wpAnyH_take (i := 7) (oi := ⟨some 40, _, _, _, _, _⟩) (v := ?_) rfl (by kernel_rfl) (by kernel_rfl) (by kernel_rfl) (fun _ _ _ h => h) (Or.inl ⟨by kernel_rfl, ?_⟩) (by assumption) ?_
            rotate_left
            · (intro ww hSw; (try dsimp only at hSw); have cX2 := keptB (show w3.cell? ⟨X, 0, none⟩ = some (.slice (some ⟨gv, 0, none⟩) n vc) by rw [blk_cell HX3.out]; rfl) hSw (blk_lt HX3.out); go_simp); (try with_reducible rfl)
            (try simp only [Act.put, List.setIfInBounds_toArray, List.set_cons_zero, List.set_cons_succ])
            refine wpAnyH_take (i := 8) (oi := ⟨some 41, _, _, _, _, _⟩) (v := ?_) rfl (by kernel_rfl) (by kernel_rfl) (by kernel_rfl) (fun _ _ _ h => h) (Or.inl ⟨by kernel_rfl, ?_⟩) (by assumption) ?_
            rotate_left
            · (intro ww hSw; (try dsimp only at hSw); go_simp); (try with_reducible rfl)
            (try simp only [Act.put, List.setIfInBounds_toArray, List.set_cons_zero, List.set_cons_succ])
            refine wpAnyH_take (i := 9) (oi := ⟨some 42, _, _, _, _, _⟩) (v := .pointer (some ⟨gv, j, none⟩)) rfl (by kernel_rfl) (by kernel_rfl) (by kernel_rfl) (fun _ _ _ h => h) (Or.inl ⟨by kernel_rfl, ?_⟩) (by assumption) ?_
            · (intro ww hSw; (try dsimp only at hSw); go_simp)
            (try simp only [Act.put, List.setIfInBounds_toArray, List.set_cons_zero, List.set_cons_succ])
            refine wpAnyH_take (i := 10) (oi := ⟨some 43, _, _, _, _, _⟩) (v := ?_) rfl (by kernel_rfl) (by kernel_rfl) (by kernel_rfl) (fun _ _ _ h => h) (Or.inl ⟨by kernel_rfl, ?_⟩) (by assumption) ?_
            rotate_left
            · (intro ww hSw; (try dsimp only at hSw); have cN := keptB hnm2.out hSw hgv3.out; go_simp); (try with_reducible rfl)
            (try simp only [Act.put, List.setIfInBounds_toArray, List.set_cons_zero, List.set_cons_succ])
            refine wpAnyH_ready (rs := [11]) (by kernel_rfl) (by simp) ?_
            refine AllReadyH.cons rfl (fun K hK => ?_) AllReadyH.nil
            go_simp
            refine (hatx.out _).mono ?_
            rintro e w6 ⟨rfl, hbh⟩
            (try replace hbh := from_drew hbh)
            have ho6 := owns_on ho5 hbh (Nat.le_refl _)
            replace hbn := fb2 hbn hbh (Nat.le_refl _)
            clear hbh ho5
            simp only [TermL.v]
            go_wp2_with fail
            refine hK.out _ _ ?_ (fun hHeld => ?_)
            · (try dsimp only); first | exact hbn | exact hbn.drew
            clear hK K
            (try simp only [Act.put, List.setIfInBounds_toArray, List.set_cons_zero, List.set_cons_succ])
            refine wpAnyH_ready (rs := [12]) (by kernel_rfl) (by simp) ?_
            refine AllReadyH.cons rfl (fun K hK => ?_) AllReadyH.nil
            go_simp
            refine hK.out _ _ ?_ (fun hHeld => ?_)
            · (try dsimp only); first | exact hbn.alloc hbn.size _ | exact (hbn.alloc hbn.size _).drew | exact hbn.drew.alloc hbn.size _
            clear hK K
            (try simp only [Act.put, List.setIfInBounds_toArray, List.set_cons_zero, List.set_cons_succ])
            refine wpAnyH_ready (rs := [13]) (by kernel_rfl) (by simp) ?_
            refine AllReadyH.cons rfl (fun K hK => ?_) AllReadyH.nil
            refine wp_append_own _ (.tmp 33) (.tmp 45) 65 rfl w3.heap.size 27 i0 noTerm.v 4 56 Tryz.underlying65 hi hz0 hz1 hz2 rfl (by decide) _ _ _ rfl (ho6.alloc _) ⟨w6.heap.size, 0, none⟩ 1 1 [.int .i64 x.k, .string (bs x.x), .string (bs x.y), .string (bs x.z)] rfl rfl (news4 _ _ _ _ _ _) (by intro u hu; simp at hu; rcases hu with rfl | rfl | rfl | rfl <;> rfl) (by have := h3.out; unfold maxLen; omega) (by have := h3.out; omega) (by have := hbn.size; simp; omega) ?_
            intro v4 w7 hO4 hG4 _
            have HB4 := Lib.hid ((hbn.alloc hbn.size (.cells #[.int .i64 x.k, .string (bs x.x), .string (bs x.y), .string (bs x.z)] 27)).grown hG4 (by have := hbn.size; simp; omega) (fun k hk => (ho6.lt k hk).1))
            clear hG4 ho6 hbn
            change K (Act.put _ (some 46) v4) _
            refine hK.out _ _ ?_ (fun hHeld => ?_)
            · (try dsimp only); first | exact HB4.out | exact HB4.out.drew
            clear hK K
            (try simp only [Act.put, List.setIfInBounds_toArray, List.set_cons_zero, List.set_cons_succ])
            refine wpAnyH_take (i := 14) (oi := ⟨some 7, _, _, _, _, _⟩) (v := ?_) rfl (by kernel_rfl) (by kernel_rfl) (by kernel_rfl) (fun _ _ _ h => h) (Or.inl ⟨by rfl, ?_⟩) (by assumption) ?_
            rotate_left
            · (intro ww hSw; (try dsimp only at hSw); go_simp); (try with_reducible rfl)
            (try simp only [Act.put])
            refine wpAnyH_done (by kernel_rfl) ?_ _
            rw [← HCE.out] at hO4
            have HO4 := Lib.hid hO4
            clear hO4 HCE
            go_wp2
            go_roundw
            case rel => exact ⟨j + 1, by omega, by go_num, by first | exact HO4.out | exact own_drew HO4.out, by first | exact HB4.out | exact HB4.out.drew⟩
            case measure => simp [intOf]; omega
          · have g4 : ¬ ((j : Int) < (n : Int)) := by omega
            obtain rfl : j = n := by omega
            have hrow := HOWN.out
            rw [List.take_of_length_le (by rw [HNV.out]; exact Nat.le_refl _)] at hrow
            obtain ⟨ra, rc, hre⟩ := owns_slice hrow
            subst hre
            obtain ⟨vs, hvs, hold⟩ := HR3.out.on HBW.out (Nat.le_refl _)
            obtain ⟨qa, qc, hqe⟩ := owns_slice hvs
            subst hqe
            have HVS := Lib.hid hvs
            have HOLD := Lib.hid hold
            have HROW := Lib.hid hrow
            have cX1 := keptB (show w3.cell? ⟨X, 1, none⟩ = some _ by rw [blk_cell HX3.out]; rfl) HBW.out (blk_lt HX3.out)
            have hrl := Lib.hid (show (rowsN p L k).length ≤ 4096 by have := rowsN_length p L k; omega)
            have hBr := Lib.hid (show W0.heap.size ≤ wr.heap.size from Nat.le_trans hs3.out HBW.out.size)
            have HXr := Lib.hid (blk_on HX3.out HBW.out (blk_lt HX3.out))
            clear hrow hvs hold HOWN
            have hvl2 : vs.length = (rowsN p L k).length := by have := HVS.out.1; omega
            go_wp2_with (at_builtin; go_must (refine wpList_append_own_at _ rfl (.tmp 48) (.tmp 50) 54 rfl W0.heap.size 65 j0 (.slice none 0 0) 1 24 Tryz.underlying54 hj hy0 hy1 hy2 rfl (by decide) _ _ _ rfl (HVS.out.alloc _) ⟨wr.heap.size, 0, none⟩ 1 1 [.slice ra j rc] rfl rfl (cell_one' _ _ _ rfl) (by intro u hu; simp at hu; rw [hu]; rfl) (by have := hrl.out; unfold maxLen; omega) (by have := hrl.out; omega) (by have := hBr.out; simp; omega) ?_; intro v4 w4 hO4 hG4 hN4 hA4; obtain ⟨a4, c4, hv4⟩ := owns_slice hO4; subst hv4; have HO4 := Lib.hid hO4; clear hO4 hN4; have HG4 := Lib.hid (show (wr.alloc (.cells #[.slice ra j rc] 65)).grownBy w4 (Value.slice qa (rowsN p L k).length qc).ownBlock from hG4); clear hG4 hA4; have HX4 := Lib.hid (blk_grown' HXr.out HG4.out HVS.out (by decide)); have fX4 := blk_free HX4.out 1; have cX4 := (show w4.cell? ⟨X, 1, none⟩ = some _ by rw [blk_cell HX4.out]; rfl)))
            have hrow2 : wr.ownsRow W0.heap.size 27 4 (.slice ra j rc) ((varsL p).map (atName p y)).length (cellsT ((varsL p).map (atName p y))) := by rw [List.length_map, HNV.out]; exact owns_base HROW.out hs3.out
            have hR5 := RowsO.push (HVS.out.alloc _) (fun j hj => by obtain ⟨v, h5, h6⟩ := HOLD.out j hj; exact ⟨v, h5, h6.alloc _⟩) (hrow2.alloc _) HO4.out HG4.out
            have hK5 : Kept (fun j => j = X) W0 w4 := (HK3.out.then (Kept.of_below (F := fun j => j = X) (HBW.out.trans (box_below wr (.cells #[.slice ra j rc] 65) |>.mono HBW.out.size))) (fun i _ h => h)).then (Kept.of_grown (F := fun i => (Value.slice qa (rowsN p L k).length qc).ownBlock = some i) HG4.out (fun g hg => hg)) (fun i hi hF => absurd (HVS.out.lt i hF).1 (by omega))
            have hB5 := blk_set HX4.out 1 (.slice a4 ((rowsN p L k).length + 1) c4)
            have hXW := hXs.out.2
            refine ⟨⟨k + 1, .slice a4 ((rowsN p L k).length + 1) c4, by omega, by go_num, hB5, ?_, hK5.then (Kept.setCell (F := fun j => j = X) w4 (p := ⟨X, 1, none⟩) rfl _) (fun i _ h => h)⟩, by simp [intOf]; omega⟩
            rw [RE.out]
            exact hR5.kept (Kept.setCell (F := fun j => j = X) w4 (p := ⟨X, 1, none⟩) rfl _) (fun i hi _ hF => by omega)
    · have g2 : ¬ ((k : Int) < (N : Int)) := by omega
      obtain rfl : k = N := by omega
      have hrl := Lib.hid (show rowsN p L k = (L.filter (matchB p)).map (rowP p) by have h := rowsN_all HPB.out L; rw [HN.out] at h; exact h)
      have hAr := Lib.hid (blk_kept bAW.out HKP.out (by have := hXs.out; omega))
      have hvr := Lib.hid (reads_kept HRV.out HKP.out (fun g hg => by have := (HVL.out g hg).2; omega))
      obtain ⟨vs, hvs, _⟩ := HRO.out
      obtain ⟨qa, qc, hqe⟩ := owns_slice hvs
      subst hqe
      clear hvs
      have cX0 : W9.cell? ⟨X, 0, none⟩ = some (.slice va n vc) := by rw [blk_cell HBX.out]; rfl
      have cX1 : W9.cell? ⟨X, 1, none⟩ = some (.slice qa (rowsN p L k).length qc) := by rw [blk_cell HBX.out]; rfl
      go_wp2_with (refine whole_abs 56 (.tmp 4) (.tmp 53) ⟨rfl, rfl⟩ (w.heap.size + 1) #[.slice va n vc, .slice qa (rowsN p L k).length qc] (by kernel_rfl) (by kernel_rfl) 56 #[.slice none 0 0, .slice none 0 0] hAr.out (by kernel_rfl) rfl (by kernel_rfl) ?_; intro w2 hA2 hG2)
      have hsz := hXs.out
      have hkb : Below w.heap.size w W9 := hbW.out.trans ((HKP.out.below (B := w.heap.size) (by omega) (fun i hi => by omega)))
      have hkg : Kept (fun i => i = w.heap.size + 1) W9 w2 := Kept.of_grown hG2.out (fun g hg => by injection hg with hg; exact hg.symm)
      refine rmatch_ret _ _ (w.heap.size + 1) _ _ _ (by first | rfl | simp) hA2.out ⟨_, rfl, ⟨_, _, rfl, ?_, ?_⟩, hkb.grown hG2.out hkb.size (fun i hi => by injection hi with hi; omega)⟩
      · rw [HNV.out]
        exact reads_kept hvr.out hkg (fun g hg => by have := (HVL.out g hg).1; omega)
      · rw [← hrl.out]
        exact (HRO.out.kept hkg (fun i hi _ hF => by omega)).reads

end Go.Proofs.YtnojdchodmogbaaGreat
