/- What reads as a table; are two rows, two tables the same? The document's own answers of what is the same. -/
import Derived.Test.YtnojdchodmogbaaGreatStoRows
import Derived.Test.YtnojdchodmogbaaGreatRefFits
import Derived.Test.YtnojdchodmogbaaGreatRefReads
import Derived.Test.YtnojdchodmogbaaGreatRefVars
namespace Go.Proofs.YtnojdchodmogbaaGreat
open Go.RowKit

def RowsAt (w : World) (G : Nat) (R : List (List TermL)) : Prop := ∀ j (h : j < R.length), ∃ rv, w.cell? ⟨G, j, none⟩ = some rv ∧ Reads w rv R[j].length (cellsT R[j])
def RowsV (w : World) (v : Value) (R : List (List TermL)) : Prop := ∃ a c, v = .slice a R.length c ∧ (0 < R.length → ∃ G, a = some ⟨G, 0, none⟩ ∧ G < w.heap.size ∧ R.length ≤ c ∧ RowsAt w G R)
def TabV (w : World) (tv : Value) (V : List (List UInt8)) (R : List (List TermL)) : Prop := ∃ vv rv, tv = .agg #[vv, rv] ∧ Reads w vv V.length (textCells V) ∧ RowsV w rv R

theorem readsOn {w w' : World} {v : Value} {n : Nat} {xs : List Value} {B : Nat} (h : Reads w v n xs) (hb : Below B w w') (hB : w.heap.size ≤ B) : Reads w' v n xs := by
  rcases h with h0 | ⟨k, cap, rfl, hk, h1, h2, h3⟩
  · exact .inl h0
  · refine .inr ⟨k, cap, rfl, Nat.lt_of_lt_of_le hk hb.size, h1, h2, fun j u hj => ?_⟩
    exact keptC (h3 j u hj) hb (Nat.lt_of_lt_of_le hk hB)
theorem RowsV.on {w w' : World} {v : Value} {R : List (List TermL)} {B : Nat} (h : RowsV w v R) (hb : Below B w w') (hB : w.heap.size ≤ B) : RowsV w' v R := by
  obtain ⟨a, c, rfl, h⟩ := h
  refine ⟨a, c, rfl, fun h0 => ?_⟩
  obtain ⟨G, rfl, hG, hc, hr⟩ := h h0
  refine ⟨G, rfl, Nat.lt_of_lt_of_le hG hb.size, hc, fun j hj => ?_⟩
  obtain ⟨rv, h1, h2⟩ := hr j hj
  exact ⟨rv, keptC h1 hb (Nat.lt_of_lt_of_le hG hB), readsOn h2 hb hB⟩
theorem TabV.on {w w' : World} {v : Value} {V : List (List UInt8)} {R : List (List TermL)} {B : Nat} (h : TabV w v V R) (hb : Below B w w') (hB : w.heap.size ≤ B) : TabV w' v V R := by
  obtain ⟨vv, rv, rfl, h1, h2⟩ := h
  exact ⟨vv, rv, rfl, readsOn h1 hb hB, h2.on hb hB⟩

/- what Match told, read -/
theorem tab_reads {w : World} {B : Nat} {tv : Value} {p : TripL} {M : List TripL} (hp : patB p = true) (h : TableT w B tv p M) : TabV w tv (varsL p) (M.map (rowP p)) := by
  obtain ⟨vv, G, rfl, hV, hG, gs, hl, hB, hr⟩ := h
  refine ⟨vv, _, rfl, reads_of hV, some ⟨G, 0, none⟩, M.length, by simp, fun h0 => ⟨G, rfl, blk_lt hB, by simp, fun j hj => ?_⟩⟩
  have hj' : j < M.length := by simpa using hj
  have hjg : j < gs.length := by omega
  obtain ⟨_, t, ht, hg⟩ := hr j gs[j] (List.getElem?_eq_getElem hjg)
  have et : M[j] = t := by rw [List.getElem?_eq_getElem hj'] at ht; injection ht
  have hn : (rowP p t).length = (varsL p).length := by unfold rowP; rw [List.length_map, fp_vars hp]
  have h3 := varsL_length p
  refine ⟨rowV (varsL p).length gs[j], ?_, ?_⟩
  · rw [blk_cell hB]
    simp [hjg]
  · rw [List.getElem_map, et, hn]
    refine .inr ⟨gs[j], (varsL p).length, rfl, blk_lt hg, Nat.le_refl _, by unfold maxLen; omega, fun i u hi => ?_⟩
    rw [blk_cell hg]
    simpa using hi

theorem terms_cell {w : World} {g : Nat} {L : List TermL} (h : ∀ j u, (cellsT L)[j]? = some u → w.cell? ⟨g, j, none⟩ = some u) (k : Nat) (hk : k < L.length) :
    w.cell? ⟨g, k * 4, none⟩ = some (.int .i64 L[k].k) ∧ w.cell? ⟨g, k * 4 + 1, none⟩ = some (.string (bs L[k].x)) ∧ w.cell? ⟨g, k * 4 + 2, none⟩ = some (.string (bs L[k].y)) ∧ w.cell? ⟨g, k * 4 + 3, none⟩ = some (.string (bs L[k].z)) := by
  have e := cellsT_at L k hk
  exact ⟨h _ _ (e 0 (by omega)), h _ _ (e 1 (by omega)), h _ _ (e 2 (by omega)), h _ _ (e 3 (by omega))⟩
theorem reads_terms {w : World} {v : Value} {L : List TermL} (h : Reads w v L.length (cellsT L)) : ∃ a c, v = .slice a L.length c ∧ (0 < L.length → ∃ g, a = some ⟨g, 0, none⟩ ∧ g < w.heap.size ∧ L.length ≤ c ∧ ∀ j u, (cellsT L)[j]? = some u → w.cell? ⟨g, j, none⟩ = some u) := by
  rcases h with ⟨rfl, h0⟩ | ⟨g, cap, rfl, hg, hc, hm, hr⟩
  · exact ⟨_, _, by rw [h0], fun h => absurd h (by omega)⟩
  · exact ⟨_, _, rfl, fun _ => ⟨g, rfl, hg, hc, hr⟩⟩

set_option maxRecDepth 100000 in
set_option maxHeartbeats 2000000 in
theorem sameRow_calls (L : List TermL) (a b : Value) (w : World) (hl : L.length ≤ 1000000) (ha : Reads w a L.length (cellsT L)) (hb : Reads w b L.length (cellsT L)) :
    Calls Tryz.prog 51 #[a, b] w fun e w' => e = .returned (.bool true) ∧ ∃ n, w' = w.drewN n := by
  obtain ⟨fa, ca, rfl, ha2⟩ := reads_terms ha
  obtain ⟨fb, cb, rfl, hb2⟩ := reads_terms hb
  have HA := Lib.hid ha2
  have HB := Lib.hid hb2
  obtain ⟨N, hN⟩ : ∃ N, L.length = N := ⟨_, rfl⟩
  rw [hN] at hl
  have HN := Lib.hid hN
  rw [hN]
  clear ha hb ha2 hb2 hN
  go_enter Tryz.func51, Tryz.ntmps51
  go_wp2
  go_loopw [5] (fun i wr => ∃ k n : Nat, k ≤ N ∧ i = .int .i64 k ∧ wr = w.drewN n) (fun i _ => N - (intOf i).toNat)
  case atStart => exact ⟨0, 0, Nat.zero_le _, rfl, rfl⟩
  case round =>
    obtain ⟨k, n, hk, rfl, rfl⟩ := hrel
    by_cases hlt : k < N
    · have hlt' : k < L.length := by rw [HN.out]; exact hlt
      obtain ⟨g, rfl, _, hc, hr⟩ := HA.out (by omega)
      obtain ⟨g', rfl, _, hc', hr'⟩ := HB.out (by omega)
      obtain ⟨c0, c1, c2, c3⟩ := terms_cell hr k hlt'
      obtain ⟨d0, d1, d2, d3⟩ := terms_cell hr' k hlt'
      have heq := fun W => neql_term_at L[k] L[k] W
      rw [show decide (L[k] ≠ L[k]) = false from by simp] at heq
      generalize L[k] = t at c0 c1 c2 c3 d0 d1 d2 d3 heq
      clear hr hr'
      rw [HN.out] at hc hc'
      have g1 : (0 : Int) ≤ (k : Int) := by omega
      have g2 : (k : Int) < (N : Int) := by omega
      go_wp2
      go_quiet (fail)
      go_wp2
      exact ⟨⟨k + 1, _, by omega, by go_num, rfl⟩, by simp [intOf]; omega⟩
    · have g3 : ¬ ((k : Int) < (N : Int)) := by omega
      go_wp2
      go_ret
      exact ⟨rfl, n, rfl⟩

end Go.Proofs.YtnojdchodmogbaaGreat
