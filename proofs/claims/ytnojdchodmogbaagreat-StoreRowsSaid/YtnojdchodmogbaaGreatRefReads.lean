/- A slice that reads as given cells. Two lists of texts that are the same: the document's own answer tells so. -/
import Derived.Test.YtnojdchodmogbaaGreatTripVars
import Derived.Deep.QuietTactic
import Derived.BigQuiet
import Derived.Test.YtnojdchodmogbaaGreatTripPlains
import Derived.StillTailTactics
namespace Go.Proofs.YtnojdchodmogbaaGreat
open Go.RowKit

/- a slice of n elements that reads as the cells xs -/
def Reads (w : World) (v : Value) (n : Nat) (xs : List Value) : Prop :=
  (v = .slice none 0 0 ∧ n = 0) ∨ ∃ g cap, v = .slice (some ⟨g, 0, none⟩) n cap ∧ g < w.heap.size ∧ n ≤ cap ∧ cap ≤ maxLen ∧ ∀ j u, xs[j]? = some u → w.cell? ⟨g, j, none⟩ = some u
theorem reads_of {w : World} {B size : Nat} {e : TypeId} {v : Value} {n : Nat} {xs : List Value} (h : w.ownsRow B e size v n xs) : Reads w v n xs := by
  rcases h.2 with h0 | ⟨g, cap, cur, hv, hg, hh, hn, hm, _⟩
  · exact .inl h0
  · refine .inr ⟨g, cap, hv, (Array.getElem?_eq_some_iff.1 hh).1, hn, hm, fun j u hj => ?_⟩
    have := h.cells (g := g) (by rw [hv]; rfl) j u hj
    cases j with
    | zero => simpa [Addr.add] using this
    | succ j => simpa [Addr.add] using this
theorem Reads.on {w w' : World} {v : Value} {n : Nat} {xs : List Value} (h : Reads w v n xs) (hb : Below w.heap.size w w') : Reads w' v n xs := by
  rcases h with h0 | ⟨g, cap, hv, hg, hn, hm, hc⟩
  · exact .inl h0
  · exact .inr ⟨g, cap, hv, Nat.lt_of_lt_of_le hg hb.size, hn, hm, fun j u hj => by rw [hb.cell (p := ⟨g, j, none⟩) hg]; exact hc j u hj⟩

end Go.Proofs.YtnojdchodmogbaaGreat

namespace Go.Proofs.YtnojdchodmogbaaGreat
open Go.RowKit

theorem reads_len {w : World} {v : Value} {n : Nat} {xs : List Value} (h : Reads w v n xs) : n ≤ maxLen := by
  rcases h with ⟨_, rfl⟩ | ⟨g, cap, _, _, hn, hm, _⟩
  · exact Nat.zero_le _
  · omega

/- what is known of a slice of texts, read -/
theorem texts_cell {w : World} {g : Nat} {L : List (List UInt8)} (h : ∀ j u, (textCells L)[j]? = some u → w.cell? ⟨g, j, none⟩ = some u) (j : Nat) (hj : j < L.length) : w.cell? ⟨g, j, none⟩ = some (.string (bs L[j])) :=
  h j _ (by simp [textCells, hj])

set_option maxHeartbeats 1000000 in
theorem SameTexts_calls (L : List (List UInt8)) (a b : Value) (w : World) (hl : L.length ≤ 3) (ha : Reads w a L.length (textCells L)) (hb : Reads w b L.length (textCells L)) :
    Calls Tryz.prog 50 #[a, b] w fun e w' => e = .returned (.bool true) ∧ ∃ n, w' = w.drewN n := by
  obtain ⟨N, hN⟩ : ∃ N, L.length = N := ⟨_, rfl⟩
  have hcases : (N = 0 ∧ ∃ x y, a = .slice x 0 y ∧ ∃ x y, b = .slice x 0 y) ∨ ∃ g cap g' cap', a = .slice (some ⟨g, 0, none⟩) N cap ∧ b = .slice (some ⟨g', 0, none⟩) N cap' ∧ N ≤ cap ∧ N ≤ cap' ∧
      (∀ j (h : j < L.length), w.cell? ⟨g, j, none⟩ = some (.string (bs L[j]))) ∧ (∀ j (h : j < L.length), w.cell? ⟨g', j, none⟩ = some (.string (bs L[j]))) := by
    rw [hN] at ha hb
    rcases ha with ⟨rfl, h0⟩ | ⟨g, cap, rfl, _, hn, hm, hc⟩
    · left; refine ⟨h0, none, 0, rfl, ?_⟩
      rcases hb with ⟨rfl, _⟩ | ⟨g, cap, rfl, _, hn, hm, hc⟩
      · exact ⟨none, 0, rfl⟩
      · exact ⟨_, cap, by rw [h0]⟩
    · rcases hb with ⟨rfl, h0⟩ | ⟨g', cap', rfl, _, hn', hm', hc'⟩
      · left; exact ⟨h0, _, cap, by rw [h0], none, 0, rfl⟩
      · right; exact ⟨g, cap, g', cap', rfl, rfl, hn, hn', fun j h => texts_cell hc j h, fun j h => texts_cell hc' j h⟩
  clear ha hb
  rcases hcases with ⟨h0, x, y, rfl, x', y', rfl⟩ | ⟨g, cap, g', cap', rfl, rfl, hn, hn', hc, hc'⟩
  · go_enter Tryz.func50, Tryz.ntmps50
    go_wp2
    go_loop [5] (fun i => i = .int .i64 0) (fun _ => 0)
    case atStart => rfl
    case round =>
      subst hrel
      go_wp2
      go_ret
      exact ⟨rfl, 0, rfl⟩
  · rw [hN] at hl
    have HN := Lib.hid hN
    have HC := Lib.hid hc
    have HC' := Lib.hid hc'
    clear hN hc hc'
    go_enter Tryz.func50, Tryz.ntmps50
    go_wp2
    go_loopw [5] (fun i wr => ∃ k n : Nat, k ≤ N ∧ i = .int .i64 k ∧ wr = w.drewN n) (fun i _ => N - (intOf i).toNat)
    case atStart => exact ⟨0, 0, Nat.zero_le _, rfl, rfl⟩
    case round =>
      obtain ⟨k, n, hk, rfl, rfl⟩ := hrel
      by_cases hlt : k < N
      · have hlt' : k < L.length := by rw [HN.out]; exact hlt
        have hc := HC.out k hlt'
        have hc' := HC'.out k hlt'
        obtain ⟨y, hy⟩ : ∃ y, L[k] = y := ⟨_, rfl⟩
        rw [hy] at hc hc'
        clear hy
        have g1 : (0 : Int) ≤ (k : Int) := by omega
        have g2 : (k : Int) < (N : Int) := by omega
        go_wp2
        go_quiet (fail)
        go_wp2
        exact ⟨⟨k + 1, _, by omega, by go_num, rfl⟩, by simp [intOf]; omega⟩
      · go_wp2
        go_ret
        exact ⟨rfl, n, rfl⟩

theorem tripCells_at : ∀ (L : List TripL) (k : Nat) (hk : k < L.length) (i : Nat), i < 12 → (tripCells L)[k * 12 + i]? = L[k].cells[i]?
  | [], k, hk, _, _ => absurd hk (Nat.not_lt_zero _)
  | t :: L, 0, _, i, hi => by
    show (t.cells ++ tripCells L)[0 * 12 + i]? = _
    rw [List.getElem?_append_left (by rw [TripL.cells_length]; omega), Nat.zero_mul, Nat.zero_add]; rfl
  | t :: L, k + 1, hk, i, hi => by
    show (t.cells ++ tripCells L)[(k + 1) * 12 + i]? = _
    rw [List.getElem?_append_right (by rw [TripL.cells_length]; omega), TripL.cells_length, show (k + 1) * 12 + i - 12 = k * 12 + i by omega, tripCells_at L k (by simpa using hk) i hi]
    simp

/- a triple's cells at a place of a slice of triples -/
def Cells12 (w : World) (g k : Nat) (t : TripL) : Prop :=
  (w.cell? ⟨g, k * 12, none⟩ = some (.int .i64 t.s.k) ∧ w.cell? ⟨g, k * 12 + 1, none⟩ = some (.string (bs t.s.x)) ∧ w.cell? ⟨g, k * 12 + 2, none⟩ = some (.string (bs t.s.y)) ∧ w.cell? ⟨g, k * 12 + 3, none⟩ = some (.string (bs t.s.z))) ∧
  (w.cell? ⟨g, k * 12 + 4, none⟩ = some (.int .i64 t.p.k) ∧ w.cell? ⟨g, k * 12 + 5, none⟩ = some (.string (bs t.p.x)) ∧ w.cell? ⟨g, k * 12 + 6, none⟩ = some (.string (bs t.p.y)) ∧ w.cell? ⟨g, k * 12 + 7, none⟩ = some (.string (bs t.p.z))) ∧
  (w.cell? ⟨g, k * 12 + 8, none⟩ = some (.int .i64 t.o.k) ∧ w.cell? ⟨g, k * 12 + 9, none⟩ = some (.string (bs t.o.x)) ∧ w.cell? ⟨g, k * 12 + 10, none⟩ = some (.string (bs t.o.y)) ∧ w.cell? ⟨g, k * 12 + 11, none⟩ = some (.string (bs t.o.z)))
theorem trips_cell {w : World} {g : Nat} {L : List TripL} (h : ∀ j u, (tripCells L)[j]? = some u → w.cell? ⟨g, j, none⟩ = some u) (k : Nat) (hk : k < L.length) : Cells12 w g k L[k] := by
  have e := tripCells_at L k hk
  exact ⟨⟨h _ _ (e 0 (by omega)), h _ _ (e 1 (by omega)), h _ _ (e 2 (by omega)), h _ _ (e 3 (by omega))⟩, ⟨h _ _ (e 4 (by omega)), h _ _ (e 5 (by omega)), h _ _ (e 6 (by omega)), h _ _ (e 7 (by omega))⟩, ⟨h _ _ (e 8 (by omega)), h _ _ (e 9 (by omega)), h _ _ (e 10 (by omega)), h _ _ (e 11 (by omega))⟩⟩

end Go.Proofs.YtnojdchodmogbaaGreat
