/- A store and the document's list side by side: the statements' made. -/
import Derived.Test.YtnojdchodmogbaaGreatStoOf
import Derived.Test.YtnojdchodmogbaaGreatRefAdd
import Derived.Test.YtnojdchodmogbaaGreatRefOf
import Derived.Test.YtnojdchodmogbaaGreatRefVars2
namespace Go.Proofs.YtnojdchodmogbaaGreat
open Go.RowKit

def madeL (L : List TripL) : List TripL := ofL (L.take 60)
theorem madeL_length (L : List TripL) : (madeL L).length ≤ 60 := by
  have h := ofL_length (L.take 60)
  rw [List.length_take] at h
  unfold madeL; omega

/- a store with some triples, a list of them beside it -/
def Pair (w0 : World) (b : Nat) (R : List TripL) (v : Value) (wr : World) : Prop :=
  ∃ v0 v1 v2 l1 l2, Sto wr w0.heap.size b v0 v1 v2 R l1 l2 ∧ Reads wr v R.length (tripCells R) ∧ (∀ g, v.ownBlock = some g → ¬ Foot b v0 v1 v2 g) ∧ Below w0.heap.size w0 wr

theorem reads_block {w : World} {v : Value} {n : Nat} {xs : List Value} (h : Reads w v n xs) {g : Nat} (hg : v.ownBlock = some g) : g < w.heap.size := by
  rcases h with ⟨rfl, _⟩ | ⟨k, cap, rfl, hk, _⟩
  · cases hg
  · have hkg : k = g := by injection hg
    omega

theorem reads_on {w w' : World} {v : Value} {n : Nat} {xs : List Value} {B : Nat} (h : Reads w v n xs) (hb : Below B w w') (hB : w.heap.size ≤ B) : Reads w' v n xs := by
  rcases h with h0 | ⟨k, cap, rfl, hk, h1, h2, h3⟩
  · exact .inl h0
  · refine .inr ⟨k, cap, rfl, Nat.lt_of_lt_of_le hk hb.size, h1, h2, fun j u hj => ?_⟩
    exact keptB (h3 j u hj) hb (Nat.lt_of_lt_of_le hk hB)

/- one more for the store, then for the list -/
theorem pair_store {w0 wr w1 : World} {b n : Nat} {R R' : List TripL} {xs : List Value} {v v0 v1 v2 : Value} {l1 l2 : List TripL} (hs : Sto wr w0.heap.size b v0 v1 v2 R l1 l2) (hr : Reads wr v n xs) (hd : ∀ g, v.ownBlock = some g → ¬ Foot b v0 v1 v2 g) (hb : Below w0.heap.size w0 wr)
    (h : StP (Foot b v0 v1 v2) wr w0.heap.size b R' w1) :
    ∃ u0 u1 u2 m1 m2, Sto w1 w0.heap.size b u0 u1 u2 R' m1 m2 ∧ Reads w1 v n xs ∧ (∀ g, v.ownBlock = some g → ¬ Foot b u0 u1 u2 g) ∧ Below w0.heap.size w0 w1 := by
  obtain ⟨u0, u1, u2, m1, m2, hs1, hk, hf⟩ := h
  refine ⟨u0, u1, u2, m1, m2, hs1, reads_kept hr hk hd, fun g hg hF => ?_, hb.trans (hk.below hb.size (fun k hk => (sto_foot hs hk).1))⟩
  rcases hf g hF with h1 | ⟨h1, _⟩
  · exact hd g hg h1
  · have := reads_block hr hg; omega

theorem pair_list {w0 w1 w2 : World} {b : Nat} {R' : List TripL} {v v' u0 u1 u2 : Value} {m1 m2 : List TripL} (hs : Sto w1 w0.heap.size b u0 u1 u2 R' m1 m2) (hd : ∀ g, v.ownBlock = some g → ¬ Foot b u0 u1 u2 g) (hb : Below w0.heap.size w0 w1)
    (hr : Reads w2 v' R'.length (tripCells R')) (hf : Fresh w1 v v') (h : Below w1.heap.size w1 w2) : Pair w0 b R' v' w2 := by
  refine ⟨u0, u1, u2, m1, m2, sto_on hs h (Nat.le_refl _), hr, fun g hg hF => ?_, hb.trans (h.mono hb.size)⟩
  rcases hf with rfl | hz
  · exact hd g hg hF
  · have h1 := hz g hg
    have h2 := (sto_foot hs hF).2
    omega

def MadeT (L : List TripL) (w : World) (e : Ending) (w' : World) : Prop := ∃ b v, e = .returned (.tuple #[.pointer (some ⟨b, 0, none⟩), v]) ∧ Pair w b (madeL L) v w'
def MadeR (w : World) (L : List TripL) (b N : Nat) (v i : Value) (wr : World) : Prop := ∃ k : Nat, k ≤ N ∧ k ≤ 60 ∧ i = .int .i64 k ∧ Pair w b (ofL (L.take k)) v wr

set_option maxRecDepth 100000 in
set_option maxHeartbeats 4000000 in
theorem made_calls (L : List TripL) (v : Value) (w : World) (hv : ArgT w v L) (hok : ∀ t ∈ L, t.ok) :
    Calls Tryz.prog 22 #[v] w (MadeT L w) := by
  obtain ⟨fa, fc, rfl, hf⟩ := hv
  have HOK := Lib.hid hok
  obtain ⟨N, hN⟩ : ∃ N, L.length = N := ⟨_, rfl⟩
  have HF := Lib.hid (show 0 < N → ∃ g o, fa = some ⟨g, o, none⟩ ∧ g < w.heap.size ∧ ∀ j (h : j < L.length), CellsAt w g (o + j * 12) L[j] from fun h0 => hf (by rw [hN]; exact h0))
  clear hf
  rw [hN]
  have HN := Lib.hid hN
  clear hok hN
  go_enter Tryz.func22, Tryz.ntmps22
  go_wp2_with fail
  refine (new_calls _).mono ?_
  rintro e w1 ⟨rfl, rfl⟩
  obtain ⟨b, hb0⟩ : ∃ b, w.heap.size = b := ⟨_, rfl⟩
  have hs0 := sto_new w w.heap.size (Nat.le_refl _)
  have hb1 := box_below w (.cells #[.slice none 0 0, .slice none 0 0, .slice none 0 0] 70)
  obtain ⟨W1, hW1⟩ : ∃ W1, w.alloc (.cells #[.slice none 0 0, .slice none 0 0, .slice none 0 0] 70) = W1 := ⟨_, rfl⟩
  rw [hW1] at hs0 hb1 ⊢
  have HP0 : Hid (Pair w b [] (.slice (some ⟨W1.heap.size, 0, none⟩) 0 0) (W1.alloc (.cells #[] 29))) := by
    refine ⟨_, _, _, _, _, by rw [← hb0]; exact sto_on hs0 (box_below _ _) (Nat.le_refl _), reads_of (B := w.heap.size) (e := 29) (size := 12) ⟨rfl, .inr ⟨W1.heap.size, 0, #[], rfl, hb1.size, blk_new _ _ _, Nat.le_refl _, Nat.zero_le _, rfl, rfl⟩⟩, fun g hg hF => ?_, hb1.trans ((box_below _ _).mono hb1.size)⟩
    have hg2 : W1.heap.size = g := by injection hg
    rw [← hb0] at hF
    have := (sto_foot hs0 hF).2
    omega
  rw [hb0]
  clear hb1 hs0 hW1
  go_wp2
  go_loopw [5, 6] (fun v i wr => MadeR w L b N v i wr) (fun _ i _ => N - (intOf i).toNat)
  case atStart => exact ⟨0, Nat.zero_le _, by omega, rfl, HP0.out⟩
  case round =>
    clear HP0
    obtain ⟨k, hk, hk6, rfl, v0, v1, v2, l1, l2, hs, hr, hd, hbw⟩ := hrel
    have g1 : (0 : Int) ≤ (k : Int) := by omega
    by_cases hlt : k < N
    · have g2 : (k : Int) < (N : Int) := by omega
      by_cases h60 : k < 60
      · have g3 : (k : Int) < 60 := by omega
        have hkL : k < L.length := by rw [HN.out]; exact hlt
        obtain ⟨g, o, rfl, hg, hrow⟩ := HF.out (by omega)
        have hgr : g < wr.heap.size := Nat.lt_of_lt_of_le hg hbw.size
        have cm := Lib.hid (cellsAt_on (hrow k hkL) hbw hg)
        have cm0 := Lib.hid (hrow k hkL)
        clear hrow
        have hty := Lib.hid (HOK.out L[k] (List.getElem_mem hkL))
        have HT := Lib.hid (List.take_succ_eq_append_getElem hkL)
        generalize L[k] = y at cm cm0 hty HT
        have HM : Hid (addL (ofL (L.take k)) y = ofL (L.take (k + 1))) := by show _ = _; rw [HT.out, ofL_more]
        have hle := Lib.hid (show (ofL (L.take k)).length ≤ 4096 by have := ofL_length (L.take k); rw [List.length_take] at this; omega)
        have hko := Lib.hid (ofL_ok (l := L.take k) (fun t ht => HOK.out t (List.mem_of_mem_take ht)))
        have HS := Lib.hid hs
        have HR := Lib.hid hr
        have HD := Lib.hid hd
        have HB := Lib.hid hbw
        clear hs hr hd hbw
        obtain ⟨R, hR⟩ : ∃ R, ofL (L.take k) = R := ⟨_, rfl⟩
        rw [hR] at HS HR hle hko HM
        clear hR
        have hadd := Lib.hid (fun (W : World) (h : Sto W w.heap.size b v0 v1 v2 R l1 l2) => add_calls (Foot b v0 v1 v2) w.heap.size b v0 v1 v2 R l1 l2 y W h (fun i hi => hi) hty.out)
        have hrad := Lib.hid (fun (v : Value) (W : World) (h : Reads W v R.length (tripCells R)) => rAdd_calls R y v W h hle.out hty.out hko.out)
        obtain ⟨⟨c0, c1, c2, c3⟩, ⟨c4, c5, c6, c7⟩, ⟨c8, c9, c10, c11⟩⟩ := cm.out
        go_wp2_with fail
        refine (hadd.out _ HS.out).mono ?_
        rintro e w3 ⟨rfl, hstp⟩
        clear c0 c1 c2 c3 c4 c5 c6 c7 c8 c9 c10 c11
        obtain ⟨u0, u1, u2, m1, m2, hs3, hr3, hd3, hb3⟩ := pair_store HS.out HR.out HD.out HB.out hstp
        clear hstp
        have HS3 := Lib.hid hs3
        have HR3 := Lib.hid hr3
        have HD3 := Lib.hid hd3
        have HB3 := Lib.hid hb3
        have hgr3 : g < w3.heap.size := Nat.lt_of_lt_of_le hg hb3.size
        have cm3 := cellsAt_on cm0.out hb3 hg
        clear hs3 hr3 hd3 hb3
        obtain ⟨⟨c0, c1, c2, c3⟩, ⟨c4, c5, c6, c7⟩, ⟨c8, c9, c10, c11⟩⟩ := cm3
        generalize addB R y = D
        generalize addE R y = E
        go_wp2_with fail
        refine (hrad.out _ _ HR3.out).mono ?_
        rintro e w4 ⟨v', rfl, hr4, hf4, hb4⟩
        clear c0 c1 c2 c3 c4 c5 c6 c7 c8 c9 c10 c11
        have HP := Lib.hid (pair_list HS3.out HD3.out HB3.out hr4 hf4 hb4)
        rw [HM.out] at HP
        clear hr4 hf4 hb4
        generalize addB R y = D'
        generalize addE R y = E'
        go_wp2
        go_roundw
        case rel => exact ⟨k + 1, by omega, by omega, by go_num, HP.out⟩
        case measure => simp [intOf]; omega
      · have g3 : ¬ (k : Int) < 60 := by omega
        have hk60 : k = 60 := by omega
        have HP := Lib.hid (show Pair w b (madeL L) _ wr from ⟨v0, v1, v2, l1, l2, by unfold madeL; rw [← hk60]; exact hs, by unfold madeL; rw [← hk60]; exact hr, hd, hbw⟩)
        clear hs hr hd hbw
        go_wp2
        go_ret2
        exact ⟨_, _, rfl, HP.out⟩
    · have g2 : ¬ (k : Int) < (N : Int) := by omega
      have hkN : k = N := by omega
      have htk : L.take 60 = L.take k := by rw [List.take_of_length_le (by rw [HN.out]; omega), List.take_of_length_le (by rw [HN.out]; omega)]
      have HP := Lib.hid (show Pair w b (madeL L) _ wr from ⟨v0, v1, v2, l1, l2, by unfold madeL; rw [htk]; exact hs, by unfold madeL; rw [htk]; exact hr, hd, hbw⟩)
      clear hs hr hd hbw
      go_wp2
      go_ret2
      exact ⟨_, _, rfl, HP.out⟩

end Go.Proofs.YtnojdchodmogbaaGreat
