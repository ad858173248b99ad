/- Some columns of a table's rows: the document's Project (written by gen/mkrproj12.py). -/
import Derived.Test.YtdnfaoanaehjhaaGreatDoorShpRefCopy
import Derived.Test.YtdnfaoanaehjhaaGreatDoorH15
namespace Go.Proofs.YtdnfaoanaehjhaaGreatDoor
open Go.RowKit Go.Maps

theorem proj_take {V U : List (List UInt8)} {S : List RowL} {i : Nat} (hi : i < S.length) : (projP V U S).take i ++ [projR V U S[i]] = (projP V U S).take (i + 1) := by
  unfold projP
  rw [← List.map_take, ← List.map_take, List.take_succ_eq_append_getElem hi, List.map_append]
  rfl
theorem row_take {U V : List (List UInt8)} {y : RowL} {k : Nat} (hk : k < U.length) : (projR U V y).take k ++ [boundP V y U[k]] = (projR U V y).take (k + 1) := by
  unfold projR
  rw [← List.map_take, ← List.map_take, List.take_succ_eq_append_getElem hk, List.map_append]
  rfl
theorem newsOne {w : World} {b : Nat} {T : TypeId} {v : Value} (h : Blk w b T #[v]) : 0 < 1 → ∃ ad, some (⟨b, 0, none⟩ : Addr) = some ad ∧ ∀ j u, [v][j]? = some u → w.cell? (ad.add j) = some u := fun _ => ⟨_, rfl, fun j u hu => by
  cases j with
  | zero => injection hu with hu; subst hu; rw [add_at, blk_cell h]; rfl
  | succ j => simp at hu⟩
theorem oneCell1 {a : Option Addr} {n c : Nat} : ∀ u ∈ [Value.slice a n c], u.oneCell' = true := fun u hu => by rw [List.mem_singleton] at hu; subst hu; rfl
/- terms in a row of one's own, in blocks from N on; below them all is as it was in Wp -/
structure InT (Wp : World) (N : Nat) (rv : Value) (L : List TermL) (wr : World) : Prop where
  own : wr.ownsRow N 37 4 rv L.length (cellsT L)
  below : Below N Wp wr
  size : N ≤ wr.heap.size

set_option maxRecDepth 100000 in
set_option maxHeartbeats 8000000 in
theorem rProject_calls (V U : List (List UInt8)) (R : List RowL) (hu40 : U.length ≤ 40) (tv : Value) (ua : Option Addr) (un uc : Nat) (w : World) (ht : TabA w tv V R) (hU : TxtA w ua un uc U) (h40 : R.length ≤ 40) :
    Calls Tryz.prog 46 #[tv, .slice ua un uc] w fun e w' => ∃ uv, e = .returned uv ∧ TabA w' uv U (projP U V R) ∧ Below w.heap.size w w' := by
  obtain ⟨i0, hi, hz0, hz1, hz2⟩ := info_parts info_row
  obtain ⟨j0, hj, hj0, hj1, hj2⟩ := info_parts info_term
  obtain ⟨va, n, vc, ra, m, rc, rfl, hV, hR⟩ := ht
  have HVA := Lib.hid hV
  have HR := Lib.hid hR
  have HUA := Lib.hid hU
  have HRL := Lib.hid hR.len
  have HUL := Lib.hid hU.len
  have HPL := Lib.hid ((proj_len U V R).1.trans hR.len)
  have hm40 : m ≤ 40 := by rw [← hR.len]; exact h40
  have hun : un ≤ 40 := by rw [← hU.len]; exact hu40
  have HUC := Lib.hid (And.intro hU.cap hU.most)
  obtain ⟨A, hA⟩ : ∃ A, w.heap.size = A := ⟨_, rfl⟩
  have HAE := Lib.hid hA
  obtain ⟨w0, hw0⟩ : ∃ w0, ((w.alloc (.cells #[.slice va n vc, .slice ra m rc] 25)).alloc (.cells #[.slice none 0 0, .slice none 0 0] 25)).alloc (.cells #[.slice ua un uc, .slice none 0 0] 25) = w0 := ⟨_, rfl⟩
  have HW0 := Lib.hid hw0
  have HBW0 := Lib.hid (show Below w.heap.size w w0 by rw [← hw0]; exact fb2 (two_alloc _ _ _) (box_below _ _) (Nat.le_refl _))
  have HAW0 := Lib.hid (show Blk w0 A 25 #[.slice va n vc, .slice ra m rc] by rw [← hw0, ← hA]; exact blk_alloc (blk_alloc (blk_new _ _ _) _) _)
  have HEW0 := Lib.hid (show Blk w0 (A + 1) 25 #[.slice none 0 0, .slice none 0 0] by
    rw [← hw0]
    refine blk_alloc ?_ _
    have := blk_new (w.alloc (.cells #[.slice va n vc, .slice ra m rc] 25)) 25 #[.slice none 0 0, .slice none 0 0]
    rw [World.size_alloc, hA] at this
    exact this)
  obtain ⟨X, hX⟩ : ∃ X, A + 1 + 1 = X := ⟨_, rfl⟩
  have HAX := Lib.hid (show A + 1 < X by omega)
  have HLE := Lib.hid (show w.heap.size ≤ X by omega)
  have HS0 := Lib.hid (show CpyR X w0 (.slice ua un uc) (.slice none 0 0) ((projP U V R).take 0) w0 from by
    have hb : Blk w0 X 25 #[.slice ua un uc, .slice none 0 0] := by
      rw [← hw0, ← hX]
      have := blk_new ((w.alloc (.cells #[.slice va n vc, .slice ra m rc] 25)).alloc (.cells #[.slice none 0 0, .slice none 0 0] 25)) 25 #[.slice ua un uc, .slice none 0 0]
      rw [World.size_alloc, World.size_alloc, hA] at this
      exact this
    exact ⟨hb, ⟨[], by rw [List.take_zero]; exact World.ownsRow_nil _ _ _ _, by rw [List.take_zero]; exact rowCK_nil _ _⟩, Below.refl _ _, by have := blk_lt hb; omega⟩)
  clear hA h40 hu40 hV hR hU hw0
  go_enter Tryz.func46, Tryz.ntmps46
  go_wp2
  rw [HW0.out, HAE.out, hX]
  clear hX
  go_loopg [6, 7, 8] m (fun g i _ _ wr => ∃ (i' : Nat) (v : Value), i = .int .i64 i' ∧ i' + g = m ∧ Hid (CpyR X w0 (.slice ua un uc) v ((projP U V R).take i') wr))
  case atStart => exact ⟨0, _, rfl, by omega, HS0⟩
  case round =>
    obtain ⟨W1, rfl⟩ : ∃ W1, W1 = wr := ⟨_, rfl⟩
    obtain ⟨i, v, rfl, hig, HRD⟩ := hrel
    have HBW := Lib.hid (HBW0.out.trans (HRD.out.below.mono HLE.out))
    have HA1 := Lib.hid (blk_on HAW0.out HRD.out.below (by have := HAX.out; omega))
    have q1 : W1.cell? ⟨A, 1, none⟩ = some (.slice ra m rc) := (blk_cell HA1.out 1).trans rfl
    have k0 : (0 : Int) ≤ (i : Int) := by omega
    by_cases him : i < m
    · obtain ⟨g1, rfl⟩ : ∃ g1, gk = g1 + 1 := ⟨gk - 1, by omega⟩
      have hiL : i < R.length := by rw [HRL.out]; exact him
      obtain ⟨g, o, rfl, hgw, hcells⟩ := HR.out.cells (by omega)
      obtain ⟨a', c', hcell, htrm⟩ := hcells i hiL
      have htk := proj_take (V := U) (U := V) hiL
      have HTK := Lib.hid htk
      have HTW := Lib.hid htrm
      generalize R[i] = y at hcell HTW HTK
      clear htrm htk
      generalize hyn : y.length = yn at hcell HTW
      have HCL := Lib.hid hcell
      have HGW := Lib.hid hgw
      have HL1 := Lib.hid (show ((projP U V R).take i).length = i by rw [List.length_take, HPL.out]; omega)
      have HPY := Lib.hid (show (projR U V y).length = un by unfold projR; rw [List.length_map, HUL.out])
      have HSX := Lib.hid HRD.out.size
      obtain ⟨N, hN⟩ : ∃ N, W1.heap.size = N := ⟨_, rfl⟩
      have HNE := Lib.hid hN
      obtain ⟨W9, hW9⟩ : ∃ W9, W1.alloc (.cells #[] 37) = W9 := ⟨_, rfl⟩
      have HW9 := Lib.hid hW9
      have HI0 := Lib.hid (show InT W1 N (.slice (some ⟨N, 0, none⟩) 0 0) ((projR U V y).take 0) W9 from by
        rw [List.take_zero]
        refine ⟨?_, by rw [← hW9]; exact (box_below W1 _).mono (by rw [hN]; exact Nat.le_refl _), by rw [← hW9]; simp; omega⟩
        have := World.ownsRow_lit (base := N) (e := 37) (size := 4) W1 #[] 0 (by rw [hN]; exact Nat.le_refl _) (by unfold maxLen; omega) rfl
        rw [hW9, hN] at this
        exact this)
      have k1 : (i : Int) < (m : Int) := by omega
      clear hcells hcell hyn hiL hgw hN hW9
      go_wp2
      rw [HW9.out, HNE.out]
      clear q1
      go_loopg [7, 8] un (fun g rv k wr => ∃ k' : Nat, k = .int .i64 k' ∧ k' + g = un ∧ Hid (InT W1 N rv ((projR U V y).take k') wr))
      case atStart => exact ⟨0, rfl, by omega, HI0⟩
      case round =>
        obtain ⟨W2, rfl⟩ : ∃ W2, W2 = wr := ⟨_, rfl⟩
        obtain ⟨k, rfl, hkg, HIN⟩ := hrel
        have HB12 := Lib.hid (show Below W1.heap.size W1 W2 from HIN.out.below.mono (by rw [HNE.out]; exact Nat.le_refl _))
        have HBW2 := Lib.hid (fb2 HBW.out HB12.out (Nat.le_refl _))
        have j0' : (0 : Int) ≤ (k : Int) := by omega
        obtain ⟨rv, hrv⟩ : ∃ rv, u7 = rv := ⟨_, rfl⟩
        subst hrv
        by_cases hkn : k < un
        · obtain ⟨hh, rfl⟩ : ∃ hh, gk = hh + 1 := ⟨gk - 1, by omega⟩
          have hkU : k < U.length := by rw [HUL.out]; exact hkn
          have hnx := row_take (V := V) (y := y) hkU
          have HNX := Lib.hid hnx
          obtain ⟨g4, o4, rfl, hg4, hc4⟩ := HUA.out.cells (by omega)
          have hc := hc4 k hkU
          have HLK := Lib.hid (show ((projR U V y).take k).length = k by rw [List.length_take, HPY.out]; omega)
          have hown := HIN.out.own
          rw [HLK.out] at hown
          have HOW := Lib.hid hown
          have HOB : Hid (∀ e, Value.ownBlock u7 = some e → N ≤ e) := Lib.hid (fun e he => (hown.lt e he).1)
          generalize U[k] = x at hc HNX
          have HTY := Lib.hid ((HTW.out.on HBW.out).on HB12.out)
          have HSZ := Lib.hid HIN.out.size
          have HSA := Lib.hid (show W2.cell? ⟨g4, o4 + k, none⟩ = some (.string (bs x)) ∧ W2.cell? ⟨A, 0, none⟩ = some (.slice va n vc) ∧ W2.cell? ⟨A, 1, none⟩ = some (.slice (some ⟨g, o, none⟩) m rc) ∧ W2.cell? ⟨g, o + i, none⟩ = some (.slice a' yn c') from
            ⟨keptC hc HBW2.out hg4, (blk_cell (blk_on HA1.out HB12.out (blk_lt HA1.out)) 0).trans rfl, (blk_cell (blk_on HA1.out HB12.out (blk_lt HA1.out)) 1).trans rfl, keptC HCL.out HBW2.out HGW.out⟩)
          have HSL := Lib.hid (show g4 < W2.heap.size ∧ A < W2.heap.size ∧ g < W2.heap.size from ⟨Nat.lt_of_lt_of_le hg4 HBW2.out.size, by have h1 := HAX.out; have h2 := HSX.out; have h3 := HB12.out.size; omega, Nat.lt_of_lt_of_le HGW.out HBW2.out.size⟩)
          have HSN := Lib.hid (show g4 < N ∧ A < N ∧ g < N from ⟨by have h1 := HNE.out; have h2 := HBW.out.size; omega, by have h1 := HAX.out; have h2 := HSX.out; have h3 := HNE.out; omega, by have h0 := HGW.out; have h1 := HNE.out; have h2 := HBW.out.size; omega⟩)
          have c1 := HUC.out.1
          have c2 := HUC.out.2
          unfold maxLen at c2
          have j1' : (k : Int) < (un : Int) := by omega
          clear hc4 hc hnx hown hg4 hkU
          go_wp2_with fail
          refine wp_region_held_drew (S := (fun W => W.cell? ⟨g4, o4 + k, none⟩ = some (.string (bs x)) ∧ W.cell? ⟨A, 0, none⟩ = some (.slice va n vc) ∧ W.cell? ⟨A, 1, none⟩ = some (.slice (some ⟨g, o, none⟩) m rc) ∧ W.cell? ⟨g, o + i, none⟩ = some (.slice a' yn c'))) (by kernel_rfl) ?_ (fun hHeld => ?_)
          · (try dsimp only); exact HSA.out
          obtain ⟨Wd, hWd⟩ : ∃ Wd, W2.drew = Wd := ⟨_, rfl⟩
          rw [hWd] at hHeld ⊢
          have HBD := Lib.hid (show Below W2.heap.size W2 Wd by rw [← hWd]; exact (Below.refl _ _).drew)
          clear hWd
          refine wpAnyH_take (i := 0) (oi := ⟨some 25, _, _, _, _, _⟩) (v := ?_) rfl (by kernel_rfl) (by kernel_rfl) (by kernel_rfl) (fun _ _ _ h => h) (Or.inl ⟨by kernel_rfl, ?_⟩) (by assumption) ?_
          rotate_left
          · (intro ww hSw; (try dsimp only at hSw); go_simp); (try with_reducible rfl)
          (try simp only [Act.put, List.setIfInBounds_toArray, List.set_cons_zero, List.set_cons_succ])
          refine wpAnyH_take (i := 1) (oi := ⟨some 26, _, _, _, _, _⟩) (v := ?_) rfl (by kernel_rfl) (by kernel_rfl) (by kernel_rfl) (fun _ _ _ h => h) (Or.inl ⟨by kernel_rfl, ?_⟩) (by assumption) ?_
          rotate_left
          · (intro ww hSw; (try dsimp only at hSw); go_simp); (try with_reducible rfl)
          (try simp only [Act.put, List.setIfInBounds_toArray, List.set_cons_zero, List.set_cons_succ])
          refine wpAnyH_take (i := 2) (oi := ⟨some 27, _, _, _, _, _⟩) (v := ?_) rfl (by kernel_rfl) (by kernel_rfl) (by kernel_rfl) (fun _ _ _ h => h) (Or.inl ⟨by kernel_rfl, ?_⟩) (by assumption) ?_
          rotate_left
          · (intro ww hSw; (try dsimp only at hSw); go_simp); (try with_reducible rfl)
          (try simp only [Act.put, List.setIfInBounds_toArray, List.set_cons_zero, List.set_cons_succ])
          refine wpAnyH_take (i := 3) (oi := ⟨some 28, _, _, _, _, _⟩) (v := ?_) rfl (by kernel_rfl) (by kernel_rfl) (by kernel_rfl) (fun _ _ _ h => h) (Or.inl ⟨by kernel_rfl, ?_⟩) (by assumption) ?_
          rotate_left
          · (intro ww hSw; (try dsimp only at hSw); go_simp); (try with_reducible rfl)
          (try simp only [Act.put, List.setIfInBounds_toArray, List.set_cons_zero, List.set_cons_succ])
          refine wpAnyH_take (i := 4) (oi := ⟨some 29, _, _, _, _, _⟩) (v := ?_) rfl (by kernel_rfl) (by kernel_rfl) (by kernel_rfl) (fun _ _ _ h => h) (Or.inl ⟨by kernel_rfl, ?_⟩) (by assumption) ?_
          rotate_left
          · (intro ww hSw; (try dsimp only at hSw); obtain ⟨d1, _⟩ := hSw; go_simp); (try with_reducible rfl)
          (try simp only [Act.put, List.setIfInBounds_toArray, List.set_cons_zero, List.set_cons_succ])
          refine wpAnyH_take (i := 5) (oi := ⟨some 30, _, _, _, _, _⟩) (v := ?_) rfl (by kernel_rfl) (by kernel_rfl) (by kernel_rfl) (fun _ _ _ h => h) (Or.inl ⟨by kernel_rfl, ?_⟩) (by assumption) ?_
          rotate_left
          · (intro ww hSw; (try dsimp only at hSw); go_simp); (try with_reducible rfl)
          (try simp only [Act.put, List.setIfInBounds_toArray, List.set_cons_zero, List.set_cons_succ])
          refine wpAnyH_take (i := 6) (oi := ⟨some 31, _, _, _, _, _⟩) (v := ?_) rfl (by kernel_rfl) (by kernel_rfl) (by kernel_rfl) (fun _ _ _ h => h) (Or.inl ⟨by kernel_rfl, ?_⟩) (by assumption) ?_
          rotate_left
          · (intro ww hSw; (try dsimp only at hSw); obtain ⟨_, d1, _⟩ := hSw; go_simp); (try with_reducible rfl)
          (try simp only [Act.put, List.setIfInBounds_toArray, List.set_cons_zero, List.set_cons_succ])
          refine wpAnyH_take (i := 7) (oi := ⟨some 32, _, _, _, _, _⟩) (v := ?_) rfl (by kernel_rfl) (by kernel_rfl) (by kernel_rfl) (fun _ _ _ h => h) (Or.inl ⟨by kernel_rfl, ?_⟩) (by assumption) ?_
          rotate_left
          · (intro ww hSw; (try dsimp only at hSw); go_simp); (try with_reducible rfl)
          (try simp only [Act.put, List.setIfInBounds_toArray, List.set_cons_zero, List.set_cons_succ])
          refine wpAnyH_take (i := 8) (oi := ⟨some 33, _, _, _, _, _⟩) (v := ?_) rfl (by kernel_rfl) (by kernel_rfl) (by kernel_rfl) (fun _ _ _ h => h) (Or.inl ⟨by kernel_rfl, ?_⟩) (by assumption) ?_
          rotate_left
          · (intro ww hSw; (try dsimp only at hSw); obtain ⟨_, _, d1, _⟩ := hSw; go_simp); (try with_reducible rfl)
          (try simp only [Act.put, List.setIfInBounds_toArray, List.set_cons_zero, List.set_cons_succ])
          refine wpAnyH_take (i := 9) (oi := ⟨some 34, _, _, _, _, _⟩) (v := ?_) rfl (by kernel_rfl) (by kernel_rfl) (by kernel_rfl) (fun _ _ _ h => h) (Or.inl ⟨by kernel_rfl, ?_⟩) (by assumption) ?_
          rotate_left
          · (intro ww hSw; (try dsimp only at hSw); go_simp); (try with_reducible rfl)
          (try simp only [Act.put, List.setIfInBounds_toArray, List.set_cons_zero, List.set_cons_succ])
          refine wpAnyH_take (i := 10) (oi := ⟨some 35, _, _, _, _, _⟩) (v := ?_) rfl (by kernel_rfl) (by kernel_rfl) (by kernel_rfl) (fun _ _ _ h => h) (Or.inl ⟨by kernel_rfl, ?_⟩) (by assumption) ?_
          rotate_left
          · (intro ww hSw; (try dsimp only at hSw); go_simp); (try with_reducible rfl)
          (try simp only [Act.put, List.setIfInBounds_toArray, List.set_cons_zero, List.set_cons_succ])
          refine wpAnyH_take (i := 11) (oi := ⟨some 36, _, _, _, _, _⟩) (v := ?_) rfl (by kernel_rfl) (by kernel_rfl) (by kernel_rfl) (fun _ _ _ h => h) (Or.inl ⟨by kernel_rfl, ?_⟩) (by assumption) ?_
          rotate_left
          · (intro ww hSw; (try dsimp only at hSw); obtain ⟨_, _, _, d1⟩ := hSw; go_simp); (try with_reducible rfl)
          (try simp only [Act.put, List.setIfInBounds_toArray, List.set_cons_zero, List.set_cons_succ])
          have hbc := bound_calls x V y va n vc a' yn c' Wd (HVA.out.on (fb2 HBW2.out HBD.out (Nat.le_refl _))) (HTY.out.on HBD.out)
          generalize boundP V y x = t at hbc HNX
          obtain ⟨tk, tx, ty, tz⟩ := t
          simp only [TermL.v] at hbc
          have HBC := Lib.hid hbc
          clear hbc
          refine wpAnyH_ready (rs := [12]) (by kernel_rfl) (by simp) ?_
          refine AllReadyH.cons rfl (fun K hK => ?_) AllReadyH.nil
          go_simp
          refine HBC.out.mono ?_
          rintro e w3 ⟨rfl, hb3⟩
          have HB3 := Lib.hid (fb2 HBD.out hb3 (Nat.le_refl _))
          clear hb3
          go_wp2_with fail
          refine hK.out _ _ ?_ (fun hHeld => ?_)
          · exact ⟨keptC HSA.out.1 HB3.out HSL.out.1, keptC HSA.out.2.1 HB3.out HSL.out.2.1, keptC HSA.out.2.2.1 HB3.out HSL.out.2.1, keptC HSA.out.2.2.2 HB3.out HSL.out.2.2⟩
          clear hK K
          (try simp only [Act.put, List.setIfInBounds_toArray, List.set_cons_zero, List.set_cons_succ])
          refine wpAnyH_ready (rs := [13]) (by kernel_rfl) (by simp) ?_
          refine AllReadyH.cons rfl (fun K hK => ?_) AllReadyH.nil
          go_simp
          obtain ⟨W4, hW4⟩ : ∃ W4, w3.alloc (.cells #[.int .i64 tk, .string (bs tx), .string (bs ty), .string (bs tz)] 37) = W4 := ⟨_, rfl⟩
          rw [hW4]
          have HN4 := Lib.hid (show Blk W4 w3.heap.size 37 #[.int .i64 tk, .string (bs tx), .string (bs ty), .string (bs tz)] by rw [← hW4]; exact blk_new _ _ _)
          have HB4 := Lib.hid (fb2 HB3.out (show Below w3.heap.size w3 W4 by rw [← hW4]; exact box_below _ _) (Nat.le_refl _))
          have HO4 := Lib.hid (HOW.out.kept (row := none) ⟨HB4.out.os, HB4.out.tape, HB4.out.output, HB4.out.size, fun b hb _ => HB4.out.block b hb⟩ (by
            cases hq : u7.ownBlock with
            | none => exact .inl rfl
            | some x => exact .inr (by simp)))
          clear hW4
          refine hK.out _ _ ?_ (fun hHeld => ?_)
          · exact ⟨keptC HSA.out.1 HB4.out HSL.out.1, keptC HSA.out.2.1 HB4.out HSL.out.2.1, keptC HSA.out.2.2.1 HB4.out HSL.out.2.1, keptC HSA.out.2.2.2 HB4.out HSL.out.2.2⟩
          clear hK K
          (try simp only [Act.put, List.setIfInBounds_toArray, List.set_cons_zero, List.set_cons_succ])
          refine wpAnyH_ready (rs := [14]) (by kernel_rfl) (by simp) ?_
          refine AllReadyH.cons rfl (fun K hK => ?_) AllReadyH.nil
          refine wp_append_own (.tmp 25) (.tmp 38) 35 rfl N 37 j0 nilT.v 4 56 Tryz.underlying35 hj hj0 hj1 hj2 rfl (by decide) u7 k _ rfl HO4.out ⟨w3.heap.size, 0, none⟩ 1 1 [.int .i64 tk, .string (bs tx), .string (bs ty), .string (bs tz)] rfl rfl (fun j u hj => ?_) (fun u hu => ?_) (by unfold maxLen; omega) (by omega) (by have h1 := HSZ.out; have h2 := HB4.out.size; omega) ?_
          · rw [add_at, blk_cell HN4.out, Nat.zero_add]
            simpa using hj
          · simp only [List.mem_cons, List.not_mem_nil, or_false] at hu
            rcases hu with rfl | rfl | rfl | rfl <;> rfl
          intro v5 w5 ho5 hg5 _
          have HB5 := Lib.hid (show Below N W2 w5 from (HB4.out.mono HSZ.out).grown hg5 (Nat.le_trans HSZ.out HB4.out.size) (fun b hb => HOB.out _ hb))
          have HI5 := Lib.hid (show InT W1 N v5 ((projR U V y).take (k + 1)) w5 from by
            rw [← HNX.out]
            refine ⟨?_, HIN.out.below.trans HB5.out, Nat.le_trans HSZ.out HB5.out.size⟩
            have e : ((projR U V y).take k ++ ([⟨tk, tx, ty, tz⟩] : List TermL)).length = k + 1 := by rw [List.length_append, HLK.out]; rfl
            rw [e, cellsT_append, cellsT_one]
            exact ho5)
          clear ho5 hg5
          refine hK.out _ _ ?_ (fun hHeld => ?_)
          · exact ⟨keptC HSA.out.1 HB5.out HSN.out.1, keptC HSA.out.2.1 HB5.out HSN.out.2.1, keptC HSA.out.2.2.1 HB5.out HSN.out.2.1, keptC HSA.out.2.2.2 HB5.out HSN.out.2.2⟩
          clear hK K
          (try simp only [Act.put, List.setIfInBounds_toArray])
          refine wpAnyH_take (i := 15) (oi := ⟨some 7, _, _, _, _, _⟩) (v := ?_) rfl (by kernel_rfl) (by kernel_rfl) (by kernel_rfl) (fun _ _ _ h => h) (Or.inl ⟨by kernel_rfl, ?_⟩) (by assumption) ?_
          rotate_left
          · (intro ww hSw; (try dsimp only at hSw); go_simp); (try with_reducible rfl)
          (try simp only [Act.put])
          refine wpAnyH_done (by kernel_rfl) ?_ _
          go_wp2
          go_roundg hh
          case measure => omega
          case rel => exact ⟨k + 1, by go_num, by omega, HI5⟩
        · have j1' : ¬ (k : Int) < (un : Int) := by omega
          have hE : (projR U V y).take k = projR U V y := List.take_of_length_le (by rw [HPY.out]; omega)
          have hown := HIN.out.own
          rw [hE, HPY.out] at hown
          obtain ⟨a3, c3, rfl, ht3⟩ := own_trms hown
          have HT3 := Lib.hid (ht3.mono (K' := fun b => X + 1 ≤ b ∧ isT W2 b) (fun b _ hk => ⟨by have h1 := HSX.out; have h2 := HNE.out; omega, hk.2⟩))
          have HX2 := Lib.hid (blk_on HRD.out.all HB12.out (blk_lt HRD.out.all))
          have q5 : W2.cell? ⟨X, 1, none⟩ = some v := (blk_cell HX2.out 1).trans rfl
          have hx2 : X < W2.heap.size := blk_lt HX2.out
          have hx3 : ¬ X = W2.heap.size := by omega
          obtain ⟨cs, hown1, hrc1⟩ := HRD.out.own
          rw [HL1.out] at hown1
          have HOW1 := Lib.hid hown1
          have HRC1 := Lib.hid hrc1
          have HOW2 := Lib.hid (hown1.kept (row := none) ⟨HB12.out.os, HB12.out.tape, HB12.out.output, HB12.out.size, fun b hb _ => HB12.out.block b hb⟩ (by
            cases hq : v.ownBlock with
            | none => exact .inl rfl
            | some x => exact .inr (by simp)))
          have HOB : Hid (∀ e, Value.ownBlock v = some e → X + 1 ≤ e) := Lib.hid (fun e he => (hown1.lt e he).1)
          have HSX2 := Lib.hid (Nat.le_trans HSX.out HB12.out.size)
          clear hE hown ht3 hown1 hrc1
          go_wp2_with (first
            | (at_builtin; (refine append_any (.tmp 41) (.tmp 43) 23 ⟨rfl, rfl⟩ (X + 1) 35 i0 (.slice none 0 0) 1 24 Tryz.underlying23 hi hz0 hz1 hz2 rfl (by decide) v i _ rfl (HOW2.out.alloc _) (some ⟨W2.heap.size, 0, none⟩) 1 1 [.slice a3 un c3] rfl rfl (newsOne (blk_new _ _ _)) oneCell1 (by unfold maxLen; omega) (by omega) (by have := HSX2.out; simp; omega) ?_; intro v5 w5 ho5 hg5 _; have HX5 := Lib.hid (show Blk w5 X 25 #[.slice ua un uc, v] from (hg5.out.block X (by simp; omega) (fun e => by have := HOB.out _ e.symm; omega)).trans (blk_alloc HX2.out _))))
            | (refine one_abs 23 (.tmp 45) (.tmp 44) ⟨rfl, rfl⟩ X 1 v5 rfl rfl (own_cells ho5.out).1 (own_cells ho5.out).2 25 [.slice ua un uc, v] HX5.out (by kernel_rfl) (by simp) ?_; intro w6 hX6 hg6))
          have HB26 := Lib.hid (show Below X W2 w6 from (((box_below W2 (.cells #[.slice a3 un c3] 35)).mono (show X ≤ W2.heap.size by omega)).grown hg5.out (by simp; omega) (fun e he => by have := HOB.out _ he; omega)).grown hg6.out (by have h1 := hg5.out.size; simp at h1; omega) (fun b hb => by injection hb with hb; omega))
          have HB16 := Lib.hid (show Below X W1 w6 from (HB12.out.mono (by have := HSX.out; omega)).trans HB26.out)
          have HR6 := Lib.hid (show CpyR X w0 (.slice ua un uc) v5 ((projP U V R).take (i + 1)) w6 from cpy_next HRD.out HRC1.out HOW1.out HL1.out HB12.out (box_below W2 _) HT3.out HPY.out HTK.out ho5.out hg5.out hX6.out hg6.out HB16.out)
          clear hX6 hg6 ho5 hg5
          go_roundg g1
          case measure => omega
          case rel => exact ⟨i + 1, v5, by go_num, by omega, HR6⟩
    · have k1 : ¬ (i : Int) < (m : Int) := by omega
      have hE : (projP U V R).take i = projP U V R := List.take_of_length_le (by have := HPL.out; omega)
      have q2 : W1.cell? ⟨X, 0, none⟩ = some (.slice ua un uc) := (blk_cell HRD.out.all 0).trans rfl
      have q3 : W1.cell? ⟨X, 1, none⟩ = some v := (blk_cell HRD.out.all 1).trans rfl
      obtain ⟨cs, hown, hrc⟩ := HRD.out.own
      rw [hE] at hown hrc
      rw [HPL.out] at hown
      have HOW := Lib.hid hown
      have HRC := Lib.hid hrc
      have HE1 := Lib.hid (blk_on HEW0.out HRD.out.below HAX.out)
      have hv1 : (#[.slice ua un uc, v] : Array Value).all (fun x => x.oneCell') = true := by
        have h1 := (own_cells hown).2
        have h2 : (Value.slice ua un uc).oneCell' = true := rfl
        simp [h1, h2]
      clear hown hrc hE
      go_wp2_with (refine whole_abs 25 (.tmp 4) (.tmp 46) ⟨rfl, rfl⟩ (A + 1) #[.slice ua un uc, v] rfl rfl 25 #[.slice none 0 0, .slice none 0 0] HE1.out (by kernel_rfl) rfl hv1 ?_; intro w9 hA9 hG9)
      have hae := HAE.out
      have hax := HAX.out
      have hb9 : Below w.heap.size w w9 := HBW.out.grown hG9.out HBW.out.size (fun j hj => by injection hj with hj; omega)
      have hown9 := HOW.out.kept hG9.out (.inr (fun e => by have := (HOW.out.lt _ e).1; omega))
      have hne : ∀ b, X < b → b < W1.heap.size → w9.heap[b]? = W1.heap[b]? := fun b hx hb => hG9.out.block b hb (fun e => by injection e with e; omega)
      have hrc9 := HRC.out.on (w' := w9) ⟨hG9.out.size, fun b hb hk => hne b hk.1 hb⟩
      obtain ⟨a3, c3, rfl, hrow3⟩ := own_rows hown9 hrc9 HPL.out
      have q5 : w9.cell? ⟨A + 1, 0, none⟩ = some (.slice ua un uc) := (blk_cell hA9.out 0).trans rfl
      have q6 : w9.cell? ⟨A + 1, 1, none⟩ = some (.slice a3 m c3) := (blk_cell hA9.out 1).trans rfl
      refine bodyPost_ret (v := .agg #[.slice ua un uc, .slice a3 m c3]) (by simp [results, Tryz.results46, q5, q6, go_sem]) rfl ⟨_, rfl, ⟨ua, un, uc, a3, m, c3, rfl, HUA.out.on hb9, hrow3⟩, hb9⟩

end Go.Proofs.YtdnfaoanaehjhaaGreatDoor
