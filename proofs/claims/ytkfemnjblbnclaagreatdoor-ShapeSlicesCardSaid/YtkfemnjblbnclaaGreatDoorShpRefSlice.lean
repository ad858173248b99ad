/- The document's Slice (written by gen/mkrslice12.py). -/
import Derived.Test.YtkfemnjblbnclaaGreatDoorGRows
import Derived.Test.YtkfemnjblbnclaaGreatDoorShpPiece
namespace Go.Proofs.YtkfemnjblbnclaaGreatDoor
open Go.RowKit Go.Maps

structure CutR (w : World) (A X : Nat) (vs rs v : Value) (F : List RowL) (wr : World) : Prop where
  arg : Blk wr A 31 #[vs, rs]
  res : Blk wr (A + 1) 31 #[.slice none 0 0, .slice none 0 0]
  all : Blk wr X 31 #[vs, v]
  own : ∃ cs, wr.ownsRow (X + 1) 51 1 v F.length cs ∧ RowCK (fun i => i < A) wr cs F
  below : Below w.heap.size w wr
  size : X + 1 ≤ wr.heap.size

set_option maxRecDepth 100000 in
set_option maxHeartbeats 8000000 in
theorem rSlice_calls (V : List (List UInt8)) (R : List RowL) (off : Nat) (lim : Int) (tv : Value) (w : World) (ht : TabA w tv V R) (hl : -1 ≤ lim) (hl2 : lim ≤ 9223372036854775807) (ho : off ≤ 9223372036854775807) (h40 : R.length ≤ 40) :
    Calls Tryz.prog 29 #[tv, .int .i64 off, .int .i64 lim] w fun e w' => ∃ uv, e = .returned uv ∧ TabA w' uv V (cutP R off lim) ∧ Below w.heap.size w w' := by
  obtain ⟨i0, hi, hz0, hz1, hz2⟩ := info_parts info_row
  obtain ⟨va, n, vc, ra, m, rc, rfl, hV, hR⟩ := ht
  have HV := Lib.hid hV
  have HR := Lib.hid hR
  have HRL := Lib.hid hR.len
  have hm40 : m ≤ 40 := by rw [← hR.len]; exact h40
  obtain ⟨A, hA⟩ : ∃ A, w.heap.size = A := ⟨_, rfl⟩
  have HAE := Lib.hid hA
  have hB0 : Blk (((w.alloc (.cells #[.slice va n vc, .slice ra m rc] 31)).alloc (.cells #[.slice none 0 0, .slice none 0 0] 31)).alloc (.cells #[.slice va n vc, .slice none 0 0] 31)) (A + 1) 31 #[.slice none 0 0, .slice none 0 0] := by
    refine blk_alloc ?_ _
    have := blk_new (w.alloc (.cells #[.slice va n vc, .slice ra m rc] 31)) 31 #[.slice none 0 0, .slice none 0 0]
    rw [World.size_alloc, hA] at this
    exact this
  have hS0 : CutR w A (A + 1 + 1) (.slice va n vc) (.slice ra m rc) (.slice none 0 0) ((R.drop off).take 0) (((w.alloc (.cells #[.slice va n vc, .slice ra m rc] 31)).alloc (.cells #[.slice none 0 0, .slice none 0 0] 31)).alloc (.cells #[.slice va n vc, .slice none 0 0] 31)) := by
    refine ⟨blk_alloc (blk_alloc (by rw [← hA]; exact blk_new _ _ _) _) _, hB0, ?_, ⟨[], by rw [List.take_zero]; exact World.ownsRow_nil _ _ _ _, by rw [List.take_zero]; exact rowCK_nil _ _⟩, fb2 (two_alloc _ _ _) (box_below _ _) (Nat.le_refl _), by rw [World.size_alloc, World.size_alloc, World.size_alloc, hA]; omega⟩
    have := blk_new ((w.alloc (.cells #[.slice va n vc, .slice ra m rc] 31)).alloc (.cells #[.slice none 0 0, .slice none 0 0] 31)) 31 #[.slice va n vc, .slice none 0 0]
    rw [World.size_alloc, World.size_alloc, hA] at this
    exact this
  have HS0 := Lib.hid hS0
  clear hS0 hB0 hA h40 hV hR
  go_enter Tryz.func29, Tryz.ntmps29
  go_wp2
  rw [HAE.out]
  obtain ⟨X, hX⟩ : ∃ X, A + 1 + 1 = X := ⟨_, rfl⟩
  rw [hX] at HS0 ⊢
  go_loopg [8] m (fun g i wr => ∃ (q : Nat) (v : Value), i = .int .i64 ((off + q : Nat) : Int) ∧ (q = 0 ∨ off + q ≤ m) ∧ m ≤ q + g ∧ (lim < 0 ∨ (q : Int) ≤ lim) ∧ Hid (CutR w A X (.slice va n vc) (.slice ra m rc) v ((R.drop off).take q) wr))
  case atStart => exact ⟨0, _, rfl, .inl rfl, by omega, by omega, HS0⟩
  case round =>
    obtain ⟨W1, rfl⟩ : ∃ W1, W1 = wr := ⟨_, rfl⟩
    obtain ⟨q, v, rfl, hq0, hqg, hql, HRD⟩ := hrel
    obtain ⟨i, hie⟩ : ∃ i, off + q = i := ⟨_, rfl⟩
    rw [hie]
    have q0 : W1.cell? ⟨A, 0, none⟩ = some (.slice va n vc) := (blk_cell HRD.out.arg 0).trans rfl
    have q1 : W1.cell? ⟨A, 1, none⟩ = some (.slice ra m rc) := (blk_cell HRD.out.arg 1).trans rfl
    have k0 : (0 : Int) ≤ (i : Int) := by omega
    by_cases hcont : i < m ∧ (lim < 0 ∨ (q : Int) < lim)
    · obtain ⟨hc1, hc2⟩ := hcont
      obtain ⟨g1, rfl⟩ : ∃ g1, gk = g1 + 1 := ⟨gk - 1, by omega⟩
      have hiL : i < R.length := by rw [HRL.out]; exact hc1
      obtain ⟨g, o, rfl, hgw, hcells⟩ := HR.out.cells (by omega)
      obtain ⟨a', c', hcell, htrm⟩ := hcells i hiL
      have HBW := Lib.hid HRD.out.below
      have HTM := Lib.hid htrm
      have HYE := Lib.hid (show R[i]? = some R[i] from List.getElem?_eq_getElem hiL)
      generalize R[i] = y at hcell htrm HTM HYE
      generalize hyn : y.length = yn at hcell htrm HTM
      have HYN := Lib.hid hyn
      have HAE2 := HAE.out
      have hcW := keptC hcell HBW.out hgw
      have HSA := Lib.hid (show W1.cell? ⟨A, 1, none⟩ = some (.slice (some ⟨g, o, none⟩) m rc) ∧ W1.cell? ⟨g, o + i, none⟩ = some (.slice a' yn c') from ⟨q1, hcW⟩)
      have HSL := Lib.hid (show A < W1.heap.size ∧ g < W1.heap.size from ⟨blk_lt HRD.out.arg, Nat.lt_of_lt_of_le hgw HBW.out.size⟩)
      have hq5 : W1.cell? ⟨X, 1, none⟩ = some v := (blk_cell HRD.out.all 1).trans rfl
      have k1 : (i : Int) < (m : Int) := by omega
      have HCL := Lib.hid hcell
      have HGW := Lib.hid hgw
      have hL1 : ((R.drop off).take q).length = q := by rw [List.length_take, List.length_drop, HRL.out]; omega
      have hTK : (R.drop off).take q ++ [y] = (R.drop off).take (q + 1) := by
        have h := HYE.out
        rw [List.take_add_one, List.getElem?_drop, hie, h]
        rfl
      obtain ⟨cs, hown, hrc⟩ := HRD.out.own
      rw [hL1] at hown
      have HTK := Lib.hid hTK
      have HL1 := Lib.hid hL1
      have HRC := Lib.hid hrc
      have HOB : Hid (∀ e, Value.ownBlock v = some e → X + 1 ≤ e ∧ e < W1.heap.size) := Lib.hid (fun e he => by have := hown.lt e he; omega)
      obtain ⟨W2, hW2⟩ : ∃ W2, (W1.alloc (.cells #[.slice a' yn c'] 51)).drew = W2 := ⟨_, rfl⟩
      have HWE := Lib.hid hW2
      have HB2 := Lib.hid (show Below W1.heap.size W1 W2 by rw [← hW2]; exact (box_below _ _).drew)
      have HN2 : Hid (W2.cell? ⟨W1.heap.size, 0, none⟩ = some (.slice a' yn c')) := Lib.hid (by rw [← hW2]; exact blk_cell (blk_new W1 51 #[.slice a' yn c']) 0)
      have HZ2 := Lib.hid (show W2.heap.size = W1.heap.size + 1 by rw [← hW2]; simp)
      have HO2 := Lib.hid (hown.kept (row := none) ⟨HB2.out.os, HB2.out.tape, HB2.out.output, HB2.out.size, fun j hj _ => HB2.out.block j hj⟩ (by
        cases hq : v.ownBlock with
        | none => exact .inl rfl
        | some x => exact .inr (by simp)))
      have HX2 := Lib.hid (blk_on HRD.out.all HB2.out (blk_lt HRD.out.all))
      have HA2 := Lib.hid (blk_on HRD.out.arg HB2.out (blk_lt HRD.out.arg))
      have HSX := Lib.hid HRD.out.size
      have HAX := Lib.hid (show A + 2 = X from hX)
      clear hcells hcell htrm hyn hcW hgw HAE2 hiL hL1 hTK hown hrc hW2
      by_cases hn : lim < 0
      · skip
        go_wp2_with fail
        refine wp_region_held_drew (S := (fun W => W.cell? ⟨A, 1, none⟩ = some (.slice (some ⟨g, o, none⟩) m rc) ∧ W.cell? ⟨g, o + i, none⟩ = some (.slice a' yn c'))) (by kernel_rfl) ?_ (fun hHeld => ?_)
        · (try dsimp only); exact HSA.out
        have hbn : Below W1.heap.size W1 W1.drew := (Below.refl _ _).drew
        refine wpAnyH_take (i := 0) (oi := ⟨some 31, _, _, _, _, _⟩) (v := ?_) rfl (by kernel_rfl) (by kernel_rfl) (by kernel_rfl) (fun _ _ _ h => h) (Or.inl ⟨by kernel_rfl, ?_⟩) (by assumption) ?_
        rotate_left
        · (intro ww hSw; (try dsimp only at hSw); go_simp); (try with_reducible rfl)
        (try simp only [Act.put, List.setIfInBounds_toArray, List.set_cons_zero, List.set_cons_succ])
        refine wpAnyH_take (i := 2) (oi := ⟨some 33, _, _, _, _, _⟩) (v := ?_) rfl (by kernel_rfl) (by kernel_rfl) (by kernel_rfl) (fun _ _ _ h => h) (Or.inl ⟨by kernel_rfl, ?_⟩) (by assumption) ?_
        rotate_left
        · (intro ww hSw; (try dsimp only at hSw); go_simp); (try with_reducible rfl)
        (try simp only [Act.put, List.setIfInBounds_toArray, List.set_cons_zero, List.set_cons_succ])
        refine wpAnyH_take (i := 3) (oi := ⟨some 34, _, _, _, _, _⟩) (v := ?_) rfl (by kernel_rfl) (by kernel_rfl) (by kernel_rfl) (fun _ _ _ h => h) (Or.inl ⟨by kernel_rfl, ?_⟩) (by assumption) ?_
        rotate_left
        · (intro ww hSw; (try dsimp only at hSw); obtain ⟨d1, _⟩ := hSw; go_simp); (try with_reducible rfl)
        (try simp only [Act.put, List.setIfInBounds_toArray, List.set_cons_zero, List.set_cons_succ])
        refine wpAnyH_take (i := 4) (oi := ⟨some 35, _, _, _, _, _⟩) (v := ?_) rfl (by kernel_rfl) (by kernel_rfl) (by kernel_rfl) (fun _ _ _ h => h) (Or.inl ⟨by kernel_rfl, ?_⟩) (by assumption) ?_
        rotate_left
        · (intro ww hSw; (try dsimp only at hSw); go_simp); (try with_reducible rfl)
        (try simp only [Act.put, List.setIfInBounds_toArray, List.set_cons_zero, List.set_cons_succ])
        refine wpAnyH_take (i := 5) (oi := ⟨some 36, _, _, _, _, _⟩) (v := ?_) rfl (by kernel_rfl) (by kernel_rfl) (by kernel_rfl) (fun _ _ _ h => h) (Or.inl ⟨by kernel_rfl, ?_⟩) (by assumption) ?_
        rotate_left
        · (intro ww hSw; (try dsimp only at hSw); go_simp); (try with_reducible rfl)
        (try simp only [Act.put, List.setIfInBounds_toArray, List.set_cons_zero, List.set_cons_succ])
        refine wpAnyH_take (i := 6) (oi := ⟨some 37, _, _, _, _, _⟩) (v := ?_) rfl (by kernel_rfl) (by kernel_rfl) (by kernel_rfl) (fun _ _ _ h => h) (Or.inl ⟨by kernel_rfl, ?_⟩) (by assumption) ?_
        rotate_left
        · (intro ww hSw; (try dsimp only at hSw); obtain ⟨_, d1⟩ := hSw; go_simp); (try with_reducible rfl)
        (try simp only [Act.put, List.setIfInBounds_toArray, List.set_cons_zero, List.set_cons_succ])
        refine wpAnyH_ready (rs := [1, 7]) (by kernel_rfl) (by simp) ?_
        refine AllReadyH.cons rfl (fun K hK => ?_) (AllReadyH.cons rfl (fun K hK => ?_) AllReadyH.nil)
        · go_simp
          refine hK.out _ _ ?_ (fun hHeld => ?_)
          · exact hHeld
          clear hK K
          (try simp only [Act.put, List.setIfInBounds_toArray, List.set_cons_zero, List.set_cons_succ])
          refine wpAnyH_ready (rs := [7]) (by kernel_rfl) (by simp) ?_
          refine AllReadyH.cons rfl (fun K hK => ?_) AllReadyH.nil
          go_simp
          rw [HWE.out]
          refine hK.out _ _ ?_ (fun hHeld => ?_)
          · (try dsimp only); exact ⟨keptC HSA.out.1 HB2.out HSL.out.1, keptC HSA.out.2 HB2.out HSL.out.2⟩
          clear hK K
          (try simp only [Act.put, List.setIfInBounds_toArray, List.set_cons_zero, List.set_cons_succ])
          refine wpAnyH_ready (rs := [8]) (by kernel_rfl) (by simp) ?_
          refine AllReadyH.cons rfl (fun K hK => ?_) AllReadyH.nil
          refine wp_append_own (.tmp 32) (.tmp 38) 29 rfl (X + 1) 51 i0 (.slice none 0 0) 1 24 Tryz.underlying29 hi hz0 hz1 hz2 rfl (by decide) v _ _ rfl HO2.out ⟨W1.heap.size, 0, none⟩ 1 1 [.slice a' yn c'] rfl rfl (fun j u hj => ?_) (fun u hu => ?_) (by unfold maxLen; omega) (by omega) (by have h1 := HZ2.out; have h2 := HSX.out; omega) ?_
          · cases j with
            | zero => injection hj with hj; subst hj; exact HN2.out
            | succ j => simp at hj
          · simp only [List.mem_singleton] at hu; subst hu; rfl
          intro v4 w4 ho4 hg4 hob4
          have HO4 := Lib.hid ho4
          have HG4 := Lib.hid hg4
          have HOB4 := Lib.hid hob4
          have hst4 : ∀ b, b < W1.heap.size → v.ownBlock ≠ some b → w4.heap[b]? = W1.heap[b]? := fun b hb hne => (hg4.block b (by have := HZ2.out; omega) (fun e => hne e.symm)).trans (HB2.out.block b hb)
          have HS4 := Lib.hid hst4
          have hA4 : Blk w4 A 31 #[.slice va n vc, .slice (some ⟨g, o, none⟩) m rc] := (hst4 A HSL.out.1 (fun e => by have := HOB.out _ e; have := HAX.out; omega)).trans HRD.out.arg
          have hX4 : Blk w4 X 31 #[.slice va n vc, v] := (hst4 X (blk_lt HRD.out.all) (fun e => by have := HOB.out _ e; omega)).trans HRD.out.all
          have hE4 : Blk w4 (A + 1) 31 #[.slice none 0 0, .slice none 0 0] := (hst4 (A + 1) (blk_lt HRD.out.res) (fun e => by have := HOB.out _ e; have := HAX.out; omega)).trans HRD.out.res
          have HA4 := Lib.hid hA4
          have HX4 := Lib.hid hX4
          have HE4 := Lib.hid hE4
          have hb4 : Below w.heap.size w w4 := (fb2 HBW.out HB2.out (Nat.le_refl _)).grown hg4 (Nat.le_trans HBW.out.size HB2.out.size) (fun j hj => by have := HOB.out _ hj; have := HAX.out; have := HAE.out; omega)
          have HB4 := Lib.hid hb4
          clear ho4 hg4 hob4 hst4 hX4 hE4
          refine hK.out _ _ ?_ (fun hHeld => ?_)
          · (try dsimp only); exact ⟨(blk_cell hA4 1).trans rfl, keptC HCL.out hb4 HGW.out⟩
          clear hK K hA4 hb4
          (try simp only [Act.put, List.setIfInBounds_toArray])
          refine wpAnyH_take (i := 9) (oi := ⟨some 40, _, _, _, _, _⟩) (v := ?_) rfl (by kernel_rfl) (by kernel_rfl) (by kernel_rfl) (fun _ _ _ h => h) (Or.inl ⟨by kernel_rfl, ?_⟩) (by assumption) ?_
          rotate_left
          · (intro ww hSw; (try dsimp only at hSw); go_simp); (try with_reducible rfl)
          (try simp only [Act.put])
          refine wpAnyH_ready (rs := [10]) (by kernel_rfl) (by simp) ?_
          refine AllReadyH.cons rfl (fun K hK => ?_) AllReadyH.nil
          refine wp_one_abs 29 (.tmp 40) (.tmp 39) rfl X 1 v4 rfl rfl (own_cells HO4.out).1 (own_cells HO4.out).2 31 [.slice va n vc, v] HX4.out (by kernel_rfl) (by simp) ?_
          intro w5 hX5 hg5
          have hA5 := blk_grown HA4.out (by have := HAX.out; omega) hg5
          have hE5 := blk_grown HE4.out (by have := HAX.out; omega) hg5
          have h4s : W1.heap.size ≤ w4.heap.size := by have h1 := HG4.out.size; have h2 := HZ2.out; omega
          have hb5 : Below w.heap.size w w5 := HB4.out.grown hg5 HB4.out.size (fun j hj => by injection hj with hj; have := HAX.out; have := HAE.out; omega)
          refine hK.out _ _ ?_ (fun hHeld => ?_)
          · (try dsimp only); exact ⟨(blk_cell hA5 1).trans rfl, keptC HCL.out hb5 HGW.out⟩
          clear hK K
          (try simp only [Act.put])
          refine wpAnyH_done (by kernel_rfl) ?_ _
          have HR5 := Lib.hid (show CutR w A X (.slice va n vc) (.slice (some ⟨g, o, none⟩) m rc) v4 ((R.drop off).take (q + 1)) w5 from by
            have hxo : ∀ e, v4.ownBlock = some e → X + 1 ≤ e := fun e he => own_from HO4.out e he
            have hae := HAE.out
            have hax := HAX.out
            have hSt : Stay (fun b => b < A) W1 w5 := ⟨Nat.le_trans h4s hg5.size, fun b hb hk => (hg5.block b (Nat.lt_of_lt_of_le hb h4s) (fun e => by injection e with e; omega)).trans (HS4.out b hb (fun e => by have := HOB.out _ e; omega))⟩
            have h1 : RowCK (fun b => b < A) W1 [.slice a' yn c'] [y] := ⟨rfl, fun j hj => by
              have e : j = 0 := by simp at hj; exact hj
              subst e
              refine ⟨a', c', by have := HYN.out; simp [this], ?_⟩
              have := (HTM.out.k.mono (K' := fun b => b < A) (fun b hb _ => by omega)).on (stay_below HBW.out)
              have e2 := HYN.out
              subst e2
              exact this⟩
            have hold := HRC.out.app h1
            rw [HTK.out] at hold
            refine ⟨hA5, hE5, hX5, ⟨cs ++ [.slice a' yn c'], ?_, hold.on hSt⟩, hb5, ?_⟩
            · rw [← HTK.out, List.length_append, HL1.out]
              exact HO4.out.kept hg5 (.inr (fun e => by have := hxo _ e; omega))
            · have h2 := HSX.out
              have h3 := hg5.size
              omega)
          clear hE5 hA5 hX5 hg5 hb5
          go_wp2
          go_roundg g1
          case measure => omega
          case rel => exact ⟨q + 1, v4, by go_num, .inr (by omega), by omega, by omega, HR5⟩

        · go_simp
          rw [HWE.out]
          refine hK.out _ _ ?_ (fun hHeld => ?_)
          · (try dsimp only); exact ⟨keptC HSA.out.1 HB2.out HSL.out.1, keptC HSA.out.2 HB2.out HSL.out.2⟩
          clear hK K
          (try simp only [Act.put, List.setIfInBounds_toArray, List.set_cons_zero, List.set_cons_succ])
          have hq6 : W2.cell? ⟨X, 1, none⟩ = some v := (blk_cell HX2.out 1).trans rfl
          refine wpAnyH_ready (rs := [1]) (by kernel_rfl) (by simp) ?_
          refine AllReadyH.cons rfl (fun K hK => ?_) AllReadyH.nil
          go_simp
          refine hK.out _ _ ?_ (fun hHeld => ?_)
          · exact hHeld
          clear hK K
          (try simp only [Act.put, List.setIfInBounds_toArray, List.set_cons_zero, List.set_cons_succ])
          refine wpAnyH_ready (rs := [8]) (by kernel_rfl) (by simp) ?_
          refine AllReadyH.cons rfl (fun K hK => ?_) AllReadyH.nil
          refine wp_append_own (.tmp 32) (.tmp 38) 29 rfl (X + 1) 51 i0 (.slice none 0 0) 1 24 Tryz.underlying29 hi hz0 hz1 hz2 rfl (by decide) v _ _ rfl HO2.out ⟨W1.heap.size, 0, none⟩ 1 1 [.slice a' yn c'] rfl rfl (fun j u hj => ?_) (fun u hu => ?_) (by unfold maxLen; omega) (by omega) (by have h1 := HZ2.out; have h2 := HSX.out; omega) ?_
          · cases j with
            | zero => injection hj with hj; subst hj; exact HN2.out
            | succ j => simp at hj
          · simp only [List.mem_singleton] at hu; subst hu; rfl
          intro v4 w4 ho4 hg4 hob4
          have HO4 := Lib.hid ho4
          have HG4 := Lib.hid hg4
          have HOB4 := Lib.hid hob4
          have hst4 : ∀ b, b < W1.heap.size → v.ownBlock ≠ some b → w4.heap[b]? = W1.heap[b]? := fun b hb hne => (hg4.block b (by have := HZ2.out; omega) (fun e => hne e.symm)).trans (HB2.out.block b hb)
          have HS4 := Lib.hid hst4
          have hA4 : Blk w4 A 31 #[.slice va n vc, .slice (some ⟨g, o, none⟩) m rc] := (hst4 A HSL.out.1 (fun e => by have := HOB.out _ e; have := HAX.out; omega)).trans HRD.out.arg
          have hX4 : Blk w4 X 31 #[.slice va n vc, v] := (hst4 X (blk_lt HRD.out.all) (fun e => by have := HOB.out _ e; omega)).trans HRD.out.all
          have hE4 : Blk w4 (A + 1) 31 #[.slice none 0 0, .slice none 0 0] := (hst4 (A + 1) (blk_lt HRD.out.res) (fun e => by have := HOB.out _ e; have := HAX.out; omega)).trans HRD.out.res
          have HA4 := Lib.hid hA4
          have HX4 := Lib.hid hX4
          have HE4 := Lib.hid hE4
          have hb4 : Below w.heap.size w w4 := (fb2 HBW.out HB2.out (Nat.le_refl _)).grown hg4 (Nat.le_trans HBW.out.size HB2.out.size) (fun j hj => by have := HOB.out _ hj; have := HAX.out; have := HAE.out; omega)
          have HB4 := Lib.hid hb4
          clear ho4 hg4 hob4 hst4 hX4 hE4
          refine hK.out _ _ ?_ (fun hHeld => ?_)
          · (try dsimp only); exact ⟨(blk_cell hA4 1).trans rfl, keptC HCL.out hb4 HGW.out⟩
          clear hK K hA4 hb4
          (try simp only [Act.put, List.setIfInBounds_toArray])
          refine wpAnyH_take (i := 9) (oi := ⟨some 40, _, _, _, _, _⟩) (v := ?_) rfl (by kernel_rfl) (by kernel_rfl) (by kernel_rfl) (fun _ _ _ h => h) (Or.inl ⟨by kernel_rfl, ?_⟩) (by assumption) ?_
          rotate_left
          · (intro ww hSw; (try dsimp only at hSw); go_simp); (try with_reducible rfl)
          (try simp only [Act.put])
          refine wpAnyH_ready (rs := [10]) (by kernel_rfl) (by simp) ?_
          refine AllReadyH.cons rfl (fun K hK => ?_) AllReadyH.nil
          refine wp_one_abs 29 (.tmp 40) (.tmp 39) rfl X 1 v4 rfl rfl (own_cells HO4.out).1 (own_cells HO4.out).2 31 [.slice va n vc, v] HX4.out (by kernel_rfl) (by simp) ?_
          intro w5 hX5 hg5
          have hA5 := blk_grown HA4.out (by have := HAX.out; omega) hg5
          have hE5 := blk_grown HE4.out (by have := HAX.out; omega) hg5
          have h4s : W1.heap.size ≤ w4.heap.size := by have h1 := HG4.out.size; have h2 := HZ2.out; omega
          have hb5 : Below w.heap.size w w5 := HB4.out.grown hg5 HB4.out.size (fun j hj => by injection hj with hj; have := HAX.out; have := HAE.out; omega)
          refine hK.out _ _ ?_ (fun hHeld => ?_)
          · (try dsimp only); exact ⟨(blk_cell hA5 1).trans rfl, keptC HCL.out hb5 HGW.out⟩
          clear hK K
          (try simp only [Act.put])
          refine wpAnyH_done (by kernel_rfl) ?_ _
          have HR5 := Lib.hid (show CutR w A X (.slice va n vc) (.slice (some ⟨g, o, none⟩) m rc) v4 ((R.drop off).take (q + 1)) w5 from by
            have hxo : ∀ e, v4.ownBlock = some e → X + 1 ≤ e := fun e he => own_from HO4.out e he
            have hae := HAE.out
            have hax := HAX.out
            have hSt : Stay (fun b => b < A) W1 w5 := ⟨Nat.le_trans h4s hg5.size, fun b hb hk => (hg5.block b (Nat.lt_of_lt_of_le hb h4s) (fun e => by injection e with e; omega)).trans (HS4.out b hb (fun e => by have := HOB.out _ e; omega))⟩
            have h1 : RowCK (fun b => b < A) W1 [.slice a' yn c'] [y] := ⟨rfl, fun j hj => by
              have e : j = 0 := by simp at hj; exact hj
              subst e
              refine ⟨a', c', by have := HYN.out; simp [this], ?_⟩
              have := (HTM.out.k.mono (K' := fun b => b < A) (fun b hb _ => by omega)).on (stay_below HBW.out)
              have e2 := HYN.out
              subst e2
              exact this⟩
            have hold := HRC.out.app h1
            rw [HTK.out] at hold
            refine ⟨hA5, hE5, hX5, ⟨cs ++ [.slice a' yn c'], ?_, hold.on hSt⟩, hb5, ?_⟩
            · rw [← HTK.out, List.length_append, HL1.out]
              exact HO4.out.kept hg5 (.inr (fun e => by have := hxo _ e; omega))
            · have h2 := HSX.out
              have h3 := hg5.size
              omega)
          clear hE5 hA5 hX5 hg5 hb5
          go_wp2
          go_roundg g1
          case measure => omega
          case rel => exact ⟨q + 1, v4, by go_num, .inr (by omega), by omega, by omega, HR5⟩

      · have k3 : (i : Int) - (off : Int) < lim := by omega
        go_wp2_with fail
        refine wp_region_held_drew (S := (fun W => W.cell? ⟨A, 1, none⟩ = some (.slice (some ⟨g, o, none⟩) m rc) ∧ W.cell? ⟨g, o + i, none⟩ = some (.slice a' yn c'))) (by kernel_rfl) ?_ (fun hHeld => ?_)
        · (try dsimp only); exact HSA.out
        have hbn : Below W1.heap.size W1 W1.drew := (Below.refl _ _).drew
        refine wpAnyH_take (i := 0) (oi := ⟨some 31, _, _, _, _, _⟩) (v := ?_) rfl (by kernel_rfl) (by kernel_rfl) (by kernel_rfl) (fun _ _ _ h => h) (Or.inl ⟨by kernel_rfl, ?_⟩) (by assumption) ?_
        rotate_left
        · (intro ww hSw; (try dsimp only at hSw); go_simp); (try with_reducible rfl)
        (try simp only [Act.put, List.setIfInBounds_toArray, List.set_cons_zero, List.set_cons_succ])
        refine wpAnyH_take (i := 2) (oi := ⟨some 33, _, _, _, _, _⟩) (v := ?_) rfl (by kernel_rfl) (by kernel_rfl) (by kernel_rfl) (fun _ _ _ h => h) (Or.inl ⟨by kernel_rfl, ?_⟩) (by assumption) ?_
        rotate_left
        · (intro ww hSw; (try dsimp only at hSw); go_simp); (try with_reducible rfl)
        (try simp only [Act.put, List.setIfInBounds_toArray, List.set_cons_zero, List.set_cons_succ])
        refine wpAnyH_take (i := 3) (oi := ⟨some 34, _, _, _, _, _⟩) (v := ?_) rfl (by kernel_rfl) (by kernel_rfl) (by kernel_rfl) (fun _ _ _ h => h) (Or.inl ⟨by kernel_rfl, ?_⟩) (by assumption) ?_
        rotate_left
        · (intro ww hSw; (try dsimp only at hSw); obtain ⟨d1, _⟩ := hSw; go_simp); (try with_reducible rfl)
        (try simp only [Act.put, List.setIfInBounds_toArray, List.set_cons_zero, List.set_cons_succ])
        refine wpAnyH_take (i := 4) (oi := ⟨some 35, _, _, _, _, _⟩) (v := ?_) rfl (by kernel_rfl) (by kernel_rfl) (by kernel_rfl) (fun _ _ _ h => h) (Or.inl ⟨by kernel_rfl, ?_⟩) (by assumption) ?_
        rotate_left
        · (intro ww hSw; (try dsimp only at hSw); go_simp); (try with_reducible rfl)
        (try simp only [Act.put, List.setIfInBounds_toArray, List.set_cons_zero, List.set_cons_succ])
        refine wpAnyH_take (i := 5) (oi := ⟨some 36, _, _, _, _, _⟩) (v := ?_) rfl (by kernel_rfl) (by kernel_rfl) (by kernel_rfl) (fun _ _ _ h => h) (Or.inl ⟨by kernel_rfl, ?_⟩) (by assumption) ?_
        rotate_left
        · (intro ww hSw; (try dsimp only at hSw); go_simp); (try with_reducible rfl)
        (try simp only [Act.put, List.setIfInBounds_toArray, List.set_cons_zero, List.set_cons_succ])
        refine wpAnyH_take (i := 6) (oi := ⟨some 37, _, _, _, _, _⟩) (v := ?_) rfl (by kernel_rfl) (by kernel_rfl) (by kernel_rfl) (fun _ _ _ h => h) (Or.inl ⟨by kernel_rfl, ?_⟩) (by assumption) ?_
        rotate_left
        · (intro ww hSw; (try dsimp only at hSw); obtain ⟨_, d1⟩ := hSw; go_simp); (try with_reducible rfl)
        (try simp only [Act.put, List.setIfInBounds_toArray, List.set_cons_zero, List.set_cons_succ])
        refine wpAnyH_ready (rs := [1, 7]) (by kernel_rfl) (by simp) ?_
        refine AllReadyH.cons rfl (fun K hK => ?_) (AllReadyH.cons rfl (fun K hK => ?_) AllReadyH.nil)
        · go_simp
          refine hK.out _ _ ?_ (fun hHeld => ?_)
          · exact hHeld
          clear hK K
          (try simp only [Act.put, List.setIfInBounds_toArray, List.set_cons_zero, List.set_cons_succ])
          refine wpAnyH_ready (rs := [7]) (by kernel_rfl) (by simp) ?_
          refine AllReadyH.cons rfl (fun K hK => ?_) AllReadyH.nil
          go_simp
          rw [HWE.out]
          refine hK.out _ _ ?_ (fun hHeld => ?_)
          · (try dsimp only); exact ⟨keptC HSA.out.1 HB2.out HSL.out.1, keptC HSA.out.2 HB2.out HSL.out.2⟩
          clear hK K
          (try simp only [Act.put, List.setIfInBounds_toArray, List.set_cons_zero, List.set_cons_succ])
          refine wpAnyH_ready (rs := [8]) (by kernel_rfl) (by simp) ?_
          refine AllReadyH.cons rfl (fun K hK => ?_) AllReadyH.nil
          refine wp_append_own (.tmp 32) (.tmp 38) 29 rfl (X + 1) 51 i0 (.slice none 0 0) 1 24 Tryz.underlying29 hi hz0 hz1 hz2 rfl (by decide) v _ _ rfl HO2.out ⟨W1.heap.size, 0, none⟩ 1 1 [.slice a' yn c'] rfl rfl (fun j u hj => ?_) (fun u hu => ?_) (by unfold maxLen; omega) (by omega) (by have h1 := HZ2.out; have h2 := HSX.out; omega) ?_
          · cases j with
            | zero => injection hj with hj; subst hj; exact HN2.out
            | succ j => simp at hj
          · simp only [List.mem_singleton] at hu; subst hu; rfl
          intro v4 w4 ho4 hg4 hob4
          have HO4 := Lib.hid ho4
          have HG4 := Lib.hid hg4
          have HOB4 := Lib.hid hob4
          have hst4 : ∀ b, b < W1.heap.size → v.ownBlock ≠ some b → w4.heap[b]? = W1.heap[b]? := fun b hb hne => (hg4.block b (by have := HZ2.out; omega) (fun e => hne e.symm)).trans (HB2.out.block b hb)
          have HS4 := Lib.hid hst4
          have hA4 : Blk w4 A 31 #[.slice va n vc, .slice (some ⟨g, o, none⟩) m rc] := (hst4 A HSL.out.1 (fun e => by have := HOB.out _ e; have := HAX.out; omega)).trans HRD.out.arg
          have hX4 : Blk w4 X 31 #[.slice va n vc, v] := (hst4 X (blk_lt HRD.out.all) (fun e => by have := HOB.out _ e; omega)).trans HRD.out.all
          have hE4 : Blk w4 (A + 1) 31 #[.slice none 0 0, .slice none 0 0] := (hst4 (A + 1) (blk_lt HRD.out.res) (fun e => by have := HOB.out _ e; have := HAX.out; omega)).trans HRD.out.res
          have HA4 := Lib.hid hA4
          have HX4 := Lib.hid hX4
          have HE4 := Lib.hid hE4
          have hb4 : Below w.heap.size w w4 := (fb2 HBW.out HB2.out (Nat.le_refl _)).grown hg4 (Nat.le_trans HBW.out.size HB2.out.size) (fun j hj => by have := HOB.out _ hj; have := HAX.out; have := HAE.out; omega)
          have HB4 := Lib.hid hb4
          clear ho4 hg4 hob4 hst4 hX4 hE4
          refine hK.out _ _ ?_ (fun hHeld => ?_)
          · (try dsimp only); exact ⟨(blk_cell hA4 1).trans rfl, keptC HCL.out hb4 HGW.out⟩
          clear hK K hA4 hb4
          (try simp only [Act.put, List.setIfInBounds_toArray])
          refine wpAnyH_take (i := 9) (oi := ⟨some 40, _, _, _, _, _⟩) (v := ?_) rfl (by kernel_rfl) (by kernel_rfl) (by kernel_rfl) (fun _ _ _ h => h) (Or.inl ⟨by kernel_rfl, ?_⟩) (by assumption) ?_
          rotate_left
          · (intro ww hSw; (try dsimp only at hSw); go_simp); (try with_reducible rfl)
          (try simp only [Act.put])
          refine wpAnyH_ready (rs := [10]) (by kernel_rfl) (by simp) ?_
          refine AllReadyH.cons rfl (fun K hK => ?_) AllReadyH.nil
          refine wp_one_abs 29 (.tmp 40) (.tmp 39) rfl X 1 v4 rfl rfl (own_cells HO4.out).1 (own_cells HO4.out).2 31 [.slice va n vc, v] HX4.out (by kernel_rfl) (by simp) ?_
          intro w5 hX5 hg5
          have hA5 := blk_grown HA4.out (by have := HAX.out; omega) hg5
          have hE5 := blk_grown HE4.out (by have := HAX.out; omega) hg5
          have h4s : W1.heap.size ≤ w4.heap.size := by have h1 := HG4.out.size; have h2 := HZ2.out; omega
          have hb5 : Below w.heap.size w w5 := HB4.out.grown hg5 HB4.out.size (fun j hj => by injection hj with hj; have := HAX.out; have := HAE.out; omega)
          refine hK.out _ _ ?_ (fun hHeld => ?_)
          · (try dsimp only); exact ⟨(blk_cell hA5 1).trans rfl, keptC HCL.out hb5 HGW.out⟩
          clear hK K
          (try simp only [Act.put])
          refine wpAnyH_done (by kernel_rfl) ?_ _
          have HR5 := Lib.hid (show CutR w A X (.slice va n vc) (.slice (some ⟨g, o, none⟩) m rc) v4 ((R.drop off).take (q + 1)) w5 from by
            have hxo : ∀ e, v4.ownBlock = some e → X + 1 ≤ e := fun e he => own_from HO4.out e he
            have hae := HAE.out
            have hax := HAX.out
            have hSt : Stay (fun b => b < A) W1 w5 := ⟨Nat.le_trans h4s hg5.size, fun b hb hk => (hg5.block b (Nat.lt_of_lt_of_le hb h4s) (fun e => by injection e with e; omega)).trans (HS4.out b hb (fun e => by have := HOB.out _ e; omega))⟩
            have h1 : RowCK (fun b => b < A) W1 [.slice a' yn c'] [y] := ⟨rfl, fun j hj => by
              have e : j = 0 := by simp at hj; exact hj
              subst e
              refine ⟨a', c', by have := HYN.out; simp [this], ?_⟩
              have := (HTM.out.k.mono (K' := fun b => b < A) (fun b hb _ => by omega)).on (stay_below HBW.out)
              have e2 := HYN.out
              subst e2
              exact this⟩
            have hold := HRC.out.app h1
            rw [HTK.out] at hold
            refine ⟨hA5, hE5, hX5, ⟨cs ++ [.slice a' yn c'], ?_, hold.on hSt⟩, hb5, ?_⟩
            · rw [← HTK.out, List.length_append, HL1.out]
              exact HO4.out.kept hg5 (.inr (fun e => by have := hxo _ e; omega))
            · have h2 := HSX.out
              have h3 := hg5.size
              omega)
          clear hE5 hA5 hX5 hg5 hb5
          go_wp2
          go_roundg g1
          case measure => omega
          case rel => exact ⟨q + 1, v4, by go_num, .inr (by omega), by omega, by omega, HR5⟩

        · go_simp
          rw [HWE.out]
          refine hK.out _ _ ?_ (fun hHeld => ?_)
          · (try dsimp only); exact ⟨keptC HSA.out.1 HB2.out HSL.out.1, keptC HSA.out.2 HB2.out HSL.out.2⟩
          clear hK K
          (try simp only [Act.put, List.setIfInBounds_toArray, List.set_cons_zero, List.set_cons_succ])
          have hq6 : W2.cell? ⟨X, 1, none⟩ = some v := (blk_cell HX2.out 1).trans rfl
          refine wpAnyH_ready (rs := [1]) (by kernel_rfl) (by simp) ?_
          refine AllReadyH.cons rfl (fun K hK => ?_) AllReadyH.nil
          go_simp
          refine hK.out _ _ ?_ (fun hHeld => ?_)
          · exact hHeld
          clear hK K
          (try simp only [Act.put, List.setIfInBounds_toArray, List.set_cons_zero, List.set_cons_succ])
          refine wpAnyH_ready (rs := [8]) (by kernel_rfl) (by simp) ?_
          refine AllReadyH.cons rfl (fun K hK => ?_) AllReadyH.nil
          refine wp_append_own (.tmp 32) (.tmp 38) 29 rfl (X + 1) 51 i0 (.slice none 0 0) 1 24 Tryz.underlying29 hi hz0 hz1 hz2 rfl (by decide) v _ _ rfl HO2.out ⟨W1.heap.size, 0, none⟩ 1 1 [.slice a' yn c'] rfl rfl (fun j u hj => ?_) (fun u hu => ?_) (by unfold maxLen; omega) (by omega) (by have h1 := HZ2.out; have h2 := HSX.out; omega) ?_
          · cases j with
            | zero => injection hj with hj; subst hj; exact HN2.out
            | succ j => simp at hj
          · simp only [List.mem_singleton] at hu; subst hu; rfl
          intro v4 w4 ho4 hg4 hob4
          have HO4 := Lib.hid ho4
          have HG4 := Lib.hid hg4
          have HOB4 := Lib.hid hob4
          have hst4 : ∀ b, b < W1.heap.size → v.ownBlock ≠ some b → w4.heap[b]? = W1.heap[b]? := fun b hb hne => (hg4.block b (by have := HZ2.out; omega) (fun e => hne e.symm)).trans (HB2.out.block b hb)
          have HS4 := Lib.hid hst4
          have hA4 : Blk w4 A 31 #[.slice va n vc, .slice (some ⟨g, o, none⟩) m rc] := (hst4 A HSL.out.1 (fun e => by have := HOB.out _ e; have := HAX.out; omega)).trans HRD.out.arg
          have hX4 : Blk w4 X 31 #[.slice va n vc, v] := (hst4 X (blk_lt HRD.out.all) (fun e => by have := HOB.out _ e; omega)).trans HRD.out.all
          have hE4 : Blk w4 (A + 1) 31 #[.slice none 0 0, .slice none 0 0] := (hst4 (A + 1) (blk_lt HRD.out.res) (fun e => by have := HOB.out _ e; have := HAX.out; omega)).trans HRD.out.res
          have HA4 := Lib.hid hA4
          have HX4 := Lib.hid hX4
          have HE4 := Lib.hid hE4
          have hb4 : Below w.heap.size w w4 := (fb2 HBW.out HB2.out (Nat.le_refl _)).grown hg4 (Nat.le_trans HBW.out.size HB2.out.size) (fun j hj => by have := HOB.out _ hj; have := HAX.out; have := HAE.out; omega)
          have HB4 := Lib.hid hb4
          clear ho4 hg4 hob4 hst4 hX4 hE4
          refine hK.out _ _ ?_ (fun hHeld => ?_)
          · (try dsimp only); exact ⟨(blk_cell hA4 1).trans rfl, keptC HCL.out hb4 HGW.out⟩
          clear hK K hA4 hb4
          (try simp only [Act.put, List.setIfInBounds_toArray])
          refine wpAnyH_take (i := 9) (oi := ⟨some 40, _, _, _, _, _⟩) (v := ?_) rfl (by kernel_rfl) (by kernel_rfl) (by kernel_rfl) (fun _ _ _ h => h) (Or.inl ⟨by kernel_rfl, ?_⟩) (by assumption) ?_
          rotate_left
          · (intro ww hSw; (try dsimp only at hSw); go_simp); (try with_reducible rfl)
          (try simp only [Act.put])
          refine wpAnyH_ready (rs := [10]) (by kernel_rfl) (by simp) ?_
          refine AllReadyH.cons rfl (fun K hK => ?_) AllReadyH.nil
          refine wp_one_abs 29 (.tmp 40) (.tmp 39) rfl X 1 v4 rfl rfl (own_cells HO4.out).1 (own_cells HO4.out).2 31 [.slice va n vc, v] HX4.out (by kernel_rfl) (by simp) ?_
          intro w5 hX5 hg5
          have hA5 := blk_grown HA4.out (by have := HAX.out; omega) hg5
          have hE5 := blk_grown HE4.out (by have := HAX.out; omega) hg5
          have h4s : W1.heap.size ≤ w4.heap.size := by have h1 := HG4.out.size; have h2 := HZ2.out; omega
          have hb5 : Below w.heap.size w w5 := HB4.out.grown hg5 HB4.out.size (fun j hj => by injection hj with hj; have := HAX.out; have := HAE.out; omega)
          refine hK.out _ _ ?_ (fun hHeld => ?_)
          · (try dsimp only); exact ⟨(blk_cell hA5 1).trans rfl, keptC HCL.out hb5 HGW.out⟩
          clear hK K
          (try simp only [Act.put])
          refine wpAnyH_done (by kernel_rfl) ?_ _
          have HR5 := Lib.hid (show CutR w A X (.slice va n vc) (.slice (some ⟨g, o, none⟩) m rc) v4 ((R.drop off).take (q + 1)) w5 from by
            have hxo : ∀ e, v4.ownBlock = some e → X + 1 ≤ e := fun e he => own_from HO4.out e he
            have hae := HAE.out
            have hax := HAX.out
            have hSt : Stay (fun b => b < A) W1 w5 := ⟨Nat.le_trans h4s hg5.size, fun b hb hk => (hg5.block b (Nat.lt_of_lt_of_le hb h4s) (fun e => by injection e with e; omega)).trans (HS4.out b hb (fun e => by have := HOB.out _ e; omega))⟩
            have h1 : RowCK (fun b => b < A) W1 [.slice a' yn c'] [y] := ⟨rfl, fun j hj => by
              have e : j = 0 := by simp at hj; exact hj
              subst e
              refine ⟨a', c', by have := HYN.out; simp [this], ?_⟩
              have := (HTM.out.k.mono (K' := fun b => b < A) (fun b hb _ => by omega)).on (stay_below HBW.out)
              have e2 := HYN.out
              subst e2
              exact this⟩
            have hold := HRC.out.app h1
            rw [HTK.out] at hold
            refine ⟨hA5, hE5, hX5, ⟨cs ++ [.slice a' yn c'], ?_, hold.on hSt⟩, hb5, ?_⟩
            · rw [← HTK.out, List.length_append, HL1.out]
              exact HO4.out.kept hg5 (.inr (fun e => by have := hxo _ e; omega))
            · have h2 := HSX.out
              have h3 := hg5.size
              omega)
          clear hE5 hA5 hX5 hg5 hb5
          go_wp2
          go_roundg g1
          case measure => omega
          case rel => exact ⟨q + 1, v4, by go_num, .inr (by omega), by omega, by omega, HR5⟩

    · have hF : (R.drop off).take q = cutP R off lim := by
        unfold cutP
        rw [Int.toNat_natCast]
        by_cases hn : lim < 0
        · rw [if_pos hn]
          exact List.take_of_length_le (by rw [List.length_drop, HRL.out]; omega)
        · rw [if_neg hn]
          by_cases hi9 : i < m
          · rw [show lim.toNat = q by omega]
          · rw [List.take_of_length_le (by rw [List.length_drop, HRL.out]; omega), List.take_of_length_le (by rw [List.length_drop, HRL.out]; omega)]
      by_cases hi9 : i < m
      · have q2 : W1.cell? ⟨X, 0, none⟩ = some (.slice va n vc) := (blk_cell HRD.out.all 0).trans rfl
        have q3 : W1.cell? ⟨X, 1, none⟩ = some v := (blk_cell HRD.out.all 1).trans rfl
        have HAX := Lib.hid (show A + 2 = X from hX)
        have k1 : (i : Int) < (m : Int) := by omega
        have hn : ¬ lim < 0 := by omega
        have k3 : ¬ (i : Int) - (off : Int) < lim := by omega
        have hv1 : (#[.slice va n vc, v] : Array Value).all (fun x => x.oneCell') = true := by
          obtain ⟨_, h, _⟩ := HRD.out.own
          have h1 := (own_cells h).2
          have h2 : (Value.slice va n vc).oneCell' = true := rfl
          simp [h1, h2]
        go_wp2_with (refine whole_abs 31 (.tmp 6) (.tmp 41) ⟨rfl, rfl⟩ (A + 1) #[.slice va n vc, v] rfl rfl 31 #[.slice none 0 0, .slice none 0 0] HRD.out.res (by kernel_rfl) rfl hv1 ?_; intro w9 hA9 hG9)
        have hae := HAE.out
        have hax := HAX.out
        have hb9 : Below w.heap.size w w9 := HRD.out.below.grown hG9.out HRD.out.below.size (fun j hj => by injection hj with hj; omega)
        have hSt : Stay (fun b => b < A) W1 w9 := ⟨hG9.out.size, fun b hb hk => hG9.out.block b hb (fun e => by injection e with e; omega)⟩
        obtain ⟨cs, hown, hrc⟩ := HRD.out.own
        rw [hF] at hown hrc
        have hown9 := hown.kept hG9.out (.inr (fun e => by have := hown.lt _ e; omega))
        obtain ⟨a3, c3, rfl, hrow3⟩ := own_rows hown9 (hrc.on hSt) rfl
        have q5 : w9.cell? ⟨A + 1, 0, none⟩ = some (.slice va n vc) := (blk_cell hA9.out 0).trans rfl
        have q6 : w9.cell? ⟨A + 1, 1, none⟩ = some (.slice a3 (cutP R off lim).length c3) := (blk_cell hA9.out 1).trans rfl
        refine bodyPost_ret (v := .agg #[.slice va n vc, .slice a3 (cutP R off lim).length c3]) (by simp [results, Tryz.results29, q5, q6, go_sem]) rfl ⟨_, rfl, ⟨va, n, vc, a3, _, c3, rfl, HV.out.on hb9, hrow3⟩, hb9⟩
      · have q2 : W1.cell? ⟨X, 0, none⟩ = some (.slice va n vc) := (blk_cell HRD.out.all 0).trans rfl
        have q3 : W1.cell? ⟨X, 1, none⟩ = some v := (blk_cell HRD.out.all 1).trans rfl
        have HAX := Lib.hid (show A + 2 = X from hX)
        have k1 : ¬ (i : Int) < (m : Int) := by omega
        have hv1 : (#[.slice va n vc, v] : Array Value).all (fun x => x.oneCell') = true := by
          obtain ⟨_, h, _⟩ := HRD.out.own
          have h1 := (own_cells h).2
          have h2 : (Value.slice va n vc).oneCell' = true := rfl
          simp [h1, h2]
        go_wp2_with (refine whole_abs 31 (.tmp 6) (.tmp 41) ⟨rfl, rfl⟩ (A + 1) #[.slice va n vc, v] rfl rfl 31 #[.slice none 0 0, .slice none 0 0] HRD.out.res (by kernel_rfl) rfl hv1 ?_; intro w9 hA9 hG9)
        have hae := HAE.out
        have hax := HAX.out
        have hb9 : Below w.heap.size w w9 := HRD.out.below.grown hG9.out HRD.out.below.size (fun j hj => by injection hj with hj; omega)
        have hSt : Stay (fun b => b < A) W1 w9 := ⟨hG9.out.size, fun b hb hk => hG9.out.block b hb (fun e => by injection e with e; omega)⟩
        obtain ⟨cs, hown, hrc⟩ := HRD.out.own
        rw [hF] at hown hrc
        have hown9 := hown.kept hG9.out (.inr (fun e => by have := hown.lt _ e; omega))
        obtain ⟨a3, c3, rfl, hrow3⟩ := own_rows hown9 (hrc.on hSt) rfl
        have q5 : w9.cell? ⟨A + 1, 0, none⟩ = some (.slice va n vc) := (blk_cell hA9.out 0).trans rfl
        have q6 : w9.cell? ⟨A + 1, 1, none⟩ = some (.slice a3 (cutP R off lim).length c3) := (blk_cell hA9.out 1).trans rfl
        refine bodyPost_ret (v := .agg #[.slice va n vc, .slice a3 (cutP R off lim).length c3]) (by simp [results, Tryz.results29, q5, q6, go_sem]) rfl ⟨_, rfl, ⟨va, n, vc, a3, _, c3, rfl, HV.out.on hb9, hrow3⟩, hb9⟩

end Go.Proofs.YtkfemnjblbnclaaGreatDoor
