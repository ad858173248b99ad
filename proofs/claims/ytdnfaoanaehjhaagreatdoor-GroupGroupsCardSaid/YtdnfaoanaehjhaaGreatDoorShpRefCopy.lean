/- A table in new memory: the document's Copy (written by gen/mkrcopy12.py). -/
import Derived.Test.YtdnfaoanaehjhaaGreatDoorH10
import Derived.Test.YtdnfaoanaehjhaaGreatDoorShpRowsR
import Derived.Test.YtdnfaoanaehjhaaGreatDoorH7
namespace Go.Proofs.YtdnfaoanaehjhaaGreatDoor
open Go.RowKit Go.Maps

theorem textCells_apx (a b : List (List UInt8)) : textCells (a ++ b) = textCells a ++ textCells b := by unfold textCells; exact List.map_append
structure CpyR (X : Nat) (w0 : World) (us v : Value) (F : List RowL) (wr : World) : Prop where
  all : Blk wr X 25 #[us, v]
  own : ∃ cs, wr.ownsRow (X + 1) 35 1 v F.length cs ∧ RowCK (fun b => X < b ∧ isT wr b) wr cs F
  below : Below X w0 wr
  size : X + 1 ≤ wr.heap.size
theorem cpy_next {X i yn : Nat} {w0 W1 w3 W4 w5 w6 : World} {us v v5 : Value} {R : List RowL} {y : RowL} {cs : List Value} {a3 : Option Addr} {c3 : Nat} (hR : CpyR X w0 us v (R.take i) W1) (hC : RowCK (fun b => X < b ∧ isT W1 b) W1 cs (R.take i))
    (hO : W1.ownsRow (X + 1) 35 1 v i cs) (hl : (R.take i).length = i) (h3 : Below W1.heap.size W1 w3) (h34 : Below w3.heap.size w3 W4) (ht : TrmK (fun b => X + 1 ≤ b ∧ isT w3 b) w3 a3 yn c3 y) (hy : y.length = yn) (hTK : R.take i ++ [y] = R.take (i + 1))
    (h5 : w5.ownsRow (X + 1) 35 1 v5 (i + 1) (cs ++ [.slice a3 yn c3])) (g5 : W4.grownBy w5 v.ownBlock) (hX6 : Blk w6 X 25 ([us, v].set 1 v5).toArray) (g6 : w5.grownBy w6 (some X)) (hb6 : Below X W1 w6) : CpyR X w0 us v5 (R.take (i + 1)) w6 := by
  have hs4 : w3.heap.size ≤ w5.heap.size := Nat.le_trans h34.size g5.size
  have hst : ∀ b, b < W1.heap.size → X < b → isT W1 b → w6.heap[b]? = W1.heap[b]? := fun b hb hx hT => (g6.block b (Nat.lt_of_lt_of_le hb (Nat.le_trans h3.size hs4)) (fun e => by injection e with e; omega)).trans ((g5.block b (Nat.lt_of_lt_of_le hb (Nat.le_trans h3.size h34.size)) (fun e => own_notT hO row_trm hT e.symm)).trans ((h34.block b (Nat.lt_of_lt_of_le hb h3.size)).trans (h3.block b hb)))
  have hO3 : w3.ownsRow (X + 1) 35 1 v i cs := hO.kept (row := none) ⟨h3.os, h3.tape, h3.output, h3.size, fun b hb _ => h3.block b hb⟩ (by
    cases hq : v.ownBlock with
    | none => exact .inl rfl
    | some x => exact .inr (by simp))
  have hst3 : ∀ b, b < w3.heap.size → X < b → isT w3 b → w6.heap[b]? = w3.heap[b]? := fun b hb hx hT => (g6.block b (Nat.lt_of_lt_of_le hb hs4) (fun e => by injection e with e; omega)).trans ((g5.block b (Nat.lt_of_lt_of_le hb h34.size) (fun e => own_notT hO3 row_trm hT e.symm)).trans (h34.block b hb))
  have h1 : RowCK (fun b => X < b ∧ isT w6 b) w6 cs (R.take i) := (hC.on ⟨hb6.size, fun b hb hk => hst b hb hk.1 hk.2⟩).mono (fun b _ hk => ⟨hk.1, isT_same hk.2 (hst b (by obtain ⟨_, hc⟩ := hk.2; exact blk_lt hc) hk.1 hk.2)⟩)
  have ht6 : TrmK (fun b => X < b ∧ isT w6 b) w6 a3 yn c3 y := (ht.on ⟨Nat.le_trans hs4 g6.size, fun b hb hk => hst3 b hb hk.1 hk.2⟩).mono (fun b _ hk => ⟨hk.1, isT_same hk.2 (hst3 b (by obtain ⟨_, hc⟩ := hk.2; exact blk_lt hc) hk.1 hk.2)⟩)
  have h2 : RowCK (fun b => X < b ∧ isT w6 b) w6 [.slice a3 yn c3] [y] := ⟨rfl, fun j hj => by
    have e : j = 0 := by simp at hj; exact hj
    subst e
    subst hy
    exact ⟨a3, c3, rfl, ht6⟩⟩
  have h12 := h1.app h2
  rw [hTK] at h12
  have hl2 : (R.take (i + 1)).length = i + 1 := by rw [← hTK, List.length_append, hl]; rfl
  refine ⟨hX6, ⟨cs ++ [.slice a3 yn c3], ?_, h12⟩, hR.below.trans hb6, by have h1 := hR.size; have h2 := hb6.size; omega⟩
  rw [hl2]
  exact h5.kept g6 (.inr (fun e => by have := (h5.lt X e).1; omega))

set_option maxRecDepth 100000 in
set_option maxHeartbeats 8000000 in
theorem rCopy_calls (V : List (List UInt8)) (R : List RowL) (tv : Value) (w : World) (ht : TabA w tv V R) (h40 : R.length ≤ 40) (h33 : V.length ≤ 33) (hrl : ∀ r ∈ R, r.length * 56 ≤ 140737488355328) :
    Calls Tryz.prog 13 #[tv] w fun e w' => ∃ uv, e = .returned uv ∧ OwnTab w.heap.size w' uv V R ∧ Below w.heap.size w w' := by
  obtain ⟨i0, hi, hz0, hz1, hz2⟩ := info_parts info_row
  obtain ⟨j0, hj, hj0, hj1, hj2⟩ := info_parts info_term
  obtain ⟨s0, hs, hs0, hs1, hs2⟩ := info_parts info_text
  obtain ⟨va, n, vc, ra, m, rc, rfl, hV, hR⟩ := ht
  have HV := Lib.hid hV
  have HR := Lib.hid hR
  have HRL := Lib.hid hR.len
  have HVL := Lib.hid hV.len
  have HRW := Lib.hid hrl
  have hm40 : m ≤ 40 := by rw [← hR.len]; exact h40
  have hn33 : n ≤ 33 := by rw [← hV.len]; exact h33
  obtain ⟨A, hA⟩ : ∃ A, w.heap.size = A := ⟨_, rfl⟩
  have HAE := Lib.hid hA
  obtain ⟨W0, hW0⟩ : ∃ W0, ((w.alloc (.cells #[.slice va n vc, .slice ra m rc] 25)).alloc (.cells #[.slice none 0 0, .slice none 0 0] 25)).alloc (.cells #[] 9) = W0 := ⟨_, rfl⟩
  have HW0 := Lib.hid hW0
  have HB0 := Lib.hid (show Below w.heap.size w W0 by rw [← hW0]; exact fb2 (two_alloc _ _ _) (box_below _ _) (Nat.le_refl _))
  have HZ0 := Lib.hid (show W0.heap.size = A + 3 by rw [← hW0, ← hA]; simp)
  have HA0 := Lib.hid (show Blk W0 A 25 #[.slice va n vc, .slice ra m rc] by rw [← hW0, ← hA]; exact blk_alloc (blk_alloc (blk_new _ _ _) _) _)
  have HE0 := Lib.hid (show Blk W0 (A + 1) 25 #[.slice none 0 0, .slice none 0 0] by
    rw [← hW0]
    refine blk_alloc ?_ _
    have := blk_new (w.alloc (.cells #[.slice va n vc, .slice ra m rc] 25)) 25 #[.slice none 0 0, .slice none 0 0]
    rw [World.size_alloc, hA] at this
    exact this)
  have HO0 := Lib.hid (show W0.ownsRow (A + 1 + 1) 9 1 (.slice (some ⟨A + 1 + 1, 0, none⟩) 0 0) 0 (textCells []) by
    rw [← hW0]
    have := World.ownsRow_lit (base := A + 1 + 1) (e := 9) (size := 1) ((w.alloc (.cells #[.slice va n vc, .slice ra m rc] 25)).alloc (.cells #[.slice none 0 0, .slice none 0 0] 25)) #[] 0 (by simp; omega) (by unfold maxLen; omega) rfl
    rw [World.size_alloc, World.size_alloc, hA] at this
    exact this)
  have q0 : W0.cell? ⟨A, 0, none⟩ = some (.slice va n vc) := (blk_cell HA0.out 0).trans rfl
  have HVN := Lib.hid ((hV.on HB0.out).news)
  have HTL := Lib.hid (show (textCells V).length = n * 1 by unfold textCells; rw [List.length_map, hV.len, Nat.mul_one])
  have HVB := Lib.hid (show 0 + n ≤ maxLen by unfold maxLen; omega)
  clear hA hW0 h40 h33 hV hR hrl
  go_enter Tryz.func13, Tryz.ntmps13
  go_wp2_with (at_builtin; go_loud (rw [HW0.out, HAE.out]; refine append_any (.tmp 5) (.tmp 7) 22 ⟨rfl, rfl⟩ (A + 1 + 1) 9 s0 (.string ⟨#[]⟩) 1 16 Tryz.underlying22 hs hs0 hs1 hs2 rfl (by decide) _ 0 _ rfl HO0.out va n vc (textCells V) rfl HTL.out HVN.out textCells_cell HVB.out (by omega) (by have := HZ0.out; omega) ?_; intro v8 w8 ho8 hg8 _; rw [← textCells_apx, List.nil_append, Nat.zero_add] at ho8; obtain ⟨ua, uc, rfl, hu8⟩ := own_txts ho8.out; have HU8 := Lib.hid hu8; have HB8 := Lib.hid (show Below (A + 1 + 1) W0 w8 from (Below.refl _ _).grown hg8.out (by have := HZ0.out; omega) (fun b hb => by have e : A + 1 + 1 = b := Option.some.inj hb; omega)); have HZ8 := Lib.hid (show A + 3 ≤ w8.heap.size by have h1 := HZ0.out; have h2 := hg8.out.size; omega); clear ho8 hg8 hu8))
  obtain ⟨X, hX⟩ : ∃ X, w8.heap.size = X := ⟨_, rfl⟩
  obtain ⟨w0, hw0⟩ : ∃ w0, w8.alloc (.cells #[.slice ua n uc, .slice none 0 0] 25) = w0 := ⟨_, rfl⟩
  have HB80 := Lib.hid (show Below w8.heap.size w8 w0 by rw [← hw0]; exact box_below _ _)
  have HXA := Lib.hid (show A + 3 ≤ X by have := HZ8.out; omega)
  have HX8 := Lib.hid hX
  have HBW0 := Lib.hid (show Below w.heap.size w w0 from (HB0.out.trans (HB8.out.mono (by have := HAE.out; omega))).trans (HB80.out.mono (by have h1 := HAE.out; have h2 := HZ8.out; omega)))
  have HBA0 := Lib.hid (show Blk w0 A 25 #[.slice va n vc, .slice ra m rc] from blk_on (blk_on HA0.out HB8.out (by omega)) HB80.out (by have := HZ8.out; omega))
  have HBE0 := Lib.hid (show Blk w0 (A + 1) 25 #[.slice none 0 0, .slice none 0 0] from blk_on (blk_on HE0.out HB8.out (by omega)) HB80.out (by have := HZ8.out; omega))
  have HTU := Lib.hid (show TxtK (fun b => w.heap.size ≤ b ∧ A + 1 < b ∧ b < X ∧ ¬ isT w0 b) w0 ua n uc V from
    ((HU8.out.mono (K' := fun b => b < w8.heap.size ∧ A + 1 + 1 ≤ b ∧ ¬ isT w8 b) (fun b hb hk => ⟨hb, hk⟩)).on (stay_below HB80.out |>.mono (fun b _ hk => trivial))).mono (fun b _ hk => ⟨by have := HAE.out; omega, by omega, by have := HX8.out; omega, fun c => hk.2.2 (isT_same c (HB80.out.block b hk.1).symm)⟩))
  have HS0 := Lib.hid (show CpyR X w0 (.slice ua n uc) (.slice none 0 0) (R.take 0) w0 from ⟨by rw [← hw0, ← hX]; exact blk_new _ _ _, ⟨[], by rw [List.take_zero]; exact World.ownsRow_nil _ _ _ _, by rw [List.take_zero]; exact rowCK_nil _ _⟩, Below.refl _ _, by rw [← hw0, ← hX]; simp⟩)
  have HLE := Lib.hid (show w.heap.size ≤ X by have h1 := HAE.out; have h2 := HXA.out; omega)
  have HAX := Lib.hid (show A + 1 < X by have := HXA.out; omega)
  rw [hw0, hX]
  clear hw0 hX q0 HU8 HB8 HZ8 HB80 HX8 HO0 HVN HTL HVB HW0 HB0 HZ0 HA0 HE0 HXA
  go_loopg [4] m (fun g i wr => ∃ (i' : Nat) (v : Value), i = .int .i64 i' ∧ i' + g = m ∧ Hid (CpyR X w0 (.slice ua n uc) v (R.take i') wr))
  case atStart => exact ⟨0, _, rfl, by omega, HS0⟩
  case round =>
    obtain ⟨W1, rfl⟩ : ∃ W1, W1 = wr := ⟨_, rfl⟩
    obtain ⟨i, v, rfl, hig, HRD⟩ := hrel
    have HBW := Lib.hid (HBW0.out.trans (HRD.out.below.mono HLE.out))
    have q1 : W1.cell? ⟨A, 1, none⟩ = some (.slice ra m rc) := (blk_cell (blk_on HBA0.out HRD.out.below (by have := HAX.out; omega)) 1).trans rfl
    have k0 : (0 : Int) ≤ (i : Int) := by omega
    by_cases him : i < m
    · obtain ⟨g1, rfl⟩ : ∃ g1, gk = g1 + 1 := ⟨gk - 1, by omega⟩
      have hiL : i < R.length := by rw [HRL.out]; exact him
      obtain ⟨g, o, rfl, hgw, hcells⟩ := HR.out.cells (by omega)
      obtain ⟨a', c', hcell, htrm⟩ := hcells i hiL
      have HTK := Lib.hid (show R.take i ++ [R[i]] = R.take (i + 1) from (List.take_succ_eq_append_getElem hiL).symm)
      have HYM := Lib.hid (HRW.out _ (List.getElem_mem hiL))
      have HTM := Lib.hid (htrm.on HBW.out)
      generalize R[i] = y at hcell HTM HTK HYM
      clear htrm
      generalize hyn : y.length = yn at hcell HTM HYM
      have HYN := Lib.hid hyn
      have HSA := Lib.hid (show W1.cell? ⟨A, 1, none⟩ = some (.slice (some ⟨g, o, none⟩) m rc) ∧ W1.cell? ⟨g, o + i, none⟩ = some (.slice a' yn c') from ⟨q1, keptC hcell HBW.out hgw⟩)
      have HSL := Lib.hid (show A < W1.heap.size ∧ g < W1.heap.size from ⟨by have h1 := HAX.out; have h2 := HRD.out.size; omega, Nat.lt_of_lt_of_le hgw HBW.out.size⟩)
      have HGX := Lib.hid (show g < X from Nat.lt_of_lt_of_le hgw HLE.out)
      have HQ1 := Lib.hid (show W1.cell? ⟨X, 1, none⟩ = some v from (blk_cell HRD.out.all 1).trans rfl)
      have HXL := Lib.hid (blk_lt HRD.out.all)
      have HSX := Lib.hid HRD.out.size
      have HL1 := Lib.hid (show (R.take i).length = i by rw [List.length_take, HRL.out]; omega)
      obtain ⟨cs, hown, hrc⟩ := HRD.out.own
      rw [HL1.out] at hown
      have HOW := Lib.hid hown
      have HRC := Lib.hid hrc
      have HOB : Hid (∀ e, Value.ownBlock v = some e → X + 1 ≤ e) := Lib.hid (fun e he => (hown.lt e he).1)
      have k1 : (i : Int) < (m : Int) := by omega
      clear hcells hcell hyn hiL hown hrc hgw
      go_wp2_with fail
      refine wp_region_held_drew (S := (fun W => W.cell? ⟨A, 1, none⟩ = some (.slice (some ⟨g, o, none⟩) m rc) ∧ W.cell? ⟨g, o + i, none⟩ = some (.slice a' yn c'))) (by kernel_rfl) ?_ (fun hHeld => ?_)
      · (try dsimp only); exact HSA.out
      obtain ⟨Wd, hWd⟩ : ∃ Wd, W1.drew = Wd := ⟨_, rfl⟩
      rw [hWd] at hHeld ⊢
      have HBD := Lib.hid (show Below W1.heap.size W1 Wd by rw [← hWd]; exact (Below.refl _ _).drew)
      have HDZ := Lib.hid (show Wd.heap.size = W1.heap.size by rw [← hWd]; rfl)
      have HQD := Lib.hid (keptC HQ1.out HBD.out HXL.out)
      obtain ⟨W2, hW2⟩ : ∃ W2, Wd.alloc (.cells #[] 37) = W2 := ⟨_, rfl⟩
      have HW2 := Lib.hid hW2
      clear hWd hW2
      refine wpAnyH_take (i := 0) (oi := ⟨some 17, _, _, _, _, _⟩) (v := ?_) rfl (by kernel_rfl) (by kernel_rfl) (by kernel_rfl) (fun _ _ _ h => h) (Or.inl ⟨by kernel_rfl, ?_⟩) (by assumption) ?_
      rotate_left
      · (intro ww hSw; (try dsimp only at hSw); go_simp); (try with_reducible rfl)
      (try simp only [Act.put, List.setIfInBounds_toArray, List.set_cons_zero, List.set_cons_succ])
      refine wpAnyH_take (i := 3) (oi := ⟨some 20, _, _, _, _, _⟩) (v := ?_) rfl (by kernel_rfl) (by kernel_rfl) (by kernel_rfl) (fun _ _ _ h => h) (Or.inl ⟨by kernel_rfl, ?_⟩) (by assumption) ?_
      rotate_left
      · (intro ww hSw; (try dsimp only at hSw); go_simp); (try with_reducible rfl)
      (try simp only [Act.put, List.setIfInBounds_toArray, List.set_cons_zero, List.set_cons_succ])
      refine wpAnyH_take (i := 4) (oi := ⟨some 21, _, _, _, _, _⟩) (v := ?_) rfl (by kernel_rfl) (by kernel_rfl) (by kernel_rfl) (fun _ _ _ h => h) (Or.inl ⟨by kernel_rfl, ?_⟩) (by assumption) ?_
      rotate_left
      · (intro ww hSw; (try dsimp only at hSw); obtain ⟨d1, _⟩ := hSw; go_simp); (try with_reducible rfl)
      (try simp only [Act.put, List.setIfInBounds_toArray, List.set_cons_zero, List.set_cons_succ])
      refine wpAnyH_take (i := 5) (oi := ⟨some 22, _, _, _, _, _⟩) (v := ?_) rfl (by kernel_rfl) (by kernel_rfl) (by kernel_rfl) (fun _ _ _ h => h) (Or.inl ⟨by kernel_rfl, ?_⟩) (by assumption) ?_
      rotate_left
      · (intro ww hSw; (try dsimp only at hSw); go_simp); (try with_reducible rfl)
      (try simp only [Act.put, List.setIfInBounds_toArray, List.set_cons_zero, List.set_cons_succ])
      refine wpAnyH_take (i := 6) (oi := ⟨some 23, _, _, _, _, _⟩) (v := ?_) rfl (by kernel_rfl) (by kernel_rfl) (by kernel_rfl) (fun _ _ _ h => h) (Or.inl ⟨by kernel_rfl, ?_⟩) (by assumption) ?_
      rotate_left
      · (intro ww hSw; (try dsimp only at hSw); go_simp); (try with_reducible rfl)
      (try simp only [Act.put, List.setIfInBounds_toArray, List.set_cons_zero, List.set_cons_succ])
      refine wpAnyH_take (i := 7) (oi := ⟨some 24, _, _, _, _, _⟩) (v := ?_) rfl (by kernel_rfl) (by kernel_rfl) (by kernel_rfl) (fun _ _ _ h => h) (Or.inl ⟨by kernel_rfl, ?_⟩) (by assumption) ?_
      rotate_left
      · (intro ww hSw; (try dsimp only at hSw); obtain ⟨_, d1⟩ := hSw; go_simp); (try with_reducible rfl)
      (try simp only [Act.put, List.setIfInBounds_toArray, List.set_cons_zero, List.set_cons_succ])
      refine wpAnyH_ready (rs := [1, 2]) (by kernel_rfl) (by simp) ?_
      refine AllReadyH.cons rfl (fun K hK => ?_) (AllReadyH.cons rfl (fun K hK => ?_) (AllReadyH.nil))
      · have hqv : Wd.cell? ⟨X, 1, none⟩ = some v := HQD.out
        go_simp
        clear hqv
        refine hK.out _ _ ?_ (fun hHeld => ?_)
        · exact hHeld
        clear hK K
        (try simp only [Act.put, List.setIfInBounds_toArray, List.set_cons_zero, List.set_cons_succ])
        refine wpAnyH_ready (rs := [2]) (by kernel_rfl) (by simp) ?_
        refine AllReadyH.cons rfl (fun K hK => ?_) (AllReadyH.nil)
        go_simp
        rw [HW2.out]
        have HO2 := Lib.hid (show W2.ownsRow (X + 1) 37 4 (.slice (some ⟨Wd.heap.size, 0, none⟩) 0 0) 0 (cellsT []) by rw [← HW2.out]; exact World.ownsRow_lit Wd #[] 0 (by have h1 := HSX.out; have h2 := HDZ.out; omega) (by unfold maxLen; omega) rfl)
        have HB2 := Lib.hid (show Below W1.heap.size W1 W2 by rw [← HW2.out]; exact fb2 HBD.out (box_below _ _) (Nat.le_refl _))
        have HS2 := Lib.hid (show W2.cell? ⟨A, 1, none⟩ = some (.slice (some ⟨g, o, none⟩) m rc) ∧ W2.cell? ⟨g, o + i, none⟩ = some (.slice a' yn c') from ⟨keptC HSA.out.1 HB2.out HSL.out.1, keptC HSA.out.2 HB2.out HSL.out.2⟩)
        have HQ2 := Lib.hid (keptC HQ1.out HB2.out HXL.out)
        refine hK.out _ _ ?_ (fun hHeld => ?_)
        · exact HS2.out
        clear hK K
        (try simp only [Act.put, List.setIfInBounds_toArray, List.set_cons_zero, List.set_cons_succ])
        refine wpAnyH_ready (rs := [8]) (by kernel_rfl) (by simp) ?_
        refine AllReadyH.cons rfl (fun K hK => ?_) (AllReadyH.nil)
        refine wp_append_any (.tmp 19) (.tmp 24) 35 rfl (X + 1) 37 j0 nilT.v 4 56 Tryz.underlying35 hj hj0 hj1 hj2 rfl (by decide) _ 0 _ rfl HO2.out a' yn c' (cellsT y) rfl (by rw [cellsT_length, HYN.out]) ((HTM.out.on HB2.out).news) cellsT_cell (by have := HYM.out; unfold maxLen; omega) (by have := HYM.out; omega) (by have h1 := HSX.out; have h2 := HB2.out.size; omega) ?_
        intro v3 w3 ho3 hg3 _
        rw [← cellsT_append, List.nil_append, Nat.zero_add] at ho3
        obtain ⟨a3, c3, rfl, ht3⟩ := own_trms ho3
        have HT3 := Lib.hid ht3
        have HB3 := Lib.hid (show Below W1.heap.size W1 w3 from HB2.out.grown hg3 HB2.out.size (fun b hb => by have e : Wd.heap.size = b := Option.some.inj hb; have h2 := HDZ.out; omega))
        have HS3 := Lib.hid (show w3.cell? ⟨A, 1, none⟩ = some (.slice (some ⟨g, o, none⟩) m rc) ∧ w3.cell? ⟨g, o + i, none⟩ = some (.slice a' yn c') from ⟨keptC HSA.out.1 HB3.out HSL.out.1, keptC HSA.out.2 HB3.out HSL.out.2⟩)
        have HQ3 := Lib.hid (keptC HQ1.out HB3.out HXL.out)
        clear ho3 hg3 ht3
        refine hK.out _ _ ?_ (fun hHeld => ?_)
        · exact HS3.out
        clear hK K
        (try simp only [Act.put, List.setIfInBounds_toArray])
        refine wpAnyH_ready (rs := [9]) (by kernel_rfl) (by simp) ?_
        refine AllReadyH.cons rfl (fun K hK => ?_) (AllReadyH.nil)
        go_simp
        obtain ⟨W4, hW4⟩ : ∃ W4, w3.alloc (.cells #[.slice a3 yn c3] 35) = W4 := ⟨_, rfl⟩
        rw [hW4]
        have HB34 := Lib.hid (show Below w3.heap.size w3 W4 by rw [← hW4]; exact box_below _ _)
        have HB4 := Lib.hid (fb2 HB3.out HB34.out (Nat.le_refl _))
        have HN4 : Hid (W4.cell? ⟨w3.heap.size, 0, none⟩ = some (.slice a3 yn c3)) := Lib.hid (by rw [← hW4]; exact blk_cell (blk_new w3 35 #[.slice a3 yn c3]) 0)
        have HS4 := Lib.hid (show W4.cell? ⟨A, 1, none⟩ = some (.slice (some ⟨g, o, none⟩) m rc) ∧ W4.cell? ⟨g, o + i, none⟩ = some (.slice a' yn c') from ⟨keptC HSA.out.1 HB4.out HSL.out.1, keptC HSA.out.2 HB4.out HSL.out.2⟩)
        have HQ4 := Lib.hid (keptC HQ1.out HB4.out HXL.out)
        have HZ4 := Lib.hid (show X + 1 ≤ W4.heap.size by have h1 := HSX.out; have h2 := HB4.out.size; omega)
        have HO4 := Lib.hid (HOW.out.kept (row := none) ⟨HB4.out.os, HB4.out.tape, HB4.out.output, HB4.out.size, fun b hb _ => HB4.out.block b hb⟩ (by
          cases hq : v.ownBlock with
          | none => exact .inl rfl
          | some x => exact .inr (by simp)))
        clear hW4
        refine hK.out _ _ ?_ (fun hHeld => ?_)
        · exact HS4.out
        clear hK K
        (try simp only [Act.put, List.setIfInBounds_toArray, List.set_cons_zero, List.set_cons_succ])
        refine wpAnyH_ready (rs := [10]) (by kernel_rfl) (by simp) ?_
        refine AllReadyH.cons rfl (fun K hK => ?_) (AllReadyH.nil)
        refine wp_append_own (.tmp 18) (.tmp 26) 23 rfl (X + 1) 35 i0 (.slice none 0 0) 1 24 Tryz.underlying23 hi hz0 hz1 hz2 rfl (by decide) v _ _ rfl HO4.out ⟨w3.heap.size, 0, none⟩ 1 1 [.slice a3 yn c3] rfl rfl (fun j u hj => ?_) (fun u hu => ?_) (by unfold maxLen; omega) (by omega) HZ4.out ?_
        · cases j with
          | zero => injection hj with hj; subst hj; exact HN4.out
          | succ j => simp at hj
        · simp only [List.mem_singleton] at hu; subst hu; rfl
        intro v5 w5 ho5 hg5 _
        have HO5 := Lib.hid ho5
        have HG5 := Lib.hid hg5
        have HB5 := Lib.hid (show Below (X + 1) W1 w5 from (HB4.out.mono HSX.out).grown hg5 (Nat.le_trans HSX.out HB4.out.size) (fun b hb => HOB.out _ hb))
        have HS5 := Lib.hid (show w5.cell? ⟨A, 1, none⟩ = some (.slice (some ⟨g, o, none⟩) m rc) ∧ w5.cell? ⟨g, o + i, none⟩ = some (.slice a' yn c') from ⟨keptC HSA.out.1 HB5.out (by have := HAX.out; omega), keptC HSA.out.2 HB5.out (by have := HGX.out; omega)⟩)
        have HX5 := Lib.hid (blk_on HRD.out.all HB5.out (Nat.lt_succ_self X))
        clear ho5 hg5
        refine hK.out _ _ ?_ (fun hHeld => ?_)
        · exact HS5.out
        clear hK K
        (try simp only [Act.put, List.setIfInBounds_toArray])
        refine wpAnyH_take (i := 11) (oi := ⟨some 28, _, _, _, _, _⟩) (v := ?_) rfl (by kernel_rfl) (by kernel_rfl) (by kernel_rfl) (fun _ _ _ h => h) (Or.inl ⟨by kernel_rfl, ?_⟩) (by assumption) ?_
        rotate_left
        · (intro ww hSw; (try dsimp only at hSw); go_simp); (try with_reducible rfl)
        (try simp only [Act.put])
        refine wpAnyH_ready (rs := [12]) (by kernel_rfl) (by simp) ?_
        refine AllReadyH.cons rfl (fun K hK => ?_) (AllReadyH.nil)
        refine wp_one_abs 23 (.tmp 28) (.tmp 27) rfl X 1 v5 rfl rfl (own_cells HO5.out).1 (own_cells HO5.out).2 25 [.slice ua n uc, v] HX5.out (by kernel_rfl) (by simp) ?_
        intro w6 hX6 hg6
        have HB6 := Lib.hid (show Below X W1 w6 from (HB5.out.mono (Nat.le_succ X)).grown hg6 (by have h1 := HSX.out; have h2 := HB5.out.size; omega) (fun b hb => by injection hb with hb; omega))
        refine hK.out _ _ ?_ (fun hHeld => ?_)
        · exact ⟨keptC HSA.out.1 HB6.out (by have := HAX.out; omega), keptC HSA.out.2 HB6.out HGX.out⟩
        clear hK K
        (try simp only [Act.put])
        refine wpAnyH_done (by kernel_rfl) ?_ _
        have HR6 := Lib.hid (show CpyR X w0 (.slice ua n uc) v5 (R.take (i + 1)) w6 from cpy_next HRD.out HRC.out HOW.out HL1.out HB3.out HB34.out HT3.out HYN.out HTK.out HO5.out HG5.out hX6 hg6 HB6.out)
        clear hX6 hg6
        go_wp2
        go_roundg g1
        case measure => omega
        case rel => exact ⟨i + 1, v5, by go_num, by omega, HR6⟩
      · go_simp
        rw [HW2.out]
        have HO2 := Lib.hid (show W2.ownsRow (X + 1) 37 4 (.slice (some ⟨Wd.heap.size, 0, none⟩) 0 0) 0 (cellsT []) by rw [← HW2.out]; exact World.ownsRow_lit Wd #[] 0 (by have h1 := HSX.out; have h2 := HDZ.out; omega) (by unfold maxLen; omega) rfl)
        have HB2 := Lib.hid (show Below W1.heap.size W1 W2 by rw [← HW2.out]; exact fb2 HBD.out (box_below _ _) (Nat.le_refl _))
        have HS2 := Lib.hid (show W2.cell? ⟨A, 1, none⟩ = some (.slice (some ⟨g, o, none⟩) m rc) ∧ W2.cell? ⟨g, o + i, none⟩ = some (.slice a' yn c') from ⟨keptC HSA.out.1 HB2.out HSL.out.1, keptC HSA.out.2 HB2.out HSL.out.2⟩)
        have HQ2 := Lib.hid (keptC HQ1.out HB2.out HXL.out)
        refine hK.out _ _ ?_ (fun hHeld => ?_)
        · exact HS2.out
        clear hK K
        (try simp only [Act.put, List.setIfInBounds_toArray, List.set_cons_zero, List.set_cons_succ])
        refine wpAnyH_ready (rs := [1, 8]) (by kernel_rfl) (by simp) ?_
        refine AllReadyH.cons rfl (fun K hK => ?_) (AllReadyH.cons rfl (fun K hK => ?_) (AllReadyH.nil))
        · have hqv : W2.cell? ⟨X, 1, none⟩ = some v := HQ2.out
          go_simp
          clear hqv
          refine hK.out _ _ ?_ (fun hHeld => ?_)
          · exact hHeld
          clear hK K
          (try simp only [Act.put, List.setIfInBounds_toArray, List.set_cons_zero, List.set_cons_succ])
          refine wpAnyH_ready (rs := [8]) (by kernel_rfl) (by simp) ?_
          refine AllReadyH.cons rfl (fun K hK => ?_) (AllReadyH.nil)
          refine wp_append_any (.tmp 19) (.tmp 24) 35 rfl (X + 1) 37 j0 nilT.v 4 56 Tryz.underlying35 hj hj0 hj1 hj2 rfl (by decide) _ 0 _ rfl HO2.out a' yn c' (cellsT y) rfl (by rw [cellsT_length, HYN.out]) ((HTM.out.on HB2.out).news) cellsT_cell (by have := HYM.out; unfold maxLen; omega) (by have := HYM.out; omega) (by have h1 := HSX.out; have h2 := HB2.out.size; omega) ?_
          intro v3 w3 ho3 hg3 _
          rw [← cellsT_append, List.nil_append, Nat.zero_add] at ho3
          obtain ⟨a3, c3, rfl, ht3⟩ := own_trms ho3
          have HT3 := Lib.hid ht3
          have HB3 := Lib.hid (show Below W1.heap.size W1 w3 from HB2.out.grown hg3 HB2.out.size (fun b hb => by have e : Wd.heap.size = b := Option.some.inj hb; have h2 := HDZ.out; omega))
          have HS3 := Lib.hid (show w3.cell? ⟨A, 1, none⟩ = some (.slice (some ⟨g, o, none⟩) m rc) ∧ w3.cell? ⟨g, o + i, none⟩ = some (.slice a' yn c') from ⟨keptC HSA.out.1 HB3.out HSL.out.1, keptC HSA.out.2 HB3.out HSL.out.2⟩)
          have HQ3 := Lib.hid (keptC HQ1.out HB3.out HXL.out)
          clear ho3 hg3 ht3
          refine hK.out _ _ ?_ (fun hHeld => ?_)
          · exact HS3.out
          clear hK K
          (try simp only [Act.put, List.setIfInBounds_toArray])
          refine wpAnyH_ready (rs := [9]) (by kernel_rfl) (by simp) ?_
          refine AllReadyH.cons rfl (fun K hK => ?_) (AllReadyH.nil)
          go_simp
          obtain ⟨W4, hW4⟩ : ∃ W4, w3.alloc (.cells #[.slice a3 yn c3] 35) = W4 := ⟨_, rfl⟩
          rw [hW4]
          have HB34 := Lib.hid (show Below w3.heap.size w3 W4 by rw [← hW4]; exact box_below _ _)
          have HB4 := Lib.hid (fb2 HB3.out HB34.out (Nat.le_refl _))
          have HN4 : Hid (W4.cell? ⟨w3.heap.size, 0, none⟩ = some (.slice a3 yn c3)) := Lib.hid (by rw [← hW4]; exact blk_cell (blk_new w3 35 #[.slice a3 yn c3]) 0)
          have HS4 := Lib.hid (show W4.cell? ⟨A, 1, none⟩ = some (.slice (some ⟨g, o, none⟩) m rc) ∧ W4.cell? ⟨g, o + i, none⟩ = some (.slice a' yn c') from ⟨keptC HSA.out.1 HB4.out HSL.out.1, keptC HSA.out.2 HB4.out HSL.out.2⟩)
          have HQ4 := Lib.hid (keptC HQ1.out HB4.out HXL.out)
          have HZ4 := Lib.hid (show X + 1 ≤ W4.heap.size by have h1 := HSX.out; have h2 := HB4.out.size; omega)
          have HO4 := Lib.hid (HOW.out.kept (row := none) ⟨HB4.out.os, HB4.out.tape, HB4.out.output, HB4.out.size, fun b hb _ => HB4.out.block b hb⟩ (by
            cases hq : v.ownBlock with
            | none => exact .inl rfl
            | some x => exact .inr (by simp)))
          clear hW4
          refine hK.out _ _ ?_ (fun hHeld => ?_)
          · exact HS4.out
          clear hK K
          (try simp only [Act.put, List.setIfInBounds_toArray, List.set_cons_zero, List.set_cons_succ])
          refine wpAnyH_ready (rs := [10]) (by kernel_rfl) (by simp) ?_
          refine AllReadyH.cons rfl (fun K hK => ?_) (AllReadyH.nil)
          refine wp_append_own (.tmp 18) (.tmp 26) 23 rfl (X + 1) 35 i0 (.slice none 0 0) 1 24 Tryz.underlying23 hi hz0 hz1 hz2 rfl (by decide) v _ _ rfl HO4.out ⟨w3.heap.size, 0, none⟩ 1 1 [.slice a3 yn c3] rfl rfl (fun j u hj => ?_) (fun u hu => ?_) (by unfold maxLen; omega) (by omega) HZ4.out ?_
          · cases j with
            | zero => injection hj with hj; subst hj; exact HN4.out
            | succ j => simp at hj
          · simp only [List.mem_singleton] at hu; subst hu; rfl
          intro v5 w5 ho5 hg5 _
          have HO5 := Lib.hid ho5
          have HG5 := Lib.hid hg5
          have HB5 := Lib.hid (show Below (X + 1) W1 w5 from (HB4.out.mono HSX.out).grown hg5 (Nat.le_trans HSX.out HB4.out.size) (fun b hb => HOB.out _ hb))
          have HS5 := Lib.hid (show w5.cell? ⟨A, 1, none⟩ = some (.slice (some ⟨g, o, none⟩) m rc) ∧ w5.cell? ⟨g, o + i, none⟩ = some (.slice a' yn c') from ⟨keptC HSA.out.1 HB5.out (by have := HAX.out; omega), keptC HSA.out.2 HB5.out (by have := HGX.out; omega)⟩)
          have HX5 := Lib.hid (blk_on HRD.out.all HB5.out (Nat.lt_succ_self X))
          clear ho5 hg5
          refine hK.out _ _ ?_ (fun hHeld => ?_)
          · exact HS5.out
          clear hK K
          (try simp only [Act.put, List.setIfInBounds_toArray])
          refine wpAnyH_take (i := 11) (oi := ⟨some 28, _, _, _, _, _⟩) (v := ?_) rfl (by kernel_rfl) (by kernel_rfl) (by kernel_rfl) (fun _ _ _ h => h) (Or.inl ⟨by kernel_rfl, ?_⟩) (by assumption) ?_
          rotate_left
          · (intro ww hSw; (try dsimp only at hSw); go_simp); (try with_reducible rfl)
          (try simp only [Act.put])
          refine wpAnyH_ready (rs := [12]) (by kernel_rfl) (by simp) ?_
          refine AllReadyH.cons rfl (fun K hK => ?_) (AllReadyH.nil)
          refine wp_one_abs 23 (.tmp 28) (.tmp 27) rfl X 1 v5 rfl rfl (own_cells HO5.out).1 (own_cells HO5.out).2 25 [.slice ua n uc, v] HX5.out (by kernel_rfl) (by simp) ?_
          intro w6 hX6 hg6
          have HB6 := Lib.hid (show Below X W1 w6 from (HB5.out.mono (Nat.le_succ X)).grown hg6 (by have h1 := HSX.out; have h2 := HB5.out.size; omega) (fun b hb => by injection hb with hb; omega))
          refine hK.out _ _ ?_ (fun hHeld => ?_)
          · exact ⟨keptC HSA.out.1 HB6.out (by have := HAX.out; omega), keptC HSA.out.2 HB6.out HGX.out⟩
          clear hK K
          (try simp only [Act.put])
          refine wpAnyH_done (by kernel_rfl) ?_ _
          have HR6 := Lib.hid (show CpyR X w0 (.slice ua n uc) v5 (R.take (i + 1)) w6 from cpy_next HRD.out HRC.out HOW.out HL1.out HB3.out HB34.out HT3.out HYN.out HTK.out HO5.out HG5.out hX6 hg6 HB6.out)
          clear hX6 hg6
          go_wp2
          go_roundg g1
          case measure => omega
          case rel => exact ⟨i + 1, v5, by go_num, by omega, HR6⟩
        · refine wp_append_any (.tmp 19) (.tmp 24) 35 rfl (X + 1) 37 j0 nilT.v 4 56 Tryz.underlying35 hj hj0 hj1 hj2 rfl (by decide) _ 0 _ rfl HO2.out a' yn c' (cellsT y) rfl (by rw [cellsT_length, HYN.out]) ((HTM.out.on HB2.out).news) cellsT_cell (by have := HYM.out; unfold maxLen; omega) (by have := HYM.out; omega) (by have h1 := HSX.out; have h2 := HB2.out.size; omega) ?_
          intro v3 w3 ho3 hg3 _
          rw [← cellsT_append, List.nil_append, Nat.zero_add] at ho3
          obtain ⟨a3, c3, rfl, ht3⟩ := own_trms ho3
          have HT3 := Lib.hid ht3
          have HB3 := Lib.hid (show Below W1.heap.size W1 w3 from HB2.out.grown hg3 HB2.out.size (fun b hb => by have e : Wd.heap.size = b := Option.some.inj hb; have h2 := HDZ.out; omega))
          have HS3 := Lib.hid (show w3.cell? ⟨A, 1, none⟩ = some (.slice (some ⟨g, o, none⟩) m rc) ∧ w3.cell? ⟨g, o + i, none⟩ = some (.slice a' yn c') from ⟨keptC HSA.out.1 HB3.out HSL.out.1, keptC HSA.out.2 HB3.out HSL.out.2⟩)
          have HQ3 := Lib.hid (keptC HQ1.out HB3.out HXL.out)
          clear ho3 hg3 ht3
          refine hK.out _ _ ?_ (fun hHeld => ?_)
          · exact HS3.out
          clear hK K
          (try simp only [Act.put, List.setIfInBounds_toArray])
          refine wpAnyH_ready (rs := [1, 9]) (by kernel_rfl) (by simp) ?_
          refine AllReadyH.cons rfl (fun K hK => ?_) (AllReadyH.cons rfl (fun K hK => ?_) (AllReadyH.nil))
          · have hqv : w3.cell? ⟨X, 1, none⟩ = some v := HQ3.out
            go_simp
            clear hqv
            refine hK.out _ _ ?_ (fun hHeld => ?_)
            · exact hHeld
            clear hK K
            (try simp only [Act.put, List.setIfInBounds_toArray, List.set_cons_zero, List.set_cons_succ])
            refine wpAnyH_ready (rs := [9]) (by kernel_rfl) (by simp) ?_
            refine AllReadyH.cons rfl (fun K hK => ?_) (AllReadyH.nil)
            go_simp
            obtain ⟨W4, hW4⟩ : ∃ W4, w3.alloc (.cells #[.slice a3 yn c3] 35) = W4 := ⟨_, rfl⟩
            rw [hW4]
            have HB34 := Lib.hid (show Below w3.heap.size w3 W4 by rw [← hW4]; exact box_below _ _)
            have HB4 := Lib.hid (fb2 HB3.out HB34.out (Nat.le_refl _))
            have HN4 : Hid (W4.cell? ⟨w3.heap.size, 0, none⟩ = some (.slice a3 yn c3)) := Lib.hid (by rw [← hW4]; exact blk_cell (blk_new w3 35 #[.slice a3 yn c3]) 0)
            have HS4 := Lib.hid (show W4.cell? ⟨A, 1, none⟩ = some (.slice (some ⟨g, o, none⟩) m rc) ∧ W4.cell? ⟨g, o + i, none⟩ = some (.slice a' yn c') from ⟨keptC HSA.out.1 HB4.out HSL.out.1, keptC HSA.out.2 HB4.out HSL.out.2⟩)
            have HQ4 := Lib.hid (keptC HQ1.out HB4.out HXL.out)
            have HZ4 := Lib.hid (show X + 1 ≤ W4.heap.size by have h1 := HSX.out; have h2 := HB4.out.size; omega)
            have HO4 := Lib.hid (HOW.out.kept (row := none) ⟨HB4.out.os, HB4.out.tape, HB4.out.output, HB4.out.size, fun b hb _ => HB4.out.block b hb⟩ (by
              cases hq : v.ownBlock with
              | none => exact .inl rfl
              | some x => exact .inr (by simp)))
            clear hW4
            refine hK.out _ _ ?_ (fun hHeld => ?_)
            · exact HS4.out
            clear hK K
            (try simp only [Act.put, List.setIfInBounds_toArray, List.set_cons_zero, List.set_cons_succ])
            refine wpAnyH_ready (rs := [10]) (by kernel_rfl) (by simp) ?_
            refine AllReadyH.cons rfl (fun K hK => ?_) (AllReadyH.nil)
            refine wp_append_own (.tmp 18) (.tmp 26) 23 rfl (X + 1) 35 i0 (.slice none 0 0) 1 24 Tryz.underlying23 hi hz0 hz1 hz2 rfl (by decide) v _ _ rfl HO4.out ⟨w3.heap.size, 0, none⟩ 1 1 [.slice a3 yn c3] rfl rfl (fun j u hj => ?_) (fun u hu => ?_) (by unfold maxLen; omega) (by omega) HZ4.out ?_
            · cases j with
              | zero => injection hj with hj; subst hj; exact HN4.out
              | succ j => simp at hj
            · simp only [List.mem_singleton] at hu; subst hu; rfl
            intro v5 w5 ho5 hg5 _
            have HO5 := Lib.hid ho5
            have HG5 := Lib.hid hg5
            have HB5 := Lib.hid (show Below (X + 1) W1 w5 from (HB4.out.mono HSX.out).grown hg5 (Nat.le_trans HSX.out HB4.out.size) (fun b hb => HOB.out _ hb))
            have HS5 := Lib.hid (show w5.cell? ⟨A, 1, none⟩ = some (.slice (some ⟨g, o, none⟩) m rc) ∧ w5.cell? ⟨g, o + i, none⟩ = some (.slice a' yn c') from ⟨keptC HSA.out.1 HB5.out (by have := HAX.out; omega), keptC HSA.out.2 HB5.out (by have := HGX.out; omega)⟩)
            have HX5 := Lib.hid (blk_on HRD.out.all HB5.out (Nat.lt_succ_self X))
            clear ho5 hg5
            refine hK.out _ _ ?_ (fun hHeld => ?_)
            · exact HS5.out
            clear hK K
            (try simp only [Act.put, List.setIfInBounds_toArray])
            refine wpAnyH_take (i := 11) (oi := ⟨some 28, _, _, _, _, _⟩) (v := ?_) rfl (by kernel_rfl) (by kernel_rfl) (by kernel_rfl) (fun _ _ _ h => h) (Or.inl ⟨by kernel_rfl, ?_⟩) (by assumption) ?_
            rotate_left
            · (intro ww hSw; (try dsimp only at hSw); go_simp); (try with_reducible rfl)
            (try simp only [Act.put])
            refine wpAnyH_ready (rs := [12]) (by kernel_rfl) (by simp) ?_
            refine AllReadyH.cons rfl (fun K hK => ?_) (AllReadyH.nil)
            refine wp_one_abs 23 (.tmp 28) (.tmp 27) rfl X 1 v5 rfl rfl (own_cells HO5.out).1 (own_cells HO5.out).2 25 [.slice ua n uc, v] HX5.out (by kernel_rfl) (by simp) ?_
            intro w6 hX6 hg6
            have HB6 := Lib.hid (show Below X W1 w6 from (HB5.out.mono (Nat.le_succ X)).grown hg6 (by have h1 := HSX.out; have h2 := HB5.out.size; omega) (fun b hb => by injection hb with hb; omega))
            refine hK.out _ _ ?_ (fun hHeld => ?_)
            · exact ⟨keptC HSA.out.1 HB6.out (by have := HAX.out; omega), keptC HSA.out.2 HB6.out HGX.out⟩
            clear hK K
            (try simp only [Act.put])
            refine wpAnyH_done (by kernel_rfl) ?_ _
            have HR6 := Lib.hid (show CpyR X w0 (.slice ua n uc) v5 (R.take (i + 1)) w6 from cpy_next HRD.out HRC.out HOW.out HL1.out HB3.out HB34.out HT3.out HYN.out HTK.out HO5.out HG5.out hX6 hg6 HB6.out)
            clear hX6 hg6
            go_wp2
            go_roundg g1
            case measure => omega
            case rel => exact ⟨i + 1, v5, by go_num, by omega, HR6⟩
          · go_simp
            obtain ⟨W4, hW4⟩ : ∃ W4, w3.alloc (.cells #[.slice a3 yn c3] 35) = W4 := ⟨_, rfl⟩
            rw [hW4]
            have HB34 := Lib.hid (show Below w3.heap.size w3 W4 by rw [← hW4]; exact box_below _ _)
            have HB4 := Lib.hid (fb2 HB3.out HB34.out (Nat.le_refl _))
            have HN4 : Hid (W4.cell? ⟨w3.heap.size, 0, none⟩ = some (.slice a3 yn c3)) := Lib.hid (by rw [← hW4]; exact blk_cell (blk_new w3 35 #[.slice a3 yn c3]) 0)
            have HS4 := Lib.hid (show W4.cell? ⟨A, 1, none⟩ = some (.slice (some ⟨g, o, none⟩) m rc) ∧ W4.cell? ⟨g, o + i, none⟩ = some (.slice a' yn c') from ⟨keptC HSA.out.1 HB4.out HSL.out.1, keptC HSA.out.2 HB4.out HSL.out.2⟩)
            have HQ4 := Lib.hid (keptC HQ1.out HB4.out HXL.out)
            have HZ4 := Lib.hid (show X + 1 ≤ W4.heap.size by have h1 := HSX.out; have h2 := HB4.out.size; omega)
            have HO4 := Lib.hid (HOW.out.kept (row := none) ⟨HB4.out.os, HB4.out.tape, HB4.out.output, HB4.out.size, fun b hb _ => HB4.out.block b hb⟩ (by
              cases hq : v.ownBlock with
              | none => exact .inl rfl
              | some x => exact .inr (by simp)))
            clear hW4
            refine hK.out _ _ ?_ (fun hHeld => ?_)
            · exact HS4.out
            clear hK K
            (try simp only [Act.put, List.setIfInBounds_toArray, List.set_cons_zero, List.set_cons_succ])
            refine wpAnyH_ready (rs := [1]) (by kernel_rfl) (by simp) ?_
            refine AllReadyH.cons rfl (fun K hK => ?_) (AllReadyH.nil)
            have hqv : W4.cell? ⟨X, 1, none⟩ = some v := HQ4.out
            go_simp
            clear hqv
            refine hK.out _ _ ?_ (fun hHeld => ?_)
            · exact hHeld
            clear hK K
            (try simp only [Act.put, List.setIfInBounds_toArray, List.set_cons_zero, List.set_cons_succ])
            refine wpAnyH_ready (rs := [10]) (by kernel_rfl) (by simp) ?_
            refine AllReadyH.cons rfl (fun K hK => ?_) (AllReadyH.nil)
            refine wp_append_own (.tmp 18) (.tmp 26) 23 rfl (X + 1) 35 i0 (.slice none 0 0) 1 24 Tryz.underlying23 hi hz0 hz1 hz2 rfl (by decide) v _ _ rfl HO4.out ⟨w3.heap.size, 0, none⟩ 1 1 [.slice a3 yn c3] rfl rfl (fun j u hj => ?_) (fun u hu => ?_) (by unfold maxLen; omega) (by omega) HZ4.out ?_
            · cases j with
              | zero => injection hj with hj; subst hj; exact HN4.out
              | succ j => simp at hj
            · simp only [List.mem_singleton] at hu; subst hu; rfl
            intro v5 w5 ho5 hg5 _
            have HO5 := Lib.hid ho5
            have HG5 := Lib.hid hg5
            have HB5 := Lib.hid (show Below (X + 1) W1 w5 from (HB4.out.mono HSX.out).grown hg5 (Nat.le_trans HSX.out HB4.out.size) (fun b hb => HOB.out _ hb))
            have HS5 := Lib.hid (show w5.cell? ⟨A, 1, none⟩ = some (.slice (some ⟨g, o, none⟩) m rc) ∧ w5.cell? ⟨g, o + i, none⟩ = some (.slice a' yn c') from ⟨keptC HSA.out.1 HB5.out (by have := HAX.out; omega), keptC HSA.out.2 HB5.out (by have := HGX.out; omega)⟩)
            have HX5 := Lib.hid (blk_on HRD.out.all HB5.out (Nat.lt_succ_self X))
            clear ho5 hg5
            refine hK.out _ _ ?_ (fun hHeld => ?_)
            · exact HS5.out
            clear hK K
            (try simp only [Act.put, List.setIfInBounds_toArray])
            refine wpAnyH_take (i := 11) (oi := ⟨some 28, _, _, _, _, _⟩) (v := ?_) rfl (by kernel_rfl) (by kernel_rfl) (by kernel_rfl) (fun _ _ _ h => h) (Or.inl ⟨by kernel_rfl, ?_⟩) (by assumption) ?_
            rotate_left
            · (intro ww hSw; (try dsimp only at hSw); go_simp); (try with_reducible rfl)
            (try simp only [Act.put])
            refine wpAnyH_ready (rs := [12]) (by kernel_rfl) (by simp) ?_
            refine AllReadyH.cons rfl (fun K hK => ?_) (AllReadyH.nil)
            refine wp_one_abs 23 (.tmp 28) (.tmp 27) rfl X 1 v5 rfl rfl (own_cells HO5.out).1 (own_cells HO5.out).2 25 [.slice ua n uc, v] HX5.out (by kernel_rfl) (by simp) ?_
            intro w6 hX6 hg6
            have HB6 := Lib.hid (show Below X W1 w6 from (HB5.out.mono (Nat.le_succ X)).grown hg6 (by have h1 := HSX.out; have h2 := HB5.out.size; omega) (fun b hb => by injection hb with hb; omega))
            refine hK.out _ _ ?_ (fun hHeld => ?_)
            · exact ⟨keptC HSA.out.1 HB6.out (by have := HAX.out; omega), keptC HSA.out.2 HB6.out HGX.out⟩
            clear hK K
            (try simp only [Act.put])
            refine wpAnyH_done (by kernel_rfl) ?_ _
            have HR6 := Lib.hid (show CpyR X w0 (.slice ua n uc) v5 (R.take (i + 1)) w6 from cpy_next HRD.out HRC.out HOW.out HL1.out HB3.out HB34.out HT3.out HYN.out HTK.out HO5.out HG5.out hX6 hg6 HB6.out)
            clear hX6 hg6
            go_wp2
            go_roundg g1
            case measure => omega
            case rel => exact ⟨i + 1, v5, by go_num, by omega, HR6⟩
    · have k1 : ¬ (i : Int) < (m : Int) := by omega
      have hE : R.take i = R := List.take_of_length_le (by have := HRL.out; omega)
      have q2 : W1.cell? ⟨X, 0, none⟩ = some (.slice ua n uc) := (blk_cell HRD.out.all 0).trans rfl
      have q3 : W1.cell? ⟨X, 1, none⟩ = some v := (blk_cell HRD.out.all 1).trans rfl
      obtain ⟨cs, hown, hrc⟩ := HRD.out.own
      rw [hE] at hown hrc
      rw [HRL.out] at hown
      have HOW := Lib.hid hown
      have HRC := Lib.hid hrc
      have HE1 := Lib.hid (blk_on HBE0.out HRD.out.below HAX.out)
      have HSX := Lib.hid HRD.out.size
      have hv1 : (#[.slice ua n uc, v] : Array Value).all (fun x => x.oneCell') = true := by
        have h1 := (own_cells hown).2
        have h2 : (Value.slice ua n uc).oneCell' = true := rfl
        simp [h1, h2]
      clear hown hrc hE
      go_wp2_with (refine whole_abs 25 (.tmp 2) (.tmp 29) ⟨rfl, rfl⟩ (A + 1) #[.slice ua n uc, v] rfl rfl 25 #[.slice none 0 0, .slice none 0 0] HE1.out (by kernel_rfl) rfl hv1 ?_; intro w9 hA9 hG9)
      have hae := HAE.out
      have hax := HAX.out
      have hb9 : Below w.heap.size w w9 := HBW.out.grown hG9.out HBW.out.size (fun j hj => by injection hj with hj; omega)
      have hown9 := HOW.out.kept hG9.out (.inr (fun e => by have := (HOW.out.lt _ e).1; omega))
      have hne : ∀ b, X < b → b < W1.heap.size → w9.heap[b]? = W1.heap[b]? := fun b hx hb => hG9.out.block b hb (fun e => by injection e with e; omega)
      have hrc9 : RowCK (fun b => X < b ∧ isT w9 b) w9 cs R := (HRC.out.on ⟨hG9.out.size, fun b hb hk => hne b hk.1 hb⟩).mono (fun b _ hk => ⟨hk.1, isT_same hk.2 (hne b hk.1 (by obtain ⟨_, hc⟩ := hk.2; exact blk_lt hc))⟩)
      obtain ⟨a3, c3, rfl, hrow3⟩ := own_rowsJ hown9 hrc9 HRL.out
      have htu : ∀ b, (w.heap.size ≤ b ∧ A + 1 < b ∧ b < X ∧ ¬ isT w0 b) → w9.heap[b]? = w0.heap[b]? := fun b hk => (hG9.out.block b (by have := HSX.out; omega) (fun e => by injection e with e; omega)).trans (HRD.out.below.block b hk.2.2.1)
      have htxt : TxtK (fun b => w.heap.size ≤ b ∧ ¬ isT w9 b) w9 ua n uc V := (HTU.out.on ⟨Nat.le_trans HRD.out.below.size hG9.out.size, fun b _ hk => htu b hk⟩).mono (fun b _ hk => ⟨hk.1, fun c => hk.2.2.2 (isT_same c (htu b hk).symm)⟩)
      have q5 : w9.cell? ⟨A + 1, 0, none⟩ = some (.slice ua n uc) := (blk_cell hA9.out 0).trans rfl
      have q6 : w9.cell? ⟨A + 1, 1, none⟩ = some (.slice a3 m c3) := (blk_cell hA9.out 1).trans rfl
      refine bodyPost_ret (v := .agg #[.slice ua n uc, .slice a3 m c3]) (by simp [results, Tryz.results13, q5, q6, go_sem]) rfl ⟨_, rfl, ⟨ua, n, uc, a3, m, c3, rfl, htxt, hrow3.mono (fun b _ hk => ⟨by omega, hk.2⟩) (fun b _ hk => ⟨by omega, hk.2⟩)⟩, hb9⟩

end Go.Proofs.YtdnfaoanaehjhaaGreatDoor
