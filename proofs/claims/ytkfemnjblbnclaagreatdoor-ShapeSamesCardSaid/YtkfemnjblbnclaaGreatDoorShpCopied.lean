/- A table of these rows in new memory: package shape's copied. -/
import Derived.Test.YtkfemnjblbnclaaGreatDoorShpEmpty
namespace Go.Proofs.YtkfemnjblbnclaaGreatDoor
open Go.RowKit

/- the first k rows are filled in -/
def Fill (R : List RowL) (L : List TermL) (m k : Nat) : Prop := ∀ j, j < k → ∀ i, i < m → L[j * m + i]? = (R.getD j [])[i]?
theorem fill_zero (R : List RowL) (L : List TermL) (m : Nat) : Fill R L m 0 := fun _ h => absurd h (Nat.not_lt_zero _)
theorem row_fits {j m n i : Nat} (hj : j < n) (hi : i < m) : j * m + i < n * m := by
  have := Nat.mul_le_mul_right m (Nat.succ_le_of_lt hj)
  rw [Nat.succ_mul] at this
  omega
theorem fill_next {R : List RowL} {L : List TermL} {m n k : Nat} (h : Fill R L m k) (hl : L.length = n * m) (hk : k < n) (hkR : k < R.length) (hr : R[k].length = m) : Fill R (splice L (k * m) R[k]) m (k + 1) := by
  have hfit : k * m + R[k].length ≤ L.length := by
    rw [hr, hl, ← Nat.succ_mul]
    exact Nat.mul_le_mul_right m hk
  intro j hj i hi
  by_cases e : j = k
  · subst e
    rw [splice_in hfit (by rw [hr]; exact hi), List.getD_eq_getElem?_getD, List.getElem?_eq_getElem hkR]
    rfl
  · have hlt := row_fits (show j < k by omega) hi
    rw [splice_out hfit (.inl hlt)]
    exact h j (by omega) i hi
theorem grid_tab {w : World} {B : Nat} {tv : Value} {V : List (List UInt8)} {n : Nat} {L : List TermL} {R : List RowL} (h : Grid w B tv V n L) (hn : R.length = n) (hr : ∀ r ∈ R, r.length = V.length) (hf : Fill R L V.length n) (hn2 : n ≤ 1000000) (hm : V.length ≤ 1000000) : TabK (fun i => B ≤ i) w tv V R := by
  obtain ⟨G1, G2, G3, rfl, b1, b2, b3, h1, h2, h3, hl⟩ := h
  refine ⟨_, _, _, _, _, _, rfl, ⟨rfl, Nat.le_refl _, by unfold maxLen; omega, fun _ => ⟨G1, 0, rfl, blk_lt h1, b1, fun j hj => ?_⟩⟩, ⟨hn, Nat.le_refl _, by unfold maxLen; omega, fun _ => ⟨G2, 0, rfl, blk_lt h2, b2, fun j hj => ?_⟩⟩⟩
  · rw [blk_cell h1, Nat.zero_add]
    simp [textCells, hj]
  · have e := hr _ (List.getElem_mem hj)
    rw [e]
    refine ⟨some ⟨G3, j * V.length * 4, none⟩, V.length, ?_, e, Nat.le_refl _, by unfold maxLen; omega, fun _ => ⟨G3, j * V.length * 4, rfl, blk_lt h3, b3, fun i hi => ?_⟩⟩
    · rw [blk_cell h2, Nat.zero_add]
      have := cutRows_at (G := G3) (m := V.length) (n := n) (k := n) (i := j) (by omega)
      simpa [cutV] using this
    · rw [e] at hi
      have hL := hf j (by omega) i hi
      rw [List.getD_eq_getElem?_getD, List.getElem?_eq_getElem hj, Option.getD_some, List.getElem?_eq_getElem (l := R[j]) (i := i) (by rw [e]; exact hi)] at hL
      have hlt : j * V.length + i < L.length := (List.getElem?_eq_some_iff.1 hL).1
      have eL : L[j * V.length + i] = R[j][i] := by rw [List.getElem?_eq_getElem hlt] at hL; exact Option.some.inj hL
      have hc := fun q (hq : q < 4) => cellsT_at L _ hlt q hq
      rw [eL] at hc
      have ea : ∀ q, j * V.length * 4 + i * 4 + q = (j * V.length + i) * 4 + q := fun q => by omega
      refine ⟨?_, ?_, ?_, ?_⟩
      · rw [blk_cell h3]
        have := hc 0 (by omega)
        rw [← ea 0, Nat.add_zero] at this
        simpa [TermL.cs] using this
      · rw [blk_cell h3, ea 1]
        simpa [TermL.cs] using hc 1 (by omega)
      · rw [blk_cell h3, ea 2]
        simpa [TermL.cs] using hc 2 (by omega)
      · rw [blk_cell h3, ea 3]
        simpa [TermL.cs] using hc 3 (by omega)

def CopyR (A X B0 : Nat) (W0 : World) (V : List (List UInt8)) (R : List RowL) (n G1 G2 G3 k : Nat) (wr : World) : Prop :=
  Blk wr A 31 #[.slice none 0 0, .slice none 0 0] ∧ Blk wr X 31 #[.slice (some ⟨G1, 0, none⟩) V.length V.length, .slice (some ⟨G2, 0, none⟩) n n] ∧ Blk wr G1 9 (textCells V).toArray ∧
    Blk wr G2 51 (cutRows G3 V.length n n).toArray ∧ (∃ L, Blk wr G3 23 (cellsT L).toArray ∧ L.length = n * V.length ∧ Fill R L V.length k) ∧ Below B0 W0 wr

set_option maxRecDepth 100000 in
set_option maxHeartbeats 8000000 in
theorem copied_calls (V : List (List UInt8)) (R : List RowL) (a : Option Addr) (c : Nat) (ra : Option Addr) (n rc : Nat) (w : World) (h : TxtA w a V.length c V) (hR : RowA w ra n rc R) (hr : ∀ r ∈ R, r.length = V.length) (hn : n ≤ 1000000) (hm : V.length ≤ 1000000) :
    Calls Tryz.prog 53 #[.slice a V.length c, .slice ra n rc] w fun e w' => ∃ tv, e = .returned tv ∧ TabK (fun i => w.heap.size ≤ i) w' tv V R ∧ Below w.heap.size w w' := by
  obtain ⟨i3, h3i, h3z, h3s, h3b⟩ := info_parts info_term
  have HE := Lib.hid (fun W hW => empty_calls V n a c W hW hn hm)
  have HRL := Lib.hid hR.len
  have HGT := Lib.hid (fun w B tv L h hf => grid_tab (w := w) (B := B) (tv := tv) (V := V) (n := n) (L := L) (R := R) h hR.len hr hf hn hm)
  have HRW := Lib.hid hR
  have HRR := Lib.hid hr
  have hcp := hR.cap
  have hms := hR.most
  have hcp2 := h.cap
  have hms2 := h.most
  unfold maxLen at hms hms2
  obtain ⟨A, hA⟩ : ∃ A, w.heap.size = A := ⟨_, rfl⟩
  obtain ⟨W0, hW0⟩ : ∃ W0, w.alloc (.cells #[.slice none 0 0, .slice none 0 0] 31) = W0 := ⟨_, rfl⟩
  have HA := Lib.hid (show Blk W0 A 31 #[.slice none 0 0, .slice none 0 0] by rw [← hW0, ← hA]; exact blk_new _ _ _)
  have HB0 := Lib.hid (show Below w.heap.size w W0 by rw [← hW0]; exact box_below _ _)
  have HAE := Lib.hid hA
  have HW0 := Lib.hid hW0
  have HT0 := Lib.hid (h.on HB0.out)
  clear hW0 hA h hR hr
  obtain ⟨m, hme⟩ : ∃ m, V.length = m := ⟨_, rfl⟩
  rw [hme] at hm hcp2 HE HT0
  have HME := Lib.hid hme
  rw [hme]
  clear hme
  go_enter Tryz.func53, Tryz.ntmps53
  go_wp2_with fail
  rw [HW0.out, HAE.out]
  refine (HE.out W0 HT0.out).mono ?_
  rintro e w1 ⟨tv, rfl, hgrid, hb1⟩
  obtain ⟨G1, G2, G3, rfl, b1, b2, b3, h1, h2, h3, hl⟩ := hgrid
  rw [HME.out]
  obtain ⟨B0, hB0⟩ : ∃ B0, W0.heap.size = B0 := ⟨_, rfl⟩
  rw [hB0] at b1 b2 b3 hb1
  have HBE := Lib.hid hB0
  have HAB := Lib.hid (show A < B0 by rw [← hB0]; exact blk_lt HA.out)
  clear hB0
  have HA1 := Lib.hid (blk_on HA.out hb1 HAB.out)
  have HG1 := Lib.hid h1
  have HG2 := Lib.hid h2
  have HG3 := Lib.hid h3
  have HB1 := Lib.hid hb1
  have HBG := Lib.hid (And.intro b1 (And.intro b2 b3))
  have HLL := Lib.hid hl
  obtain ⟨X, hX⟩ : ∃ X, w1.heap.size = X := ⟨_, rfl⟩
  have HXE := Lib.hid hX
  have hx0 := Lib.hid (show Blk (w1.alloc (.cells #[.slice none 0 0, .slice none 0 0] 31)) X 31 #[.slice none 0 0, .slice none 0 0] by rw [← hX]; exact blk_new _ _ _)
  clear hX hl b1 b2 b3 h1 h2 h3 hb1
  go_wp2_with (rw [HXE.out]; refine whole_abs 31 (.tmp 5) (.tmp 11) ⟨rfl, rfl⟩ X #[.slice (some ⟨G1, 0, none⟩) m m, .slice (some ⟨G2, 0, none⟩) n n] rfl rfl 31 #[.slice none 0 0, .slice none 0 0] hx0.out (by kernel_rfl) rfl (by kernel_rfl) ?_; intro w2 hX2 hg2)
  have HX2 := Lib.hid hX2.out
  have HNE := Lib.hid (show A ≠ X ∧ G1 ≠ X ∧ G2 ≠ X ∧ G3 ≠ X by
    have e := HXE.out
    have l0 := blk_lt HA1.out
    have l1 := blk_lt HG1.out
    have l2 := blk_lt HG2.out
    have l3 := blk_lt HG3.out
    omega)
  have HR0 := Lib.hid (show CopyR A X B0 W0 V R n G1 G2 G3 0 w2 from by
    refine ⟨blk_grown (blk_alloc HA1.out _) HNE.out.1 hg2.out, ?_, blk_grown (blk_alloc HG1.out _) HNE.out.2.1 hg2.out, blk_grown (blk_alloc HG2.out _) HNE.out.2.2.1 hg2.out, ⟨_, blk_grown (blk_alloc HG3.out _) HNE.out.2.2.2 hg2.out, HLL.out, fill_zero _ _ _⟩, ?_⟩
    · rw [HME.out]; exact HX2.out
    · have hle : B0 ≤ w1.heap.size := by have := HB1.out.size; have := HBE.out; omega
      exact (fb2 HB1.out (box_below _ _) (by have := HBE.out; omega)).grown hg2.out (by simp; omega) (fun j hj => by injection hj with hj; have := HXE.out; omega))
  clear hX2 hg2 hx0 HX2 HG1 HG2 HG3 HA1 HLL
  have HW0B := Lib.hid (show w.heap.size ≤ B0 by have := HBE.out; have := HB0.out.size; omega)
  go_loopg [6, 7, 14] n (fun g _ _ i wr => ∃ k : Nat, i = .int .i64 k ∧ k + g = n ∧ Hid (CopyR A X B0 W0 V R n G1 G2 G3 k wr))
  case atStart => exact ⟨0, rfl, by omega, HR0⟩
  case round =>
    obtain ⟨W1, rfl⟩ : ∃ W1, W1 = wr := ⟨_, rfl⟩
    obtain ⟨k, rfl, hkg, HR⟩ := hrel
    obtain ⟨hA, hX, hG1, hG2, ⟨L, hG3, hl, hf⟩, hb⟩ := HR.out
    rw [HME.out] at hX hG2 hl hf
    have HBW := Lib.hid (HB0.out.trans (hb.mono HW0B.out))
    by_cases hk : k < n
    · obtain ⟨gg, rfl⟩ : ∃ gg, gk = gg + 1 := ⟨gk - 1, by omega⟩
      have hkR : k < R.length := by rw [HRL.out]; exact hk
      obtain ⟨g, o, ha, hgw, hcells⟩ := HRW.out.cells (by omega)
      subst ha
      obtain ⟨a', c', hcell, htrm⟩ := hcells k hkR
      have hrk : R[k].length = m := (HRR.out _ (List.getElem_mem hkR)).trans HME.out
      have HFN := Lib.hid (fill_next hf hl hk hkR hrk)
      rw [hrk] at hcell htrm
      have hgW : g < W1.heap.size := Nat.lt_of_lt_of_le hgw HBW.out.size
      have c0 : W1.cell? ⟨g, o + k, none⟩ = some (.slice a' m c') := keptC hcell HBW.out hgw
      have q1 : W1.cell? ⟨X, 1, none⟩ = some (.slice (some ⟨G2, 0, none⟩) n n) := by rw [blk_cell hX]; rfl
      obtain ⟨o3, ho3⟩ : ∃ o3, k * m * 4 = o3 := ⟨_, rfl⟩
      have q2 : W1.cell? ⟨G2, k, none⟩ = some (.slice (some ⟨G3, o3, none⟩) m m) := by
        rw [blk_cell hG2, ← ho3]
        simpa [cutV] using cutRows_at (G := G3) (m := m) (n := n) (k := n) hk
      have HS := Lib.hid (show (cellsT L).take o3 ++ cellsT R[k] ++ (cellsT L).drop (o3 + (cellsT R[k]).length) = cellsT (splice L (k * m) R[k]) by rw [← ho3]; exact splice_cells L (k * m) R[k])
      have hfit : k * m + R[k].length ≤ L.length := by
        rw [hrk, hl, ← Nat.succ_mul]
        exact Nat.mul_le_mul_right m hk
      have HSL := Lib.hid (show (splice L (k * m) R[k]).length = n * m by rw [splice_length hfit, hl])
      have HF := Lib.hid (show o3 + (cellsT R[k]).length ≤ (cellsT L).length by rw [cellsT_length, cellsT_length, ← ho3]; omega)
      have HC1 := Lib.hid (show (cellsT R[k]).length = m * i3.size by rw [h3s, cellsT_length, hrk])
      have HC2 := Lib.hid (show 0 < m → ∃ ad, a' = some ad ∧ ∀ j v, (cellsT R[k])[j]? = some v → W1.cell? (ad.add j) = some v from fun h0 => by
        obtain ⟨g', o', he, hg', hc'⟩ := htrm.flat h0
        refine ⟨_, he, fun j v hv => ?_⟩
        rw [add_at]
        exact keptC (hc' j v hv) HBW.out hg')
      have HA1 := Lib.hid hA
      have HX1 := Lib.hid hX
      have HG11 := Lib.hid hG1
      have HG21 := Lib.hid hG2
      have HG31 := Lib.hid hG3
      have HB1 := Lib.hid hb
      clear hA hX hG1 hG2 hG3 hb hl hf hcell htrm hcells hrk ho3 hfit
      have k0 : (0 : Int) ≤ (k : Int) := by omega
      have k1 : (k : Int) < (n : Int) := by omega
      generalize R[k] = y at HFN HS HSL HF HC1 HC2
      go_wp2_with (refine copy_abs (.tmp 23) (.tmp 24) 51 51 ⟨rfl, rfl⟩ 23 i3 Tryz.underlying51 h3i G3 o3 m m a' m c' m rfl rfl (Nat.min_self m) 23 (cellsT L) (cellsT (splice L (k * m) y)) (cellsT y) HG31.out HC1.out HC2.out HS.out HF.out cellsT_cell ?_; intro w5 hG35 hg5)
      have HR5 := Lib.hid (show CopyR A X B0 W0 V R n G1 G2 G3 (k + 1) w5 from by
        have hB0 : B0 ≤ G3 := HBG.out.2.2
        refine ⟨blk_grown HA1.out (blk_kinds HA1.out HG31.out tab_trm) hg5.out, ?_, blk_grown HG11.out (blk_kinds HG11.out HG31.out str_trm) hg5.out, ?_, ⟨_, hG35.out, ?_, ?_⟩, HB1.out.grown hg5.out (Nat.le_trans (by have := HBE.out; omega) HB1.out.size) (fun j hj => by injection hj with hj; omega)⟩
        · rw [HME.out]; exact blk_grown HX1.out (blk_kinds HX1.out HG31.out tab_trm) hg5.out
        · rw [HME.out]; exact blk_grown HG21.out (blk_kinds HG21.out HG31.out row_trm) hg5.out
        · rw [HSL.out, HME.out]
        · rw [HME.out]; exact HFN.out)
      clear hG35 hg5
      go_roundg gg
      case measure => omega
      case rel => exact ⟨k + 1, by go_num, by omega, HR5⟩
    · have hkn : k = n := by omega
      have k1 : ¬ (k : Int) < (n : Int) := by omega
      have q0 : W1.cell? ⟨X, 0, none⟩ = some (.slice (some ⟨G1, 0, none⟩) m m) := by rw [blk_cell hX]; rfl
      have q1 : W1.cell? ⟨X, 1, none⟩ = some (.slice (some ⟨G2, 0, none⟩) n n) := by rw [blk_cell hX]; rfl
      rw [hkn] at hf
      have HF := Lib.hid hf
      have HL := Lib.hid hl
      have HG21 := Lib.hid hG2
      have HG31 := Lib.hid hG3
      have HG11 := Lib.hid hG1
      have HA1 := Lib.hid hA
      have HB1 := Lib.hid hb
      clear hA hX hG1 hG2 hG3 hb hl hf
      go_wp2_with (refine whole_abs 31 (.tmp 4) (.tmp 27) ⟨rfl, rfl⟩ A #[.slice (some ⟨G1, 0, none⟩) m m, .slice (some ⟨G2, 0, none⟩) n n] rfl rfl 31 #[.slice none 0 0, .slice none 0 0] HA1.out (by kernel_rfl) rfl (by kernel_rfl) ?_; intro w9 hA9 hG9)
      have q2 : w9.cell? ⟨A, 0, none⟩ = some (.slice (some ⟨G1, 0, none⟩) m m) := by rw [blk_cell hA9.out]; rfl
      have q3 : w9.cell? ⟨A, 1, none⟩ = some (.slice (some ⟨G2, 0, none⟩) n n) := by rw [blk_cell hA9.out]; rfl
      refine bodyPost_ret (v := .agg #[.slice (some ⟨G1, 0, none⟩) m m, .slice (some ⟨G2, 0, none⟩) n n]) (by simp [results, Tryz.results53, q2, q3, go_sem]) rfl ⟨_, rfl, ?_, ?_⟩
      · have hbg := HBG.out
        have hle := HW0B.out
        have hae := HAE.out
        refine HGT.out w9 w.heap.size _ L ⟨G1, G2, G3, by rw [HME.out], by omega, by omega, by omega, ?_, ?_, ?_, by rw [HME.out]; exact HL.out⟩ (by rw [HME.out]; exact HF.out)
        · exact blk_grown HG11.out (blk_kinds HG11.out HA1.out (Ne.symm tab_str)) hG9.out
        · rw [HME.out]; exact blk_grown HG21.out (blk_kinds HG21.out HA1.out (Ne.symm tab_row)) hG9.out
        · exact blk_grown HG31.out (blk_kinds HG31.out HA1.out (Ne.symm tab_trm)) hG9.out
      · have := HBW.out.grown hG9.out HBW.out.size (fun j hj => by injection hj with hj; have := HAE.out; omega)
        exact this

end Go.Proofs.YtkfemnjblbnclaaGreatDoor
