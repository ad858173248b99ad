/- A row with its values: package shape's lineOf (written by gen/mklineof12.py). -/
import Derived.Test.YtkfemnjblbnclaaGreatDoorShpLine
import Derived.Test.YtkfemnjblbnclaaGreatDoorShpCopied
namespace Go.Proofs.YtkfemnjblbnclaaGreatDoor
open Go.RowKit

def cellsV (l : List TermL) : List Value := l.flatMap valCells
theorem valCells_length (t : TermL) : (valCells t).length = 8 := rfl
theorem cellsV_cons (t : TermL) (r : List TermL) : cellsV (t :: r) = valCells t ++ cellsV r := by unfold cellsV; exact List.flatMap_cons
theorem cellsV_length (l : List TermL) : (cellsV l).length = l.length * 8 := by
  induction l with
  | nil => rfl
  | cons t r ih => rw [cellsV_cons, List.length_append, ih, List.length_cons, valCells_length]; omega
theorem cellsV_at : ∀ (L : List TermL) (k : Nat) (hk : k < L.length) (i : Nat), i < 8 → (cellsV L)[k * 8 + i]? = (valCells L[k])[i]? := by
  intro L
  induction L with
  | nil => intro k hk; simp at hk
  | cons t r ih =>
    intro k hk i hi
    rw [cellsV_cons]
    cases k with
    | zero => rw [List.getElem?_append_left (by rw [valCells_length]; omega)]; simp
    | succ k =>
      rw [List.getElem?_append_right (by rw [valCells_length]; omega)]
      rw [show (k + 1) * 8 + i - (valCells t).length = k * 8 + i by rw [valCells_length]; omega]
      exact ih k (by simpa using hk) i hi
theorem cellsV_set (L : List TermL) (k : Nat) (hk : k < L.length) (t : TermL) : (cellsV L).take (k * 8) ++ valCells t ++ (cellsV L).drop (k * 8 + (valCells t).length) = cellsV (L.set k t) := by
  induction L generalizing k with
  | nil => simp at hk
  | cons u r ih =>
    have hu := valCells_length u
    cases k with
    | zero =>
      rw [List.set_cons_zero, cellsV_cons, cellsV_cons, Nat.zero_mul, List.take_zero, List.nil_append, Nat.zero_add, valCells_length, List.drop_append, List.drop_eq_nil_of_le (by omega), hu, Nat.sub_self, List.drop_zero, List.nil_append]
    | succ k =>
      rw [List.set_cons_succ, cellsV_cons, cellsV_cons, ← ih k (by simpa using hk), valCells_length]
      rw [List.take_append, List.take_of_length_le (by omega), List.drop_append, List.drop_eq_nil_of_le (by omega), List.nil_append, hu, show (k + 1) * 8 - 8 = k * 8 by omega, show (k + 1) * 8 + 8 - 8 = k * 8 + 8 by omega]
      simp only [List.append_assoc]
theorem nil_vals : valCells nilT = [.int .i64 0, .int .i64 0, .int .i64 0, .bool false, .int .i64 0, .string ⟨#[]⟩, .string ⟨#[]⟩, .string ⟨#[]⟩] := by
  have h : sortP nilT = 0 := if_pos rfl
  unfold valCells
  rw [numP_not (by rw [h]; omega), h]
  rfl
theorem info_val : (Tryz.prog.info? 60).map (fun i => (i.zero, i.size, i.bytes)) = some (some (.agg #[.int .i64 0, .int .i64 0, .int .i64 0, .bool false, .int .i64 0, .string ⟨#[]⟩, .string ⟨#[]⟩, .string ⟨#[]⟩]), 8, 88) := by kernel_rfl
theorem made_vals (N : Nat) : madeCells (Value.cells (.agg #[.int .i64 0, .int .i64 0, .int .i64 0, .bool false, .int .i64 0, .string ⟨#[]⟩, .string ⟨#[]⟩, .string ⟨#[]⟩])) (N * 8) = (cellsV (List.replicate N nilT)).toArray := by
  have := made_list (.agg #[.int .i64 0, .int .i64 0, .int .i64 0, .bool false, .int .i64 0, .string ⟨#[]⟩, .string ⟨#[]⟩, .string ⟨#[]⟩]) N (valCells nilT) (by rw [nil_vals]; rfl) (by rw [valCells_length]; omega)
  rw [valCells_length] at this
  rw [this]
  congr 1
  unfold cellsV
  rw [List.flatMap_replicate]
theorem val_blk {w : World} {G n : Nat} {r : RowL} (h : Blk w G 60 (cellsV r).toArray) (hn : r.length = n) (hm : n ≤ maxLen) (K : Nat → Prop) (hK : K G) : ValK K w (some ⟨G, 0, none⟩) n n r :=
  ⟨hn, Nat.le_refl _, hm, fun h0 => ⟨G, 0, rfl, blk_lt h, hK, fun j hj => by
    have e : ∀ i, i < 8 → w.cell? ⟨G, 0 + j * 8 + i, none⟩ = (valCells r[j])[i]? := fun i hi => by
      rw [blk_cell h, Nat.zero_add]
      have := cellsV_at r j hj i hi
      simpa using this
    exact ⟨e 0 (by omega), e 1 (by omega), e 2 (by omega), e 3 (by omega), e 4 (by omega), e 5 (by omega), e 6 (by omega), e 7 (by omega)⟩⟩⟩
def halfV (r : RowL) (n k : Nat) : List TermL := r.take k ++ List.replicate (n - k) nilT
theorem half_next {r : RowL} {n k : Nat} (hn : r.length = n) (hk : k < r.length) : (halfV r n k).set k r[k] = halfV r n (k + 1) := by
  unfold halfV
  have e : (r.take k).length = k := by rw [List.length_take]; omega
  obtain ⟨j, hj⟩ : ∃ j, n - k = j + 1 := ⟨n - k - 1, by omega⟩
  rw [hj, show n - (k + 1) = j by omega, List.replicate_succ, List.set_append_right _ _ (by omega), e, Nat.sub_self, List.set_cons_zero, List.take_succ_eq_append_getElem hk, List.append_assoc]
  rfl
theorem half_length {r : RowL} {n k : Nat} (hn : r.length = n) (hk : k ≤ n) : (halfV r n k).length = n := by unfold halfV; rw [List.length_append, List.length_take, List.length_replicate]; omega
theorem line_val : (75 : TypeId) ≠ 60 := by decide

structure LofR (w : World) (A X G : Nat) (rs : Value) (r : RowL) (n k : Nat) (wr : World) : Prop where
  box : Blk wr A 75 #[.slice none 0 0, .slice none 0 0]
  line : Blk wr X 75 #[rs, .slice (some ⟨G, 0, none⟩) n n]
  vals : Blk wr G 60 (cellsV (halfV r n k)).toArray
  below : Below w.heap.size w wr

set_option maxRecDepth 100000 in
set_option maxHeartbeats 8000000 in
theorem lineOf_calls (r : RowL) (hr : ∀ t ∈ r, t.ok) (a : Option Addr) (n c : Nat) (w : World) (hg : Nm.Good w) (h : TrmA w a n c r) (hn : n ≤ 1000) :
    Calls Tryz.prog 48 #[.slice a n c] w fun e w' => ∃ G, e = .returned (.agg #[.slice a n c, .slice (some ⟨G, 0, none⟩) n n]) ∧ ValK (fun i => w.heap.size ≤ i) w' (some ⟨G, 0, none⟩) n n r ∧ Below w.heap.size w w' := by
  obtain ⟨i0, hi, hz0, hz1, hz2⟩ := info_parts info_val
  have HIN := Lib.hid h
  have HOK := Lib.hid hr
  have HG := Lib.hid hg
  have HL := Lib.hid h.len
  have hcp := h.cap
  have hms := h.most
  unfold maxLen at hms
  obtain ⟨A, hA⟩ : ∃ A, w.heap.size = A := ⟨_, rfl⟩
  obtain ⟨W0, hW0⟩ : ∃ W0, w.alloc (.cells #[.slice none 0 0, .slice none 0 0] 75) = W0 := ⟨_, rfl⟩
  have HA0 := Lib.hid (show Blk W0 A 75 #[.slice none 0 0, .slice none 0 0] by rw [← hW0, ← hA]; exact blk_new _ _ _)
  have HB0 := Lib.hid (show Below w.heap.size w W0 by rw [← hW0]; exact box_below _ _)
  have HAE := Lib.hid hA
  have HW0 := Lib.hid hW0
  have hsz0 : W0.heap.size = A + 1 := by rw [← hW0, ← hA]; simp
  clear hW0 hA h hr hg
  go_enter Tryz.func48, Tryz.ntmps48
  go_wp2_with (at_make; rw [HW0.out, HAE.out]; refine make_abs (.tmp 8) (.tmp 8) 73 ⟨rfl, rfl⟩ 60 i0 (.agg #[.int .i64 0, .int .i64 0, .int .i64 0, .bool false, .int .i64 0, .string ⟨#[]⟩, .string ⟨#[]⟩, .string ⟨#[]⟩]) 8 Tryz.underlying73 hi hz0 hz1 .i64 .i64 n rfl rfl (by rw [hz2]; omega) (by unfold maxLen; omega) (A + 1) hsz0 ?_; intro w1 hG1 hb1; have HA1 := Lib.hid (blk_on HA0.out hb1.out (blk_lt HA0.out)); have HG1 := Lib.hid hG1.out; have HB1 := Lib.hid (fb2 HB0.out hb1.out (Nat.le_refl _)); clear hb1 hG1)
  obtain ⟨X, hX⟩ : ∃ X, w1.heap.size = X := ⟨_, rfl⟩
  have HXE := Lib.hid hX
  have HGX := Lib.hid (show A + 1 < X by rw [← hX]; exact blk_lt HG1.out)
  have HS1 := Lib.hid (show LofR w A X (A + 1) (.slice a n c) r n 0 (w1.alloc (.cells #[.slice a n c, .slice (some ⟨A + 1, 0, none⟩) n n] 75)) from by
    refine ⟨blk_alloc HA1.out _, by rw [← hX]; exact blk_new _ _ _, ?_, fb2 HB1.out (box_below _ _) (Nat.le_refl _)⟩
    refine blk_alloc ?_ _
    have := HG1.out
    rw [made_vals] at this
    rw [show halfV r n 0 = List.replicate n nilT by unfold halfV; rw [List.take_zero, List.nil_append, Nat.sub_zero]]
    exact this)
  rw [hX]
  clear hX HA1 HG1 HB1
  go_loopg [4, 13] n (fun g _ i wr => ∃ k : Nat, i = .int .i64 k ∧ k + g = n ∧ Hid (LofR w A X (A + 1) (.slice a n c) r n k wr))
  case atStart => exact ⟨0, rfl, by omega, HS1⟩
  case round =>
    obtain ⟨W1, rfl⟩ : ∃ W1, W1 = wr := ⟨_, rfl⟩
    obtain ⟨k, rfl, hkg, HRD⟩ := hrel
    by_cases hkn : k < n
    · obtain ⟨gg, rfl⟩ : ∃ gg, gk = gg + 1 := ⟨gk - 1, by omega⟩
      have hkL : k < r.length := by rw [HL.out]; exact hkn
      obtain ⟨g, o, ha, hgw, hcells⟩ := HIN.out.cells (by omega)
      subst ha
      have HBW := Lib.hid HRD.out.below
      have hgW : g < W1.heap.size := Nat.lt_of_lt_of_le hgw HBW.out.size
      obtain ⟨c0, c1, c2, c3⟩ := (hcells k hkL).on HBW.out hgw
      have HNX := Lib.hid (half_next HL.out hkL)
      have hfit : k * 8 + 8 ≤ (cellsV (halfV r n k)).length := by rw [cellsV_length, half_length HL.out (by omega)]; omega
      have hset := cellsV_set (halfV r n k) k (by rw [half_length HL.out (by omega)]; exact hkn) r[k]
      rw [HNX.out] at hset
      have HSE := Lib.hid hset
      have HFI := Lib.hid hfit
      have hvo := fun W hW => valueOf_calls r[k] (HOK.out _ (List.getElem_mem hkL)) W hW
      have HVO := Lib.hid hvo
      clear hset hfit hcells hvo
      generalize r[k] = y at c0 c1 c2 c3 HSE HVO
      have HVE := Lib.hid (show valV y = .agg (valCells y).toArray from rfl)
      obtain ⟨W2, hW2⟩ : ∃ W2, W1.alloc (.cells #[.int .i64 y.k, .string (bs y.x), .string (bs y.y), .string (bs y.z)] 23) = W2 := ⟨_, rfl⟩
      obtain ⟨R0, hR0⟩ : ∃ R0, W1.heap.size = R0 := ⟨_, rfl⟩
      have HWE := Lib.hid hW2
      have HRE := Lib.hid hR0
      have HTB := Lib.hid (show TermAt W2 R0 0 y by rw [← hW2, ← hR0]; exact term_box)
      have HBX := Lib.hid (show Below W1.heap.size W1 W2 by rw [← hW2]; exact box_below _ _)
      have HX2 := Lib.hid (blk_on HRD.out.line HBX.out (blk_lt HRD.out.line))
      have HG2 := Lib.hid (blk_on HRD.out.vals HBX.out (blk_lt HRD.out.vals))
      have HA2 := Lib.hid (blk_on HRD.out.box HBX.out (blk_lt HRD.out.box))
      have b1 : W2.cell? ⟨X, 1, none⟩ = some (.slice (some ⟨A + 1, 0, none⟩) n n) := (blk_cell HX2.out 1).trans rfl
      have HLT := Lib.hid (show X < W2.heap.size ∧ R0 < W2.heap.size from ⟨blk_lt HX2.out, by rw [← hW2, ← hR0]; simp⟩)
      have HB2 := Lib.hid (fb2 HBW.out HBX.out (Nat.le_refl _))
      have HGD := Lib.hid (HG.out.on HB2.out)
      have HXR := Lib.hid (show A + 1 < R0 by rw [← hR0]; exact blk_lt HRD.out.vals)
      clear hW2 hR0 HRD HBX
      have k0 : (0 : Int) ≤ (k : Int) := by omega
      have k1 : (k : Int) < (n : Int) := by omega
      go_wp2_with fail
      rw [HWE.out, HRE.out]
      refine wp_region_held_drew (S := (fun W => W.cell? ⟨X, 1, none⟩ = some (.slice (some ⟨A + 1, 0, none⟩) n n) ∧ TermAt W R0 0 y)) (by kernel_rfl) ?_ (fun hHeld => ?_)
      · (try dsimp only); exact ⟨b1, HTB.out⟩
      have hbn : Below W2.heap.size W2 W2.drew := (Below.refl _ _).drew
      refine wpAnyH_take (i := 0) (oi := ⟨some 18, _, _, _, _, _⟩) (v := ?_) rfl (by kernel_rfl) (by kernel_rfl) (by kernel_rfl) (fun _ _ _ h => h) (Or.inl ⟨by kernel_rfl, ?_⟩) (by assumption) ?_
      rotate_left
      · (intro ww hSw; (try dsimp only at hSw); go_simp); (try with_reducible rfl)
      (try simp only [Act.put, List.setIfInBounds_toArray, List.set_cons_zero, List.set_cons_succ])
      refine wpAnyH_take (i := 1) (oi := ⟨some 19, _, _, _, _, _⟩) (v := ?_) rfl (by kernel_rfl) (by kernel_rfl) (by kernel_rfl) (fun _ _ _ h => h) (Or.inl ⟨by kernel_rfl, ?_⟩) (by assumption) ?_
      rotate_left
      · (intro ww hSw; (try dsimp only at hSw); obtain ⟨d1, _⟩ := hSw; go_simp); (try with_reducible rfl)
      (try simp only [Act.put, List.setIfInBounds_toArray, List.set_cons_zero, List.set_cons_succ])
      refine wpAnyH_take (i := 2) (oi := ⟨some 20, _, _, _, _, _⟩) (v := ?_) rfl (by kernel_rfl) (by kernel_rfl) (by kernel_rfl) (fun _ _ _ h => h) (Or.inl ⟨by kernel_rfl, ?_⟩) (by assumption) ?_
      rotate_left
      · (intro ww hSw; (try dsimp only at hSw); go_simp); (try with_reducible rfl)
      (try simp only [Act.put, List.setIfInBounds_toArray, List.set_cons_zero, List.set_cons_succ])
      refine wpAnyH_take (i := 3) (oi := ⟨some 21, _, _, _, _, _⟩) (v := ?_) rfl (by kernel_rfl) (by kernel_rfl) (by kernel_rfl) (fun _ _ _ h => h) (Or.inl ⟨by kernel_rfl, ?_⟩) (by assumption) ?_
      rotate_left
      · (intro ww hSw; (try dsimp only at hSw); obtain ⟨_, d0, d1, d2, d3⟩ := hSw; go_simp); (try with_reducible rfl)
      (try simp only [Act.put, List.setIfInBounds_toArray, List.set_cons_zero, List.set_cons_succ])
      refine wpAnyH_ready (rs := [4]) (by kernel_rfl) (by simp) ?_
      refine AllReadyH.cons rfl (fun K hK => ?_) AllReadyH.nil
      go_simp
      refine (HVO.out _ (HGD.out.on hbn)).mono ?_
      rintro e ws ⟨rfl, hbs⟩
      replace hbn := bnext hbn hbs
      clear hbs
      rw [HVE.out]
      go_wp2_with fail
      refine hK.out _ _ ?_ (fun hHeld => ?_)
      · (try dsimp only); exact ⟨keptC b1 hbn HLT.out.1, HTB.out.on hbn HLT.out.2⟩
      clear hK K
      (try simp only [Act.put, List.setIfInBounds_toArray, List.set_cons_zero, List.set_cons_succ])
      refine wpAnyH_take (i := 5) (oi := ⟨some 23, _, _, _, _, _⟩) (v := ?_) rfl (by kernel_rfl) (by kernel_rfl) (by kernel_rfl) (fun _ _ _ h => h) (Or.inl ⟨by kernel_rfl, ?_⟩) (by assumption) ?_
      rotate_left
      · (intro ww hSw; (try dsimp only at hSw); go_simp); (try with_reducible rfl)
      (try simp only [Act.put, List.setIfInBounds_toArray, List.set_cons_zero, List.set_cons_succ])
      refine wpAnyH_ready (rs := [6]) (by kernel_rfl) (by simp) ?_
      refine AllReadyH.cons rfl (fun K hK => ?_) AllReadyH.nil
      have hG3 := blk_on HG2.out hbn (blk_lt HG2.out)
      have hX3 := blk_on HX2.out hbn (blk_lt HX2.out)
      have hA3 := blk_on HA2.out hbn (blk_lt HA2.out)
      refine wp_mid_abs 60 (.tmp 23) (.tmp 22) rfl (A + 1) (k * 8) (valCells y).toArray (by kernel_rfl) (by kernel_rfl) 60 (cellsV (halfV r n k)) (cellsV (halfV r n (k + 1))) hG3 (by kernel_rfl) (by kernel_rfl) HSE.out HFI.out ?_
      intro W4 hG4 hgr
      have HR5 := Lib.hid (show LofR w A X (A + 1) (.slice (some ⟨g, o, none⟩) n c) r n (k + 1) W4 from by
        have hae := HAE.out
        refine ⟨blk_grown hA3 (by omega) hgr, blk_grown hX3 (by have := HGX.out; omega) hgr, hG4, ?_⟩
        exact (fb2 HB2.out hbn (Nat.le_refl _)).grown hgr (Nat.le_trans HB2.out.size hbn.size) (fun j hj => by injection hj with hj; omega))
      have hk4 : W4.cell? ⟨X, 1, none⟩ = some (.slice (some ⟨A + 1, 0, none⟩) n n) := (blk_cell HR5.out.line 1).trans rfl
      have ht4 : TermAt W4 R0 0 y := (HTB.out.on hbn HLT.out.2).same (hgr.block R0 (Nat.lt_of_lt_of_le HLT.out.2 hbn.size) (fun e => by injection e with e; have := HXR.out; omega))
      change K (Act.put _ none undef) _
      refine hK.out _ _ ?_ (fun hHeld => ?_)
      · (try dsimp only); exact ⟨hk4, ht4⟩
      clear hK K
      (try simp only [Act.put])
      refine wpAnyH_done (by kernel_rfl) ?_ _
      go_wp2
      go_roundg gg
      case measure => omega
      case rel => exact ⟨k + 1, by go_num, by omega, HR5⟩
    · have hkn2 : k = n := by omega
      have k1 : ¬ (k : Int) < (n : Int) := by omega
      rw [hkn2] at HRD
      have hX1 := HRD.out.line
      have q0 : W1.cell? ⟨X, 0, none⟩ = some (.slice a n c) := (blk_cell hX1 0).trans rfl
      have q1 : W1.cell? ⟨X, 1, none⟩ = some (.slice (some ⟨A + 1, 0, none⟩) n n) := (blk_cell hX1 1).trans rfl
      clear hX1
      go_wp2_with (refine whole_abs 75 (.tmp 2) (.tmp 25) ⟨rfl, rfl⟩ A #[.slice a n c, .slice (some ⟨A + 1, 0, none⟩) n n] rfl rfl 75 #[.slice none 0 0, .slice none 0 0] HRD.out.box (by kernel_rfl) rfl (by kernel_rfl) ?_; intro w9 hA9 hG9)
      have q5 : w9.cell? ⟨A, 0, none⟩ = some (.slice a n c) := (blk_cell hA9.out 0).trans rfl
      have q6 : w9.cell? ⟨A, 1, none⟩ = some (.slice (some ⟨A + 1, 0, none⟩) n n) := (blk_cell hA9.out 1).trans rfl
      have hae := HAE.out
      refine bodyPost_ret (v := .agg #[.slice a n c, .slice (some ⟨A + 1, 0, none⟩) n n]) (by simp [results, Tryz.results48, q5, q6, go_sem]) rfl ⟨_, rfl, ?_, ?_⟩
      · have h9 := blk_grown HRD.out.vals (by omega) hG9.out
        rw [show halfV r n n = r by unfold halfV; rw [List.take_of_length_le (by rw [HL.out]; omega), Nat.sub_self]; simp] at h9
        exact val_blk h9 HL.out (by unfold maxLen; omega) _ (by omega)
      · exact HRD.out.below.grown hG9.out HRD.out.below.size (fun j hj => by injection hj with hj; omega)

end Go.Proofs.YtkfemnjblbnclaaGreatDoor
