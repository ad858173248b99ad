/- Which of two lines is ahead: package shape's compareLines, draws counted (written by gen/mkline12.py). -/
import Derived.Test.YtkfemnjblbnclaaGreatDoorShpUp
import Derived.Test.YtkfemnjblbnclaaGreatDoorShpRanks
import Derived.Test.YtkfemnjblbnclaaGreatDoorGVCmp
namespace Go.Proofs.YtkfemnjblbnclaaGreatDoor
open Go.RowKit

/- a value's eight cells -/
def ValAt (w : World) (g o : Nat) (t : TermL) : Prop := w.cell? ⟨g, o, none⟩ = some (.int .i64 (sortP t)) ∧ w.cell? ⟨g, o + 1, none⟩ = some (.int .i64 (numP t).v) ∧ w.cell? ⟨g, o + 2, none⟩ = some (.int .i64 (numP t).s) ∧ w.cell? ⟨g, o + 3, none⟩ = some (.bool (numP t).d) ∧
  w.cell? ⟨g, o + 4, none⟩ = some (.int .i64 t.k) ∧ w.cell? ⟨g, o + 5, none⟩ = some (.string (bs t.x)) ∧ w.cell? ⟨g, o + 6, none⟩ = some (.string (bs t.y)) ∧ w.cell? ⟨g, o + 7, none⟩ = some (.string (bs t.z))
theorem ValAt.same {w w' : World} {g o : Nat} {t : TermL} (h : ValAt w g o t) (hb : w'.heap[g]? = w.heap[g]?) : ValAt w' g o t := by
  obtain ⟨c0, c1, c2, c3, c4, c5, c6, c7⟩ := h
  exact ⟨(cell_same hb _).trans c0, (cell_same hb _).trans c1, (cell_same hb _).trans c2, (cell_same hb _).trans c3, (cell_same hb _).trans c4, (cell_same hb _).trans c5, (cell_same hb _).trans c6, (cell_same hb _).trans c7⟩
structure ValK (K : Nat → Prop) (w : World) (a : Option Addr) (n c : Nat) (r : RowL) : Prop where
  len : r.length = n
  cap : n ≤ c
  most : c ≤ maxLen
  cells : 0 < n → ∃ g o, a = some ⟨g, o, none⟩ ∧ g < w.heap.size ∧ K g ∧ ∀ j (h : j < r.length), ValAt w g (o + j * 8) r[j]
theorem ValK.on {K : Nat → Prop} {w w' : World} {a : Option Addr} {n c : Nat} {r : RowL} (h : ValK K w a n c r) (hs : Stay K w w') : ValK K w' a n c r := ⟨h.len, h.cap, h.most, fun h0 => by
  obtain ⟨g, o, e, hg, k, hc⟩ := h.cells h0
  exact ⟨g, o, e, Nat.lt_of_lt_of_le hg hs.size, k, fun j hj => (hc j hj).same (hs.block g hg k)⟩⟩
theorem ValK.mono {K K' : Nat → Prop} {w : World} {a : Option Addr} {n c : Nat} {r : RowL} (h : ValK K w a n c r) (hk : ∀ i, i < w.heap.size → K i → K' i) : ValK K' w a n c r := ⟨h.len, h.cap, h.most, fun h0 => by obtain ⟨g, o, e, hg, k, hc⟩ := h.cells h0; exact ⟨g, o, e, hg, hk g hg k, hc⟩⟩
/- ranks -/
structure RankK (K : Nat → Prop) (w : World) (a : Option Addr) (n c : Nat) (L : List (Nat × Bool)) : Prop where
  len : L.length = n
  cap : n ≤ c
  most : c ≤ maxLen
  cells : 0 < n → ∃ g o, a = some ⟨g, o, none⟩ ∧ g < w.heap.size ∧ K g ∧ ∀ j (h : j < L.length), w.cell? ⟨g, o + j * 2, none⟩ = some (.int .i64 L[j].1) ∧ w.cell? ⟨g, o + j * 2 + 1, none⟩ = some (.bool L[j].2)
theorem RankK.on {K : Nat → Prop} {w w' : World} {a : Option Addr} {n c : Nat} {L : List (Nat × Bool)} (h : RankK K w a n c L) (hs : Stay K w w') : RankK K w' a n c L := ⟨h.len, h.cap, h.most, fun h0 => by
  obtain ⟨g, o, e, hg, k, hc⟩ := h.cells h0
  exact ⟨g, o, e, Nat.lt_of_lt_of_le hg hs.size, k, fun j hj => ⟨(cell_same (hs.block g hg k) _).trans (hc j hj).1, (cell_same (hs.block g hg k) _).trans (hc j hj).2⟩⟩⟩
theorem own_rank {w : World} {B n : Nat} {v : Value} {L : List (Nat × Bool)} (h : w.ownsRow B 110 2 v n (cellsC L)) (hn : L.length = n) : ∃ a c, v = .slice a n c ∧ RankK (fun i => B ≤ i) w a n c L := by
  rcases h.2 with ⟨rfl, h0⟩ | ⟨g, cap, cur, rfl, hg, hblk, h1, h2, h3, h4⟩
  · subst h0
    exact ⟨_, _, rfl, hn, Nat.le_refl _, Nat.zero_le _, fun c => absurd c (Nat.lt_irrefl _)⟩
  · refine ⟨_, _, rfl, hn, h1, h2, fun h0 => ⟨g, 0, rfl, (Array.getElem?_eq_some_iff.1 hblk).1, hg, fun j hj => ?_⟩⟩
    obtain ⟨e1, e2⟩ := cellsC_at L j hj
    rw [Nat.zero_add, h.cellAt _ (by omega), h.cellAt _ (by omega)]
    exact ⟨e1, e2⟩
theorem row_next {L : List (Nat × Bool)} {k : Nat} (hk : k < L.length) (a b : RowL) : rowP (L.drop k) a b = if valP (a.getD L[k].1 nilT) (b.getD L[k].1 nilT) = 0 then rowP (L.drop (k + 1)) a b else turnZ L[k].2 (valP (a.getD L[k].1 nilT) (b.getD L[k].1 nilT)) := by
  rw [List.drop_eq_getElem_cons hk, rowP_cons]
theorem getD_at {α : Type} (l : List α) (i : Nat) (h : i < l.length) (d : α) : l.getD i d = l[i] := by rw [List.getD_eq_getElem?_getD, List.getElem?_eq_getElem h]; rfl

theorem ValAt.up {B : Nat} {w w' : World} {g o : Nat} {t : TermL} (h : ValAt w g o t) (hb : Up.Below B w w') (hg : g < B) : ValAt w' g o t := h.same (hb.block g hg)
namespace Up
structure LineR (w : World) (B : Nat) (a1 a2 b1 b2 : Value) (wr : World) : Prop where
  below : Below B w wr
  x1 : wr.cell? ⟨B, 1, none⟩ = some a2
  y1 : wr.cell? ⟨B + 1, 1, none⟩ = some b2
  size : B + 1 < wr.heap.size

set_option maxRecDepth 100000 in
set_option maxHeartbeats 8000000 in
theorem lines_calls (x y : RowL) (L : List (Nat × Bool)) (n : Nat) (hL : ∀ p ∈ L, p.1 < n) (ra : Option Addr) (rl rc : Nat) (va : Option Addr) (vc : Nat) (ra' : Option Addr) (rl' rc' : Nat) (va' : Option Addr) (vc' : Nat) (a : Option Addr) (m c : Nat) (w : World) (hg : Nm.Good w)
    (hv : ValK (fun _ => True) w va n vc x) (hv' : ValK (fun _ => True) w va' n vc' y) (hr : RankK (fun _ => True) w a m c L) :
    Calls Tryz.prog 52 #[.agg #[.slice ra rl rc, .slice va n vc], .agg #[.slice ra' rl' rc', .slice va' n vc'], .slice a m c] w fun e w' => e = .returned (.int .i64 (rowP L x y)) ∧ Below w.heap.size w w' := by
  have HV := Lib.hid hv
  have HV' := Lib.hid hv'
  have HR := Lib.hid hr
  have HLL := Lib.hid hL
  have HG := Lib.hid hg
  have hcp := hv.cap
  have hms := hv.most
  have hcp1 := hv'.cap
  have hms1 := hv'.most
  have hcp2 := hr.cap
  have hms2 := hr.most
  unfold maxLen at hms hms1 hms2
  have HXL := Lib.hid hv.len
  have HYL := Lib.hid hv'.len
  have HRL := Lib.hid hr.len
  obtain ⟨B, hB⟩ : ∃ B, w.heap.size = B := ⟨_, rfl⟩
  have HBE := Lib.hid hB
  have HE0 := Lib.hid (show rowP L x y = rowP (L.drop 0) x y by rw [List.drop_zero])
  generalize rowP L x y = Z at HE0 ⊢
  have HS1 := Lib.hid (show LineR w B (.slice ra rl rc) (.slice va n vc) (.slice ra' rl' rc') (.slice va' n vc') ((w.alloc (.cells #[.slice ra rl rc, .slice va n vc] 75)).alloc (.cells #[.slice ra' rl' rc', .slice va' n vc'] 75)) from by
    have h1 := blk_new w 75 #[.slice ra rl rc, .slice va n vc]
    have h2 := blk_new (w.alloc (.cells #[.slice ra rl rc, .slice va n vc] 75)) 75 #[.slice ra' rl' rc', .slice va' n vc']
    rw [show (w.alloc (.cells #[.slice ra rl rc, .slice va n vc] 75)).heap.size = B + 1 by rw [← hB]; simp] at h2
    rw [hB] at h1
    refine ⟨by rw [← hB]; exact two_alloc _ _ _, by rw [blk_cell (blk_alloc h1 _)]; rfl, by rw [blk_cell h2]; rfl, by rw [← hB]; simp⟩)
  clear hv hv' hr hL hg hB
  go_enter Tryz.func52, Tryz.ntmps52
  go_wp2
  rw [HBE.out]
  go_loopg [9, 12] m (fun g _ i wr => ∃ k : Nat, i = .int .i64 k ∧ k + g = m ∧ Z = rowP (L.drop k) x y ∧ Hid (LineR w B (.slice ra rl rc) (.slice va n vc) (.slice ra' rl' rc') (.slice va' n vc') wr))
  case atStart => exact ⟨0, rfl, by omega, HE0.out, HS1⟩
  case round =>
    obtain ⟨W1, rfl⟩ : ∃ W1, W1 = wr := ⟨_, rfl⟩
    obtain ⟨k, rfl, hkg, hZ, HRD⟩ := hrel
    have HZ := Lib.hid hZ
    clear hZ
    by_cases hkm : k < m
    · obtain ⟨gg, rfl⟩ : ∃ gg, gk = gg + 1 := ⟨gk - 1, by omega⟩
      have hkL : k < L.length := by rw [HRL.out]; exact hkm
      obtain ⟨g, o, ha, hgw, _, hcells⟩ := HR.out.cells (by omega)
      subst ha
      obtain ⟨hc0, hc1⟩ := hcells k hkL
      have HBW := Lib.hid HRD.out.below
      have hBW0 : w.heap.size = B := HBE.out
      have c0 := keptC hc0 HBW.out (by omega)
      have c1 := keptC hc1 HBW.out (by omega)
      have hgW : g < W1.heap.size := Nat.lt_of_lt_of_le hgw HBW.out.size
      have HNX := Lib.hid (row_next hkL x y)
      have hci := HLL.out _ (List.getElem_mem hkL)
      generalize L[k] = p at c0 c1 HNX hci
      obtain ⟨ci, d⟩ := p
      dsimp only at c0 c1 HNX hci
      have hciX : ci < x.length := by rw [HXL.out]; exact hci
      have hciY : ci < y.length := by rw [HYL.out]; exact hci
      rw [getD_at x ci hciX, getD_at y ci hciY] at HNX
      obtain ⟨gx, ox, hax, hgx, _, hxc⟩ := HV.out.cells (by omega)
      obtain ⟨gy, oy, hay, hgy, _, hyc⟩ := HV'.out.cells (by omega)
      subst hax hay
      have hxv := (hxc ci hciX).up HBW.out (by omega)
      have hyv := (hyc ci hciY).up HBW.out (by omega)
      have HVC := Lib.hid (fun W hW => vcmp_calls x[ci] y[ci] W hW)
      have hq := valP_range x[ci] y[ci]
      generalize x[ci] = tx at HNX hxv HVC hq
      generalize y[ci] = ty at HNX hyv HVC hq
      clear hcells hxc hyc hc0 hc1 hciX hciY
      have hb1 := HRD.out.x1
      have hb2 := HRD.out.y1
      have hsz := HRD.out.size
      have HBX := Lib.hid (box_below W1 (.cells #[.int .i64 ci, .bool d] 110))
      obtain ⟨W0, hW0⟩ : ∃ W0, W1.alloc (.cells #[.int .i64 ci, .bool d] 110) = W0 := ⟨_, rfl⟩
      obtain ⟨R0, hR0⟩ : ∃ R0, W1.heap.size = R0 := ⟨_, rfl⟩
      have HWE := Lib.hid hW0
      have HRE := Lib.hid hR0
      rw [hW0] at HBX
      have hsz0 : R0 < W0.heap.size := by rw [← hW0, ← hR0]; simp
      have HBR := Lib.hid (show Blk W0 R0 110 #[.int .i64 ci, .bool d] by rw [← hW0, ← hR0]; exact blk_new _ _ _)
      have r0 : W0.cell? ⟨R0, 0, none⟩ = some (.int .i64 ci) := (blk_cell HBR.out 0).trans rfl
      have r1 : W0.cell? ⟨R0, 1, none⟩ = some (.bool d) := (blk_cell HBR.out 1).trans rfl
      have b1 := keptC hb1 HBX.out (show B < W1.heap.size by omega)
      have b2 := keptC hb2 HBX.out (show B + 1 < W1.heap.size by omega)
      have HXV := Lib.hid (hxv.up HBX.out (show gx < W1.heap.size by have := HBW.out.size; omega))
      have HYV := Lib.hid (hyv.up HBX.out (show gy < W1.heap.size by have := HBW.out.size; omega))
      have HLT := Lib.hid (show B < W0.heap.size ∧ B + 1 < W0.heap.size ∧ R0 < W0.heap.size ∧ gx < W0.heap.size ∧ gy < W0.heap.size by have := HBW.out.size; omega)
      have HG0 := Lib.hid ((HG.out.on (HBW.out.plain.mono (by omega))).on HBX.out.plain)
      have HB0 := Lib.hid (fb2 HBW.out HBX.out (by omega))
      have hlx : ci < n := hci
      clear hW0 hR0 hb1 hb2 hxv hyv hci hBW0
      have k0 : (0 : Int) ≤ (k : Int) := by omega
      have k1 : (k : Int) < (m : Int) := by omega
      go_wp2_with fail
      rw [HWE.out, HRE.out]
      clear HRD HBX HBR
      refine wp_region_held_drew (S := (fun W => Below W0.heap.size W0 W)) (by kernel_rfl) ?_ (fun hHeld => ?_)
      · (try dsimp only); exact (Below.refl _ _).drew
      have hbn : Below W0.heap.size W0 W0.drew := (Below.refl _ _).drew
      refine wpAnyH_take (i := 0) (oi := ⟨some 16, _, _, _, _, _⟩) (v := ?_) rfl (by kernel_rfl) (by kernel_rfl) (by kernel_rfl) (fun _ _ _ h => h) (Or.inl ⟨by kernel_rfl, ?_⟩) (by assumption) ?_
      rotate_left
      · (intro ww hSw; (try dsimp only at hSw); go_simp); (try with_reducible rfl)
      (try simp only [Act.put, List.setIfInBounds_toArray, List.set_cons_zero, List.set_cons_succ])
      refine wpAnyH_take (i := 1) (oi := ⟨some 17, _, _, _, _, _⟩) (v := ?_) rfl (by kernel_rfl) (by kernel_rfl) (by kernel_rfl) (fun _ _ _ h => h) (Or.inl ⟨by kernel_rfl, ?_⟩) (by assumption) ?_
      rotate_left
      · (intro ww hSw; (try dsimp only at hSw); have d1 := keptC b1 hSw HLT.out.1; go_simp); (try with_reducible rfl)
      (try simp only [Act.put, List.setIfInBounds_toArray, List.set_cons_zero, List.set_cons_succ])
      refine wpAnyH_take (i := 2) (oi := ⟨some 18, _, _, _, _, _⟩) (v := ?_) rfl (by kernel_rfl) (by kernel_rfl) (by kernel_rfl) (fun _ _ _ h => h) (Or.inl ⟨by kernel_rfl, ?_⟩) (by assumption) ?_
      rotate_left
      · (intro ww hSw; (try dsimp only at hSw); go_simp); (try with_reducible rfl)
      (try simp only [Act.put, List.setIfInBounds_toArray, List.set_cons_zero, List.set_cons_succ])
      refine wpAnyH_take (i := 3) (oi := ⟨some 19, _, _, _, _, _⟩) (v := ?_) rfl (by kernel_rfl) (by kernel_rfl) (by kernel_rfl) (fun _ _ _ h => h) (Or.inl ⟨by kernel_rfl, ?_⟩) (by assumption) ?_
      rotate_left
      · (intro ww hSw; (try dsimp only at hSw); have d1 := keptC r0 hSw HLT.out.2.2.1; go_simp); (try with_reducible rfl)
      (try simp only [Act.put, List.setIfInBounds_toArray, List.set_cons_zero, List.set_cons_succ])
      refine wpAnyH_take (i := 4) (oi := ⟨some 20, _, _, _, _, _⟩) (v := ?_) rfl (by kernel_rfl) (by kernel_rfl) (by kernel_rfl) (fun _ _ _ h => h) (Or.inl ⟨by kernel_rfl, ?_⟩) (by assumption) ?_
      rotate_left
      · (intro ww hSw; (try dsimp only at hSw); go_simp); (try with_reducible rfl)
      (try simp only [Act.put, List.setIfInBounds_toArray, List.set_cons_zero, List.set_cons_succ])
      refine wpAnyH_take (i := 5) (oi := ⟨some 21, _, _, _, _, _⟩) (v := ?_) rfl (by kernel_rfl) (by kernel_rfl) (by kernel_rfl) (fun _ _ _ h => h) (Or.inl ⟨by kernel_rfl, ?_⟩) (by assumption) ?_
      rotate_left
      · (intro ww hSw; (try dsimp only at hSw); obtain ⟨d0, d1, d2, d3, d4, d5, d6, d7⟩ := HXV.out.up hSw HLT.out.2.2.2.1; go_simp); (try with_reducible rfl)
      (try simp only [Act.put, List.setIfInBounds_toArray, List.set_cons_zero, List.set_cons_succ])
      refine wpAnyH_take (i := 6) (oi := ⟨some 22, _, _, _, _, _⟩) (v := ?_) rfl (by kernel_rfl) (by kernel_rfl) (by kernel_rfl) (fun _ _ _ h => h) (Or.inl ⟨by kernel_rfl, ?_⟩) (by assumption) ?_
      rotate_left
      · (intro ww hSw; (try dsimp only at hSw); go_simp); (try with_reducible rfl)
      (try simp only [Act.put, List.setIfInBounds_toArray, List.set_cons_zero, List.set_cons_succ])
      refine wpAnyH_take (i := 7) (oi := ⟨some 23, _, _, _, _, _⟩) (v := ?_) rfl (by kernel_rfl) (by kernel_rfl) (by kernel_rfl) (fun _ _ _ h => h) (Or.inl ⟨by kernel_rfl, ?_⟩) (by assumption) ?_
      rotate_left
      · (intro ww hSw; (try dsimp only at hSw); have d1 := keptC b2 hSw HLT.out.2.1; go_simp); (try with_reducible rfl)
      (try simp only [Act.put, List.setIfInBounds_toArray, List.set_cons_zero, List.set_cons_succ])
      refine wpAnyH_take (i := 8) (oi := ⟨some 24, _, _, _, _, _⟩) (v := ?_) rfl (by kernel_rfl) (by kernel_rfl) (by kernel_rfl) (fun _ _ _ h => h) (Or.inl ⟨by kernel_rfl, ?_⟩) (by assumption) ?_
      rotate_left
      · (intro ww hSw; (try dsimp only at hSw); go_simp); (try with_reducible rfl)
      (try simp only [Act.put, List.setIfInBounds_toArray, List.set_cons_zero, List.set_cons_succ])
      refine wpAnyH_take (i := 9) (oi := ⟨some 25, _, _, _, _, _⟩) (v := ?_) rfl (by kernel_rfl) (by kernel_rfl) (by kernel_rfl) (fun _ _ _ h => h) (Or.inl ⟨by kernel_rfl, ?_⟩) (by assumption) ?_
      rotate_left
      · (intro ww hSw; (try dsimp only at hSw); have d1 := keptC r0 hSw HLT.out.2.2.1; go_simp); (try with_reducible rfl)
      (try simp only [Act.put, List.setIfInBounds_toArray, List.set_cons_zero, List.set_cons_succ])
      refine wpAnyH_take (i := 10) (oi := ⟨some 26, _, _, _, _, _⟩) (v := ?_) rfl (by kernel_rfl) (by kernel_rfl) (by kernel_rfl) (fun _ _ _ h => h) (Or.inl ⟨by kernel_rfl, ?_⟩) (by assumption) ?_
      rotate_left
      · (intro ww hSw; (try dsimp only at hSw); go_simp); (try with_reducible rfl)
      (try simp only [Act.put, List.setIfInBounds_toArray, List.set_cons_zero, List.set_cons_succ])
      refine wpAnyH_take (i := 11) (oi := ⟨some 27, _, _, _, _, _⟩) (v := ?_) rfl (by kernel_rfl) (by kernel_rfl) (by kernel_rfl) (fun _ _ _ h => h) (Or.inl ⟨by kernel_rfl, ?_⟩) (by assumption) ?_
      rotate_left
      · (intro ww hSw; (try dsimp only at hSw); obtain ⟨d0, d1, d2, d3, d4, d5, d6, d7⟩ := HYV.out.up hSw HLT.out.2.2.2.2; go_simp); (try with_reducible rfl)
      (try simp only [Act.put, List.setIfInBounds_toArray, List.set_cons_zero, List.set_cons_succ])
      refine wpAnyH_ready (rs := [12]) (by kernel_rfl) (by simp) ?_
      refine AllReadyH.cons rfl (fun K hK => ?_) AllReadyH.nil
      go_simp
      refine (HVC.out _ (HG0.out.on hbn.plain)).mono ?_
      rintro e ws ⟨rfl, hbs⟩
      replace hbn := bnext hbn hbs
      clear hbs
      go_wp2_with fail
      refine hK.out _ _ ?_ (fun hHeld => ?_)
      · (try dsimp only); exact hbn
      clear hK K
      (try simp only [Act.put, List.setIfInBounds_toArray, List.set_cons_zero, List.set_cons_succ])
      refine wpAnyH_take (i := 13) (oi := ⟨some 9, _, _, _, _, _⟩) (v := ?_) rfl (by kernel_rfl) (by kernel_rfl) (by kernel_rfl) (fun _ _ _ h => h) (Or.inl ⟨by kernel_rfl, ?_⟩) (by assumption) ?_
      rotate_left
      · (intro ww hSw; (try dsimp only at hSw); go_simp); (try with_reducible rfl)
      (try simp only [Act.put, List.setIfInBounds_toArray, List.set_cons_zero, List.set_cons_succ])
      refine wpAnyH_done (by kernel_rfl) ?_ _
      have r2 := keptC r1 hbn HLT.out.2.2.1
      have b3 := keptC b1 hbn HLT.out.1
      have b4 := keptC b2 hbn HLT.out.2.1
      have HBN := Lib.hid hbn
      clear hbn r0 r1 b1 b2 HXV HYV
      generalize valP tx ty = q at HNX hq
      have HL2 := Lib.hid (show LineR w B (.slice ra rl rc) (.slice (some ⟨gx, ox, none⟩) n vc) (.slice ra' rl' rc') (.slice (some ⟨gy, oy, none⟩) n vc') ws from ⟨HB0.out.trans (HBN.out.mono (by have := HLT.out.1; omega)), b3, b4, by have := HLT.out.2.1; have := HBN.out.size; omega⟩)
      clear b3 b4 HBN HB0 HG0
      cases d
      all_goals rcases hq with rfl | rfl | rfl
      · have hz : Z = -1 := HZ.out.trans (HNX.out.trans (if_neg (by omega)))
        clear HZ HNX
        go_wp2
        go_ret
        exact ⟨ret_int (by first | rfl | exact hz.symm), by rw [HBE.out]; exact HL2.out.below⟩
      · have HZ2 := Lib.hid (HZ.out.trans (HNX.out.trans (if_pos rfl)))
        clear HZ HNX
        go_wp2
        go_roundg gg
        case measure => omega
        case rel => exact ⟨k + 1, by go_num, by omega, HZ2.out, HL2⟩
      · have hz : Z = 1 := HZ.out.trans (HNX.out.trans (if_neg (by omega)))
        clear HZ HNX
        go_wp2
        go_ret
        exact ⟨ret_int (by first | rfl | exact hz.symm), by rw [HBE.out]; exact HL2.out.below⟩
      · have hz : Z = 1 := HZ.out.trans (HNX.out.trans (if_neg (by omega)))
        clear HZ HNX
        go_wp2
        go_ret
        exact ⟨ret_int (by first | rfl | exact hz.symm), by rw [HBE.out]; exact HL2.out.below⟩
      · have HZ2 := Lib.hid (HZ.out.trans (HNX.out.trans (if_pos rfl)))
        clear HZ HNX
        go_wp2
        go_roundg gg
        case measure => omega
        case rel => exact ⟨k + 1, by go_num, by omega, HZ2.out, HL2⟩
      · have hz : Z = -1 := HZ.out.trans (HNX.out.trans (if_neg (by omega)))
        clear HZ HNX
        go_wp2
        go_ret
        exact ⟨ret_int (by first | rfl | exact hz.symm), by rw [HBE.out]; exact HL2.out.below⟩
    · have k1 : ¬ (k : Int) < (m : Int) := by omega
      have hz : Z = 0 := by rw [HZ.out, List.drop_eq_nil_of_le (by rw [HRL.out]; omega)]; rfl
      go_wp2
      go_ret
      exact ⟨ret_int (by first | rfl | exact hz.symm), by rw [HBE.out]; exact HRD.out.below⟩
end Up

end Go.Proofs.YtkfemnjblbnclaaGreatDoor
