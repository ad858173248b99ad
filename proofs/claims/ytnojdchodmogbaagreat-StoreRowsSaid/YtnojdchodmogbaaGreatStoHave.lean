/- A store as it lies in memory: three lists of the same triples, each in another order; package store's find. -/
import Derived.Test.YtnojdchodmogbaaGreatStoFind
namespace Go.Proofs.YtnojdchodmogbaaGreat
open Go.RowKit

abbrev Own (w : World) (B : Nat) (v : Value) (l : List TripL) : Prop := w.ownsRow B 29 12 v l.length (tripCells l)
theorem own_cases {w : World} {B : Nat} {v : Value} {l : List TripL} (h : Own w B v l) : (v = .slice none 0 0 ∧ l = []) ∨ ∃ g cap, v = .slice (some ⟨g, 0, none⟩) l.length cap ∧ g < w.heap.size ∧ l.length ≤ cap ∧ cap ≤ maxLen ∧ B ≤ g ∧ ∀ j (h : j < l.length), Cells12 w g j l[j] := by
  rcases h.2 with ⟨hv, h0⟩ | ⟨g, cap, cur, hv, hg, hh, hn, hm, _⟩
  · exact .inl ⟨hv, List.eq_nil_of_length_eq_zero h0⟩
  · refine .inr ⟨g, cap, hv, (Array.getElem?_eq_some_iff.1 hh).1, hn, hm, hg, fun j hj => trips_cell (fun j u hj => ?_) j hj⟩
    have := h.cells (g := g) (by rw [hv]; rfl) j u hj
    cases j with
    | zero => simpa [Addr.add] using this
    | succ j => simpa [Addr.add] using this
theorem own_on {w w' : World} {B C : Nat} {v : Value} {l : List TripL} (h : Own w B v l) (hb : Below C w w') (hC : w.heap.size ≤ C) : Own w' B v l := by
  refine ⟨h.1, ?_⟩
  rcases h.2 with h0 | ⟨g, cap, cur, hv, hg, hh, r⟩
  · exact .inl h0
  · exact .inr ⟨g, cap, cur, hv, hg, by rw [hb.block g (Nat.lt_of_lt_of_le (Array.getElem?_eq_some_iff.1 hh).1 hC)]; exact hh, r⟩

/- a store in block b, with the triples L, and two more lists -/
structure Sto (w : World) (B b : Nat) (v0 v1 v2 : Value) (L l1 l2 : List TripL) : Prop where
  blk : Blk w b 70 #[v0, v1, v2]
  low : B ≤ b
  r0 : Own w B v0 L
  r1 : Own w B v1 l1
  r2 : Own w B v2 l2
  o0 : Ord 0 L
  o1 : Ord 1 l1
  o2 : Ord 2 l2
  m1 : ∀ t, t ∈ l1 ↔ t ∈ L
  m2 : ∀ t, t ∈ l2 ↔ t ∈ L
  n1 : l1.length = L.length
  n2 : l2.length = L.length
  a01 : v0.ownBlock = none ∨ v0.ownBlock ≠ v1.ownBlock
  a02 : v0.ownBlock = none ∨ v0.ownBlock ≠ v2.ownBlock
  a12 : v1.ownBlock = none ∨ v1.ownBlock ≠ v2.ownBlock
  fine : ∀ t ∈ L, tripB t = true ∧ t.ok
  most : L.length ≤ 4096
theorem sto_on {w w' : World} {B b C : Nat} {v0 v1 v2 : Value} {L l1 l2 : List TripL} (h : Sto w B b v0 v1 v2 L l1 l2) (hb : Below C w w') (hC : w.heap.size ≤ C) : Sto w' B b v0 v1 v2 L l1 l2 :=
  { h with blk := blk_on h.blk hb (Nat.lt_of_lt_of_le (blk_lt h.blk) hC), r0 := own_on h.r0 hb hC, r1 := own_on h.r1 hb hC, r2 := own_on h.r2 hb hC }

theorem list_zero (a b c : Value) (w : World) : (Instr.index 68 (.agg #[a, b, c]) (.int .i64 0)).run Tryz.prog w = .ok a w := by kernel_rfl
theorem list_one (a b c : Value) (w : World) : (Instr.index 68 (.agg #[a, b, c]) (.int .i64 1)).run Tryz.prog w = .ok b w := by kernel_rfl
theorem list_two (a b c : Value) (w : World) : (Instr.index 68 (.agg #[a, b, c]) (.int .i64 2)).run Tryz.prog w = .ok c w := by kernel_rfl
theorem name_world {P : Program} {c : Code} {Q : Exit → Act → World → Prop} {a : Act} {w : World} (h : ∀ W1, W1 = w → c.wp P Q a W1) : c.wp P Q a w := h w rfl

set_option maxRecDepth 100000 in
set_option maxHeartbeats 2000000 in
theorem bsf_nil (i : Nat) (t : TripL) (f : Value) (w : World) : Calls Tryz.prog 58 #[.slice none 0 0, t.v, f] w (BsfT i [] t w) := by
  simp only [TripL.v]
  go_enter Tryz.func58, Tryz.ntmps58
  go_wp2_with fail
  go_loopg [9, 10] 0 (fun kx s9 s10 wr => s9 = .int .i64 0 ∧ s10 = .int .i64 0 ∧ Hid (Below w.heap.size w wr))
  case atStart => exact ⟨rfl, rfl, box_below _ _⟩
  case round =>
    obtain ⟨rfl, rfl, hb⟩ := hrel
    go_wp2_with fail
    refine wp_region_held_drew (S := (fun W => True)) (by kernel_rfl) ?_ (fun hHeld => ?_)
    · (try dsimp only); (try trivial)
    refine wpAnyH_take (i := 0) (oi := ⟨some 35, _, _, _, _, _⟩) (v := ?_) rfl (by kernel_rfl) (by kernel_rfl) (by kernel_rfl) (fun _ _ _ h => h) (Or.inl ⟨by kernel_rfl, ?_⟩) (by assumption) ?_
    rotate_left
    · (intro ww hSw; (try dsimp only at hSw); go_simp); (try with_reducible rfl)
    (try simp only [Act.put, List.setIfInBounds_toArray, List.set_cons_zero, List.set_cons_succ])
    refine wpAnyH_take (i := 1) (oi := ⟨some 36, _, _, _, _, _⟩) (v := ?_) rfl (by kernel_rfl) (by kernel_rfl) (by kernel_rfl) (fun _ _ _ h => h) (Or.inl ⟨by kernel_rfl, ?_⟩) (by assumption) ?_
    rotate_left
    · (intro ww hSw; (try dsimp only at hSw); go_simp); (try with_reducible rfl)
    (try simp only [Act.put, List.setIfInBounds_toArray, List.set_cons_zero, List.set_cons_succ])
    refine wpAnyH_take (i := 2) (oi := ⟨some 37, _, _, _, _, _⟩) (v := ?_) rfl (by kernel_rfl) (by kernel_rfl) (by kernel_rfl) (fun _ _ _ h => h) (Or.inl ⟨by kernel_rfl, ?_⟩) (by assumption) ?_
    rotate_left
    · (intro ww hSw; (try dsimp only at hSw); go_simp); (try with_reducible rfl)
    (try simp only [Act.put, List.setIfInBounds_toArray, List.set_cons_zero, List.set_cons_succ])
    refine wpAnyH_take (i := 3) (oi := ⟨some 38, _, _, _, _, _⟩) (v := ?_) rfl (by kernel_rfl) (by kernel_rfl) (by kernel_rfl) (fun _ _ _ h => h) (Or.inl ⟨by kernel_rfl, ?_⟩) (by assumption) ?_
    rotate_left
    · (intro ww hSw; (try dsimp only at hSw); go_simp); (try with_reducible rfl)
    (try simp only [Act.put, List.setIfInBounds_toArray, List.set_cons_zero, List.set_cons_succ])
    refine wpAnyH_take (i := 4) (oi := ⟨some 39, _, _, _, _, _⟩) (v := ?_) rfl (by kernel_rfl) (by kernel_rfl) (by kernel_rfl) (fun _ _ _ h => h) (Or.inl ⟨by kernel_rfl, ?_⟩) (by assumption) ?_
    rotate_left
    · (intro ww hSw; (try dsimp only at hSw); go_simp); (try with_reducible rfl)
    (try simp only [Act.put, List.setIfInBounds_toArray, List.set_cons_zero, List.set_cons_succ])
    refine wpAnyH_take (i := 5) (oi := ⟨some 40, _, _, _, _, _⟩) (v := undef) rfl (by kernel_rfl) (by kernel_rfl) (by kernel_rfl) (fun _ _ _ h => h) (Or.inr ⟨by kernel_rfl, rfl⟩) (by assumption) ?_
    (try simp only [Act.put, List.setIfInBounds_toArray, List.set_cons_zero, List.set_cons_succ])
    refine wpAnyH_take (i := 6) (oi := ⟨some 41, _, _, _, _, _⟩) (v := undef) rfl (by kernel_rfl) (by kernel_rfl) (by kernel_rfl) (fun _ _ _ h => h) (Or.inr ⟨by kernel_rfl, rfl⟩) (by assumption) ?_
    (try simp only [Act.put, List.setIfInBounds_toArray, List.set_cons_zero, List.set_cons_succ])
    refine wpAnyH_take (i := 7) (oi := ⟨some 42, _, _, _, _, _⟩) (v := undef) rfl (by kernel_rfl) (by kernel_rfl) (by kernel_rfl) (fun _ _ _ h => h) (Or.inr ⟨by kernel_rfl, rfl⟩) (by assumption) ?_
    (try simp only [Act.put, List.setIfInBounds_toArray, List.set_cons_zero, List.set_cons_succ])
    refine wpAnyH_take (i := 8) (oi := ⟨some 43, _, _, _, _, _⟩) (v := undef) rfl (by kernel_rfl) (by kernel_rfl) (by kernel_rfl) (fun _ _ _ h => h) (Or.inr ⟨by kernel_rfl, rfl⟩) (by assumption) ?_
    (try simp only [Act.put, List.setIfInBounds_toArray, List.set_cons_zero, List.set_cons_succ])
    refine wpAnyH_take (i := 9) (oi := ⟨some 44, _, _, _, _, _⟩) (v := undef) rfl (by kernel_rfl) (by kernel_rfl) (by kernel_rfl) (fun _ _ _ h => h) (Or.inr ⟨by kernel_rfl, rfl⟩) (by assumption) ?_
    (try simp only [Act.put, List.setIfInBounds_toArray, List.set_cons_zero, List.set_cons_succ])
    refine wpAnyH_take (i := 10) (oi := ⟨some 45, _, _, _, _, _⟩) (v := undef) rfl (by kernel_rfl) (by kernel_rfl) (by kernel_rfl) (fun _ _ _ h => h) (Or.inr ⟨by kernel_rfl, rfl⟩) (by assumption) ?_
    (try simp only [Act.put, List.setIfInBounds_toArray, List.set_cons_zero, List.set_cons_succ])
    refine wpAnyH_take (i := 11) (oi := ⟨some 46, _, _, _, _, _⟩) (v := undef) rfl (by kernel_rfl) (by kernel_rfl) (by kernel_rfl) (fun _ _ _ h => h) (Or.inr ⟨by kernel_rfl, rfl⟩) (by assumption) ?_
    (try simp only [Act.put, List.setIfInBounds_toArray, List.set_cons_zero, List.set_cons_succ])
    refine wpAnyH_take (i := 12) (oi := ⟨some 47, _, _, _, _, _⟩) (v := undef) rfl (by kernel_rfl) (by kernel_rfl) (by kernel_rfl) (fun _ _ _ h => h) (Or.inr ⟨by kernel_rfl, rfl⟩) (by assumption) ?_
    (try simp only [Act.put, List.setIfInBounds_toArray, List.set_cons_zero, List.set_cons_succ])
    refine wpAnyH_take (i := 13) (oi := ⟨some 48, _, _, _, _, _⟩) (v := ?_) rfl (by kernel_rfl) (by kernel_rfl) (by kernel_rfl) (fun _ _ _ h => h) (Or.inl ⟨by kernel_rfl, ?_⟩) (by assumption) ?_
    rotate_left
    · (intro ww hSw; (try dsimp only at hSw); go_simp); (try with_reducible rfl)
    (try simp only [Act.put, List.setIfInBounds_toArray, List.set_cons_zero, List.set_cons_succ])
    refine wpAnyH_take (i := 14) (oi := ⟨some 6, _, _, _, _, _⟩) (v := ?_) rfl (by kernel_rfl) (by kernel_rfl) (by kernel_rfl) (fun _ _ _ h => h) (Or.inl ⟨by kernel_rfl, ?_⟩) (by assumption) ?_
    rotate_left
    · (intro ww hSw; (try dsimp only at hSw); go_simp); (try with_reducible rfl)
    (try simp only [Act.put, List.setIfInBounds_toArray, List.set_cons_zero, List.set_cons_succ])
    refine wpAnyH_take (i := 15) (oi := ⟨some 7, _, _, _, _, _⟩) (v := ?_) rfl (by kernel_rfl) (by kernel_rfl) (by kernel_rfl) (fun _ _ _ h => h) (Or.inl ⟨by kernel_rfl, ?_⟩) (by assumption) ?_
    rotate_left
    · (intro ww hSw; (try dsimp only at hSw); go_simp); (try with_reducible rfl)
    (try simp only [Act.put, List.setIfInBounds_toArray, List.set_cons_zero, List.set_cons_succ])
    refine wpAnyH_done (by kernel_rfl) ?_ _
    go_wp2
    go_ret2
    exact ⟨0, by rw [show decide (t ∈ ([] : List TripL)) = false from decide_eq_false List.not_mem_nil]; rfl, ⟨Nat.le_refl _, fun x hx => by simp at hx, fun x hx => by simp at hx⟩, by first | exact hb.out | exact hb.out.drew⟩

theorem bsf_own (i : Nat) (hi2 : i ≤ 2) (l : List TripL) (t : TripL) (I B : Nat) (v : Value) (w : World) (hown : Own w B v l) (hI : w.cell? ⟨I, 0, none⟩ = some (.int .i64 i)) (hIlt : I < w.heap.size) (hs : Ord i l) (hlen : l.length ≤ 1000000) :
    Calls Tryz.prog 58 #[v, t.v, .func (.func 59) #[] #[.pointer (some ⟨I, 0, none⟩)]] w (BsfT i l t w) := by
  rcases own_cases hown with ⟨rfl, rfl⟩ | ⟨g, cap, rfl, hg, hcap, hm, _, hc⟩
  · exact bsf_nil i t _ w
  · exact bsf_calls i hi2 l t I g cap w hg hcap hc hI hIlt hs hlen

/- what find keeps between its rounds -/
def FindR (W0 : World) (A : Nat) (D : Bool) (L l1 l2 : List TripL) (t : TripL) (is i : Value) (wr : World) : Prop :=
  ∃ n k0 k1 k2 : Nat, n ≤ 3 ∧ i = .int .i64 n ∧ is = .bool (decide (0 < n) && D) ∧ Below A W0 wr ∧ Blk wr A 71 #[.int .i64 k0, .int .i64 k1, .int .i64 k2] ∧ (1 ≤ n → Spot 0 L t k0) ∧ (2 ≤ n → Spot 1 l1 t k1) ∧ (3 ≤ n → Spot 2 l2 t k2)
/- what stands all through a round -/
def FindS (A I : Nat) (i : Nat) (Wr W : World) : Prop := Below A Wr W ∧ W.cell? ⟨I, 0, none⟩ = some (.int .i64 i) ∧ Wr.heap.size ≤ W.heap.size
theorem FindS.drew {A I i : Nat} {Wr W : World} (h : FindS A I i Wr W) : FindS A I i Wr W.drew := ⟨h.1.drew, h.2.1, h.2.2⟩
/- what find leaves -/
def FindT (L l1 l2 : List TripL) (t : TripL) (w : World) (e : Ending) (w' : World) : Prop :=
  ∃ k0 k1 k2 : Nat, e = .returned (.tuple #[.agg #[.int .i64 k0, .int .i64 k1, .int .i64 k2], .bool (decide (t ∈ L))]) ∧ Spot 0 L t k0 ∧ Spot 1 l1 t k1 ∧ Spot 2 l2 t k2 ∧ Below w.heap.size w w'

set_option maxRecDepth 100000 in
set_option maxHeartbeats 8000000 in
theorem find_calls (B b : Nat) (v0 v1 v2 : Value) (L l1 l2 : List TripL) (t : TripL) (w : World) (h : Sto w B b v0 v1 v2 L l1 l2) :
    Calls Tryz.prog 32 #[.pointer (some ⟨b, 0, none⟩), t.v] w (FindT L l1 l2 t w) := by
  have H := Lib.hid h
  have hblt := blk_lt h.blk
  have q0 : w.cell? ⟨b, 0, none⟩ = some v0 := by rw [blk_cell h.blk]; rfl
  have q1 : w.cell? ⟨b, 1, none⟩ = some v1 := by rw [blk_cell h.blk]; rfl
  have q2 : w.cell? ⟨b, 2, none⟩ = some v2 := by rw [blk_cell h.blk]; rfl
  have hb1 : b < w.heap.size + 1 := by omega
  have hb2 : b < w.heap.size + 1 + 1 := by omega
  have hn0 : ¬ b = w.heap.size := by omega
  have hn1 : ¬ b = w.heap.size + 1 := by omega
  have hn2 : ¬ b = w.heap.size + 1 + 1 := by omega
  clear h
  simp only [TripL.v]
  go_enter Tryz.func32, Tryz.ntmps32
  go_wp2_with fail
  refine name_world (fun W0 hW0 => ?_)
  obtain ⟨A, hA⟩ : ∃ A, w.heap.size + 1 + 1 = A := ⟨_, rfl⟩
  have hb0 : Below w.heap.size w W0 := by rw [hW0]; exact (two_alloc _ _ _).alloc (by simp; omega) _
  have hs0 : W0.heap.size = A + 1 := by rw [hW0, ← hA]; simp
  have bx0 : Box12 W0 w.heap.size t := box12_of (T := 29) (by rw [hW0]; exact blk_on (blk_on (blk_new w _ (cells12 t)) (box_below _ _) (by simp)) (box_below _ _) (by simp; omega))
  have arr0 : Blk W0 A 71 #[.int .i64 0, .int .i64 0, .int .i64 0] := by rw [hW0, ← hA, show w.heap.size + 1 + 1 = ((w.alloc (.cells (cells12 t) 29)).alloc (.cells #[.int .i64 0, .int .i64 0, .int .i64 0] 71)).heap.size by simp]; exact blk_new _ _ _
  have res0 : Blk W0 (w.heap.size + 1) 71 #[.int .i64 0, .int .i64 0, .int .i64 0] := by rw [hW0]; exact blk_on (by rw [show w.heap.size + 1 = (w.alloc (.cells (cells12 t) 29)).heap.size by simp]; exact blk_new _ _ _) (box_below _ _) (by simp)
  have hTA : w.heap.size < A := by omega
  have hRA : w.heap.size + 1 < A := by omega
  have HB0 := Lib.hid hb0
  have HS0 := Lib.hid hs0
  have BX0 := Lib.hid bx0
  have ARR0 := Lib.hid arr0
  have RES0 := Lib.hid res0
  have HTA := Lib.hid hTA
  have HRA := Lib.hid hRA
  simp only [hA]
  have HA := Lib.hid hA
  clear hW0 hb0 hs0 bx0 arr0 res0 hTA hRA hA q0 q1 q2 hb1 hb2 hn0 hn1 hn2
  obtain ⟨D, hD⟩ : ∃ D, decide (t ∈ L) = D := ⟨_, rfl⟩
  have HD := Lib.hid hD
  clear hD
  go_loopw [7, 14] (fun is i wr => FindR W0 A D L l1 l2 t is i wr) (fun _ i _ => 3 - (intOf i).toNat)
  case atStart => exact ⟨0, 0, 0, 0, by omega, rfl, rfl, Below.refl _ _, ARR0.out, fun h => by omega, fun h => by omega, fun h => by omega⟩
  case round =>
    obtain ⟨n, k0, k1, k2, hn, rfl, rfl, hbw, harr, hp0, hp1, hp2⟩ := hrel
    have HBW := Lib.hid hbw
    have HARR := Lib.hid harr
    have HP0 := Lib.hid hp0
    have HP1 := Lib.hid hp1
    have HP2 := Lib.hid hp2
    have hAr : A < wr.heap.size := blk_lt harr
    have hbr : Hid (Below w.heap.size w wr) := HB0.out.trans (hbw.mono (by have := HTA.out; omega))
    have HX := Lib.hid (sto_on H.out hbr.out (Nat.le_refl _))
    clear hbw harr hp0 hp1 hp2
    rcases (by omega : n = 0 ∨ n = 1 ∨ n = 2 ∨ n = 3) with rfl | rfl | rfl | rfl
    · have xi := list_zero v0 v1 v2
      go_wp2_with fail
      refine name_world (fun W1 hW1 => ?_)
      have hb1 : Hid (Below wr.heap.size wr W1) := by show Below wr.heap.size wr W1; rw [hW1]; first | exact box_below _ _ | exact (box_below _ _).setCell (Nat.le_refl _) _
      have hs1 : Hid (W1.heap.size = wr.heap.size + 1) := by show W1.heap.size = _; rw [hW1]; simp
      have cI : Hid (W1.cell? ⟨wr.heap.size, 0, none⟩ = some (.int .i64 0)) := by show _ = _; rw [hW1]; simp [go_sem]
      clear hW1
      obtain ⟨I, hI⟩ : ∃ I, wr.heap.size = I := ⟨_, rfl⟩
      rw [hI] at cI hAr
      simp only [hI]
      have HI := Lib.hid hI
      clear hI
      have HAI : Hid (A < I) := hAr
      have hx1 := Lib.hid (sto_on HX.out hb1.out (by have := HI.out; omega))
      have bx1 := Lib.hid (box_on (box_on BX0.out HBW.out HTA.out) hb1.out (by have := HTA.out; have := HAI.out; have := HI.out; omega))
      have arr1 := Lib.hid (blk_on HARR.out hb1.out (by have := HAI.out; have := HI.out; omega))
      refine wp_region_held_drew (S := (fun W => FindS A I 0 W1 W)) (by kernel_rfl) ?_ (fun hHeld => ?_)
      · (try dsimp only); first | exact ⟨Below.refl _ _, cI.out, Nat.le_refl _⟩ | exact FindS.drew ⟨Below.refl _ _, cI.out, Nat.le_refl _⟩
      refine wpAnyH_take (i := 0) (oi := ⟨some 19, _, _, _, _, _⟩) (v := ?_) rfl (by kernel_rfl) (by kernel_rfl) (by kernel_rfl) (fun _ _ _ h => h) (Or.inl ⟨by kernel_rfl, ?_⟩) (by assumption) ?_
      rotate_left
      · (intro ww hSw; (try dsimp only at hSw); have c0 := hSw.2.1; go_simp); (try with_reducible rfl)
      (try simp only [Act.put, List.setIfInBounds_toArray, List.set_cons_zero, List.set_cons_succ])
      refine wpAnyH_take (i := 1) (oi := ⟨some 20, _, _, _, _, _⟩) (v := ?_) rfl (by kernel_rfl) (by kernel_rfl) (by kernel_rfl) (fun _ _ _ h => h) (Or.inl ⟨by kernel_rfl, ?_⟩) (by assumption) ?_
      rotate_left
      · (intro ww hSw; (try dsimp only at hSw); go_simp); (try with_reducible rfl)
      (try simp only [Act.put, List.setIfInBounds_toArray, List.set_cons_zero, List.set_cons_succ])
      refine wpAnyH_take (i := 2) (oi := ⟨some 21, _, _, _, _, _⟩) (v := ?_) rfl (by kernel_rfl) (by kernel_rfl) (by kernel_rfl) (fun _ _ _ h => h) (Or.inl ⟨by kernel_rfl, ?_⟩) (by assumption) ?_
      rotate_left
      · (intro ww hSw; (try dsimp only at hSw); obtain ⟨⟨c0, c1, c2, c3⟩, ⟨c4, c5, c6, c7⟩, ⟨c8, c9, c10, c11⟩⟩ := box_on bx1.out hSw.1 HTA.out; go_simp); (try with_reducible rfl)
      (try simp only [Act.put, List.setIfInBounds_toArray, List.set_cons_zero, List.set_cons_succ])
      refine wpAnyH_take (i := 3) (oi := ⟨some 22, _, _, _, _, _⟩) (v := ?_) rfl (by kernel_rfl) (by kernel_rfl) (by kernel_rfl) (fun _ _ _ h => h) (Or.inl ⟨by kernel_rfl, ?_⟩) (by assumption) ?_
      rotate_left
      · (intro ww hSw; (try dsimp only at hSw); go_simp); (try with_reducible rfl)
      (try simp only [Act.put, List.setIfInBounds_toArray, List.set_cons_zero, List.set_cons_succ])
      refine wpAnyH_ready (rs := [4]) (by kernel_rfl) (by simp) ?_
      refine AllReadyH.cons rfl (fun K hK => ?_) AllReadyH.nil
      go_simp
      refine (bsf_own 0 (by omega) L t I B v0 _ (by first | exact hx1.out.r0 | exact (own_on hx1.out.r0 (Below.refl _ _).drew (Nat.le_refl _))) (by exact cI.out) (by show I < W1.heap.size; have := hs1.out; have := HI.out; omega) H.out.o0 (Nat.le_trans H.out.most (by omega))).mono ?_
      rintro e w2 ⟨k, rfl, hsp, hbv⟩
      rw [show decide (t ∈ L) = D from HD.out]
      replace hbv : Below W1.heap.size W1 w2 := by first | exact hbv | exact from_drew hbv
      have arr2 := blk_on arr1.out hbv (blk_lt arr1.out)
      have cI2 := keptC cI.out hbv (by have := hs1.out; have := HI.out; omega)
      have hbA : Below A W1 w2 := hbv.mono (by have := hs1.out; have := HI.out; have := HAI.out; omega)
      have hFS : FindS A I 0 W1 w2 := ⟨hbA, cI2, hbv.size⟩
      have HFS := Lib.hid hFS
      have ARR2 := Lib.hid arr2
      clear hbv arr2 cI2 hbA hFS
      go_wp2_with fail
      refine hK.out _ _ ?_ (fun hHeld => ?_)
      · (try dsimp only); first | exact HFS.out | exact HFS.out.drew
      clear hK K
      (try simp only [Act.put, List.setIfInBounds_toArray, List.set_cons_zero, List.set_cons_succ])
      refine wpAnyH_take (i := 5) (oi := ⟨some 18, _, _, _, _, _⟩) (v := ?_) rfl (by kernel_rfl) (by kernel_rfl) (by kernel_rfl) (fun _ _ _ h => h) (Or.inl ⟨by kernel_rfl, ?_⟩) (by assumption) ?_
      rotate_left
      · (intro ww hSw; (try dsimp only at hSw); go_simp); (try with_reducible rfl)
      (try simp only [Act.put, List.setIfInBounds_toArray, List.set_cons_zero, List.set_cons_succ])
      refine wpAnyH_take (i := 6) (oi := ⟨some 24, _, _, _, _, _⟩) (v := ?_) rfl (by kernel_rfl) (by kernel_rfl) (by kernel_rfl) (fun _ _ _ h => h) (Or.inl ⟨by kernel_rfl, ?_⟩) (by assumption) ?_
      rotate_left
      · (intro ww hSw; (try dsimp only at hSw); go_simp); (try with_reducible rfl)
      (try simp only [Act.put, List.setIfInBounds_toArray, List.set_cons_zero, List.set_cons_succ])
      refine wpAnyH_take (i := 7) (oi := ⟨some 25, _, _, _, _, _⟩) (v := ?_) rfl (by kernel_rfl) (by kernel_rfl) (by kernel_rfl) (fun _ _ _ h => h) (Or.inl ⟨by kernel_rfl, ?_⟩) (by assumption) ?_
      rotate_left
      · (intro ww hSw; (try dsimp only at hSw); go_simp); (try with_reducible rfl)
      (try simp only [Act.put, List.setIfInBounds_toArray, List.set_cons_zero, List.set_cons_succ])
      refine wpAnyH_take (i := 8) (oi := ⟨some 26, _, _, _, _, _⟩) (v := ?_) rfl (by kernel_rfl) (by kernel_rfl) (by kernel_rfl) (fun _ _ _ h => h) (Or.inl ⟨by kernel_rfl, ?_⟩) (by assumption) ?_
      rotate_left
      · (intro ww hSw; (try dsimp only at hSw); go_simp); (try with_reducible rfl)
      (try simp only [Act.put, List.setIfInBounds_toArray, List.set_cons_zero, List.set_cons_succ])
      have ca : w2.cell? ⟨A, 0, none⟩ = some (.int .i64 k0) := by rw [blk_cell ARR2.out]; rfl
      have cf : w2.frozen? ⟨A, 0, none⟩ = false := blk_free ARR2.out _
      have hFS3 : FindS A I 0 W1 (w2.setCell ⟨A, 0, none⟩ (.int .i64 k)) := ⟨HFS.out.1.setCell (Nat.le_refl _) _, by rw [World.cell?_setCell_other _ _ _ _ (by intro e; have := HAI.out; injection e with e; omega)]; exact HFS.out.2.1, by simpa [World.setCell] using HFS.out.2.2⟩
      have HFS3 := Lib.hid hFS3
      clear hFS3
      refine wpAnyH_ready (rs := [9]) (by kernel_rfl) (by simp) ?_
      refine AllReadyH.cons rfl (fun K hK => ?_) AllReadyH.nil
      go_simp
      refine hK.out _ _ ?_ (fun hHeld => ?_)
      · (try dsimp only); first | exact HFS3.out | exact HFS3.out.drew
      clear hK K
      (try simp only [Act.put, List.setIfInBounds_toArray, List.set_cons_zero, List.set_cons_succ])
      refine wpAnyH_take (i := 10) (oi := ⟨some 7, _, _, _, _, _⟩) (v := ?_) rfl (by kernel_rfl) (by kernel_rfl) (by kernel_rfl) (fun _ _ _ h => h) (Or.inl ⟨by kernel_rfl, ?_⟩) (by assumption) ?_
      rotate_left
      · (intro ww hSw; (try dsimp only at hSw); go_simp); (try with_reducible rfl)
      (try simp only [Act.put, List.setIfInBounds_toArray, List.set_cons_zero, List.set_cons_succ])
      refine wpAnyH_done (by kernel_rfl) ?_ _
      go_wp2
      go_roundw
      case rel =>
        have hbl : Below A W0 (w2.setCell ⟨A, 0, none⟩ (.int .i64 k)) := HBW.out.trans ((hb1.out.mono (by have := HI.out; have := HAI.out; omega)).trans HFS3.out.1)
        have hal : Blk (w2.setCell ⟨A, 0, none⟩ (.int .i64 k)) A 71 #[.int .i64 k, .int .i64 k1, .int .i64 k2] := blk_set ARR2.out _ _
        exact ⟨1, k, k1, k2, by omega, by go_num, by simp, by first | exact hbl | exact hbl.drew, by exact hal, fun _ => hsp, fun h => by omega, fun h => by omega⟩
      case measure => simp [intOf]
    · have xi := list_one v0 v1 v2
      go_wp2_with fail
      refine name_world (fun W1 hW1 => ?_)
      have hb1 : Hid (Below wr.heap.size wr W1) := by show Below wr.heap.size wr W1; rw [hW1]; first | exact box_below _ _ | exact (box_below _ _).setCell (Nat.le_refl _) _
      have hs1 : Hid (W1.heap.size = wr.heap.size + 1) := by show W1.heap.size = _; rw [hW1]; simp
      have cI : Hid (W1.cell? ⟨wr.heap.size, 0, none⟩ = some (.int .i64 1)) := by show _ = _; rw [hW1]; simp [go_sem]
      clear hW1
      obtain ⟨I, hI⟩ : ∃ I, wr.heap.size = I := ⟨_, rfl⟩
      rw [hI] at cI hAr
      simp only [hI]
      have HI := Lib.hid hI
      clear hI
      have HAI : Hid (A < I) := hAr
      have hx1 := Lib.hid (sto_on HX.out hb1.out (by have := HI.out; omega))
      have bx1 := Lib.hid (box_on (box_on BX0.out HBW.out HTA.out) hb1.out (by have := HTA.out; have := HAI.out; have := HI.out; omega))
      have arr1 := Lib.hid (blk_on HARR.out hb1.out (by have := HAI.out; have := HI.out; omega))
      refine wp_region_held_drew (S := (fun W => FindS A I 1 W1 W)) (by kernel_rfl) ?_ (fun hHeld => ?_)
      · (try dsimp only); first | exact ⟨Below.refl _ _, cI.out, Nat.le_refl _⟩ | exact FindS.drew ⟨Below.refl _ _, cI.out, Nat.le_refl _⟩
      refine wpAnyH_take (i := 0) (oi := ⟨some 19, _, _, _, _, _⟩) (v := ?_) rfl (by kernel_rfl) (by kernel_rfl) (by kernel_rfl) (fun _ _ _ h => h) (Or.inl ⟨by kernel_rfl, ?_⟩) (by assumption) ?_
      rotate_left
      · (intro ww hSw; (try dsimp only at hSw); have c0 := hSw.2.1; go_simp); (try with_reducible rfl)
      (try simp only [Act.put, List.setIfInBounds_toArray, List.set_cons_zero, List.set_cons_succ])
      refine wpAnyH_take (i := 1) (oi := ⟨some 20, _, _, _, _, _⟩) (v := ?_) rfl (by kernel_rfl) (by kernel_rfl) (by kernel_rfl) (fun _ _ _ h => h) (Or.inl ⟨by kernel_rfl, ?_⟩) (by assumption) ?_
      rotate_left
      · (intro ww hSw; (try dsimp only at hSw); go_simp); (try with_reducible rfl)
      (try simp only [Act.put, List.setIfInBounds_toArray, List.set_cons_zero, List.set_cons_succ])
      refine wpAnyH_take (i := 2) (oi := ⟨some 21, _, _, _, _, _⟩) (v := ?_) rfl (by kernel_rfl) (by kernel_rfl) (by kernel_rfl) (fun _ _ _ h => h) (Or.inl ⟨by kernel_rfl, ?_⟩) (by assumption) ?_
      rotate_left
      · (intro ww hSw; (try dsimp only at hSw); obtain ⟨⟨c0, c1, c2, c3⟩, ⟨c4, c5, c6, c7⟩, ⟨c8, c9, c10, c11⟩⟩ := box_on bx1.out hSw.1 HTA.out; go_simp); (try with_reducible rfl)
      (try simp only [Act.put, List.setIfInBounds_toArray, List.set_cons_zero, List.set_cons_succ])
      refine wpAnyH_take (i := 3) (oi := ⟨some 22, _, _, _, _, _⟩) (v := ?_) rfl (by kernel_rfl) (by kernel_rfl) (by kernel_rfl) (fun _ _ _ h => h) (Or.inl ⟨by kernel_rfl, ?_⟩) (by assumption) ?_
      rotate_left
      · (intro ww hSw; (try dsimp only at hSw); go_simp); (try with_reducible rfl)
      (try simp only [Act.put, List.setIfInBounds_toArray, List.set_cons_zero, List.set_cons_succ])
      refine wpAnyH_ready (rs := [4]) (by kernel_rfl) (by simp) ?_
      refine AllReadyH.cons rfl (fun K hK => ?_) AllReadyH.nil
      go_simp
      refine (bsf_own 1 (by omega) l1 t I B v1 _ (by first | exact hx1.out.r1 | exact (own_on hx1.out.r1 (Below.refl _ _).drew (Nat.le_refl _))) (by exact cI.out) (by show I < W1.heap.size; have := hs1.out; have := HI.out; omega) H.out.o1 (Nat.le_trans (by rw [H.out.n1]; exact H.out.most) (by omega))).mono ?_
      rintro e w2 ⟨k, rfl, hsp, hbv⟩
      rw [show decide (t ∈ l1) = D from (by rw [← HD.out]; exact decide_eq_decide.2 (H.out.m1 t))]
      replace hbv : Below W1.heap.size W1 w2 := by first | exact hbv | exact from_drew hbv
      have arr2 := blk_on arr1.out hbv (blk_lt arr1.out)
      have cI2 := keptC cI.out hbv (by have := hs1.out; have := HI.out; omega)
      have hbA : Below A W1 w2 := hbv.mono (by have := hs1.out; have := HI.out; have := HAI.out; omega)
      have hFS : FindS A I 1 W1 w2 := ⟨hbA, cI2, hbv.size⟩
      have HFS := Lib.hid hFS
      have ARR2 := Lib.hid arr2
      clear hbv arr2 cI2 hbA hFS
      go_wp2_with fail
      refine hK.out _ _ ?_ (fun hHeld => ?_)
      · (try dsimp only); first | exact HFS.out | exact HFS.out.drew
      clear hK K
      (try simp only [Act.put, List.setIfInBounds_toArray, List.set_cons_zero, List.set_cons_succ])
      refine wpAnyH_take (i := 5) (oi := ⟨some 18, _, _, _, _, _⟩) (v := ?_) rfl (by kernel_rfl) (by kernel_rfl) (by kernel_rfl) (fun _ _ _ h => h) (Or.inl ⟨by kernel_rfl, ?_⟩) (by assumption) ?_
      rotate_left
      · (intro ww hSw; (try dsimp only at hSw); go_simp); (try with_reducible rfl)
      (try simp only [Act.put, List.setIfInBounds_toArray, List.set_cons_zero, List.set_cons_succ])
      refine wpAnyH_take (i := 6) (oi := ⟨some 24, _, _, _, _, _⟩) (v := ?_) rfl (by kernel_rfl) (by kernel_rfl) (by kernel_rfl) (fun _ _ _ h => h) (Or.inl ⟨by kernel_rfl, ?_⟩) (by assumption) ?_
      rotate_left
      · (intro ww hSw; (try dsimp only at hSw); go_simp); (try with_reducible rfl)
      (try simp only [Act.put, List.setIfInBounds_toArray, List.set_cons_zero, List.set_cons_succ])
      refine wpAnyH_take (i := 7) (oi := ⟨some 25, _, _, _, _, _⟩) (v := ?_) rfl (by kernel_rfl) (by kernel_rfl) (by kernel_rfl) (fun _ _ _ h => h) (Or.inl ⟨by kernel_rfl, ?_⟩) (by assumption) ?_
      rotate_left
      · (intro ww hSw; (try dsimp only at hSw); go_simp); (try with_reducible rfl)
      (try simp only [Act.put, List.setIfInBounds_toArray, List.set_cons_zero, List.set_cons_succ])
      refine wpAnyH_take (i := 8) (oi := ⟨some 26, _, _, _, _, _⟩) (v := ?_) rfl (by kernel_rfl) (by kernel_rfl) (by kernel_rfl) (fun _ _ _ h => h) (Or.inl ⟨by kernel_rfl, ?_⟩) (by assumption) ?_
      rotate_left
      · (intro ww hSw; (try dsimp only at hSw); go_simp); (try with_reducible rfl)
      (try simp only [Act.put, List.setIfInBounds_toArray, List.set_cons_zero, List.set_cons_succ])
      have ca : w2.cell? ⟨A, 1, none⟩ = some (.int .i64 k1) := by rw [blk_cell ARR2.out]; rfl
      have cf : w2.frozen? ⟨A, 1, none⟩ = false := blk_free ARR2.out _
      have hFS3 : FindS A I 1 W1 (w2.setCell ⟨A, 1, none⟩ (.int .i64 k)) := ⟨HFS.out.1.setCell (Nat.le_refl _) _, by rw [World.cell?_setCell_other _ _ _ _ (by intro e; have := HAI.out; injection e with e; omega)]; exact HFS.out.2.1, by simpa [World.setCell] using HFS.out.2.2⟩
      have HFS3 := Lib.hid hFS3
      clear hFS3
      refine wpAnyH_ready (rs := [9]) (by kernel_rfl) (by simp) ?_
      refine AllReadyH.cons rfl (fun K hK => ?_) AllReadyH.nil
      go_simp
      refine hK.out _ _ ?_ (fun hHeld => ?_)
      · (try dsimp only); first | exact HFS3.out | exact HFS3.out.drew
      clear hK K
      (try simp only [Act.put, List.setIfInBounds_toArray, List.set_cons_zero, List.set_cons_succ])
      refine wpAnyH_take (i := 10) (oi := ⟨some 7, _, _, _, _, _⟩) (v := ?_) rfl (by kernel_rfl) (by kernel_rfl) (by kernel_rfl) (fun _ _ _ h => h) (Or.inl ⟨by kernel_rfl, ?_⟩) (by assumption) ?_
      rotate_left
      · (intro ww hSw; (try dsimp only at hSw); go_simp); (try with_reducible rfl)
      (try simp only [Act.put, List.setIfInBounds_toArray, List.set_cons_zero, List.set_cons_succ])
      refine wpAnyH_done (by kernel_rfl) ?_ _
      go_wp2
      go_roundw
      case rel =>
        have hbl : Below A W0 (w2.setCell ⟨A, 1, none⟩ (.int .i64 k)) := HBW.out.trans ((hb1.out.mono (by have := HI.out; have := HAI.out; omega)).trans HFS3.out.1)
        have hal : Blk (w2.setCell ⟨A, 1, none⟩ (.int .i64 k)) A 71 #[.int .i64 k0, .int .i64 k, .int .i64 k2] := blk_set ARR2.out _ _
        exact ⟨2, k0, k, k2, by omega, by go_num, by simp, by first | exact hbl | exact hbl.drew, by exact hal, fun _ => HP0.out (by omega), fun _ => hsp, fun h => by omega⟩
      case measure => simp [intOf]
    · have xi := list_two v0 v1 v2
      go_wp2_with fail
      refine name_world (fun W1 hW1 => ?_)
      have hb1 : Hid (Below wr.heap.size wr W1) := by show Below wr.heap.size wr W1; rw [hW1]; first | exact box_below _ _ | exact (box_below _ _).setCell (Nat.le_refl _) _
      have hs1 : Hid (W1.heap.size = wr.heap.size + 1) := by show W1.heap.size = _; rw [hW1]; simp
      have cI : Hid (W1.cell? ⟨wr.heap.size, 0, none⟩ = some (.int .i64 2)) := by show _ = _; rw [hW1]; simp [go_sem]
      clear hW1
      obtain ⟨I, hI⟩ : ∃ I, wr.heap.size = I := ⟨_, rfl⟩
      rw [hI] at cI hAr
      simp only [hI]
      have HI := Lib.hid hI
      clear hI
      have HAI : Hid (A < I) := hAr
      have hx1 := Lib.hid (sto_on HX.out hb1.out (by have := HI.out; omega))
      have bx1 := Lib.hid (box_on (box_on BX0.out HBW.out HTA.out) hb1.out (by have := HTA.out; have := HAI.out; have := HI.out; omega))
      have arr1 := Lib.hid (blk_on HARR.out hb1.out (by have := HAI.out; have := HI.out; omega))
      refine wp_region_held_drew (S := (fun W => FindS A I 2 W1 W)) (by kernel_rfl) ?_ (fun hHeld => ?_)
      · (try dsimp only); first | exact ⟨Below.refl _ _, cI.out, Nat.le_refl _⟩ | exact FindS.drew ⟨Below.refl _ _, cI.out, Nat.le_refl _⟩
      refine wpAnyH_take (i := 0) (oi := ⟨some 19, _, _, _, _, _⟩) (v := ?_) rfl (by kernel_rfl) (by kernel_rfl) (by kernel_rfl) (fun _ _ _ h => h) (Or.inl ⟨by kernel_rfl, ?_⟩) (by assumption) ?_
      rotate_left
      · (intro ww hSw; (try dsimp only at hSw); have c0 := hSw.2.1; go_simp); (try with_reducible rfl)
      (try simp only [Act.put, List.setIfInBounds_toArray, List.set_cons_zero, List.set_cons_succ])
      refine wpAnyH_take (i := 1) (oi := ⟨some 20, _, _, _, _, _⟩) (v := ?_) rfl (by kernel_rfl) (by kernel_rfl) (by kernel_rfl) (fun _ _ _ h => h) (Or.inl ⟨by kernel_rfl, ?_⟩) (by assumption) ?_
      rotate_left
      · (intro ww hSw; (try dsimp only at hSw); go_simp); (try with_reducible rfl)
      (try simp only [Act.put, List.setIfInBounds_toArray, List.set_cons_zero, List.set_cons_succ])
      refine wpAnyH_take (i := 2) (oi := ⟨some 21, _, _, _, _, _⟩) (v := ?_) rfl (by kernel_rfl) (by kernel_rfl) (by kernel_rfl) (fun _ _ _ h => h) (Or.inl ⟨by kernel_rfl, ?_⟩) (by assumption) ?_
      rotate_left
      · (intro ww hSw; (try dsimp only at hSw); obtain ⟨⟨c0, c1, c2, c3⟩, ⟨c4, c5, c6, c7⟩, ⟨c8, c9, c10, c11⟩⟩ := box_on bx1.out hSw.1 HTA.out; go_simp); (try with_reducible rfl)
      (try simp only [Act.put, List.setIfInBounds_toArray, List.set_cons_zero, List.set_cons_succ])
      refine wpAnyH_take (i := 3) (oi := ⟨some 22, _, _, _, _, _⟩) (v := ?_) rfl (by kernel_rfl) (by kernel_rfl) (by kernel_rfl) (fun _ _ _ h => h) (Or.inl ⟨by kernel_rfl, ?_⟩) (by assumption) ?_
      rotate_left
      · (intro ww hSw; (try dsimp only at hSw); go_simp); (try with_reducible rfl)
      (try simp only [Act.put, List.setIfInBounds_toArray, List.set_cons_zero, List.set_cons_succ])
      refine wpAnyH_ready (rs := [4]) (by kernel_rfl) (by simp) ?_
      refine AllReadyH.cons rfl (fun K hK => ?_) AllReadyH.nil
      go_simp
      refine (bsf_own 2 (by omega) l2 t I B v2 _ (by first | exact hx1.out.r2 | exact (own_on hx1.out.r2 (Below.refl _ _).drew (Nat.le_refl _))) (by exact cI.out) (by show I < W1.heap.size; have := hs1.out; have := HI.out; omega) H.out.o2 (Nat.le_trans (by rw [H.out.n2]; exact H.out.most) (by omega))).mono ?_
      rintro e w2 ⟨k, rfl, hsp, hbv⟩
      rw [show decide (t ∈ l2) = D from (by rw [← HD.out]; exact decide_eq_decide.2 (H.out.m2 t))]
      replace hbv : Below W1.heap.size W1 w2 := by first | exact hbv | exact from_drew hbv
      have arr2 := blk_on arr1.out hbv (blk_lt arr1.out)
      have cI2 := keptC cI.out hbv (by have := hs1.out; have := HI.out; omega)
      have hbA : Below A W1 w2 := hbv.mono (by have := hs1.out; have := HI.out; have := HAI.out; omega)
      have hFS : FindS A I 2 W1 w2 := ⟨hbA, cI2, hbv.size⟩
      have HFS := Lib.hid hFS
      have ARR2 := Lib.hid arr2
      clear hbv arr2 cI2 hbA hFS
      go_wp2_with fail
      refine hK.out _ _ ?_ (fun hHeld => ?_)
      · (try dsimp only); first | exact HFS.out | exact HFS.out.drew
      clear hK K
      (try simp only [Act.put, List.setIfInBounds_toArray, List.set_cons_zero, List.set_cons_succ])
      refine wpAnyH_take (i := 5) (oi := ⟨some 18, _, _, _, _, _⟩) (v := ?_) rfl (by kernel_rfl) (by kernel_rfl) (by kernel_rfl) (fun _ _ _ h => h) (Or.inl ⟨by kernel_rfl, ?_⟩) (by assumption) ?_
      rotate_left
      · (intro ww hSw; (try dsimp only at hSw); go_simp); (try with_reducible rfl)
      (try simp only [Act.put, List.setIfInBounds_toArray, List.set_cons_zero, List.set_cons_succ])
      refine wpAnyH_take (i := 6) (oi := ⟨some 24, _, _, _, _, _⟩) (v := ?_) rfl (by kernel_rfl) (by kernel_rfl) (by kernel_rfl) (fun _ _ _ h => h) (Or.inl ⟨by kernel_rfl, ?_⟩) (by assumption) ?_
      rotate_left
      · (intro ww hSw; (try dsimp only at hSw); go_simp); (try with_reducible rfl)
      (try simp only [Act.put, List.setIfInBounds_toArray, List.set_cons_zero, List.set_cons_succ])
      refine wpAnyH_take (i := 7) (oi := ⟨some 25, _, _, _, _, _⟩) (v := ?_) rfl (by kernel_rfl) (by kernel_rfl) (by kernel_rfl) (fun _ _ _ h => h) (Or.inl ⟨by kernel_rfl, ?_⟩) (by assumption) ?_
      rotate_left
      · (intro ww hSw; (try dsimp only at hSw); go_simp); (try with_reducible rfl)
      (try simp only [Act.put, List.setIfInBounds_toArray, List.set_cons_zero, List.set_cons_succ])
      refine wpAnyH_take (i := 8) (oi := ⟨some 26, _, _, _, _, _⟩) (v := ?_) rfl (by kernel_rfl) (by kernel_rfl) (by kernel_rfl) (fun _ _ _ h => h) (Or.inl ⟨by kernel_rfl, ?_⟩) (by assumption) ?_
      rotate_left
      · (intro ww hSw; (try dsimp only at hSw); go_simp); (try with_reducible rfl)
      (try simp only [Act.put, List.setIfInBounds_toArray, List.set_cons_zero, List.set_cons_succ])
      have ca : w2.cell? ⟨A, 2, none⟩ = some (.int .i64 k2) := by rw [blk_cell ARR2.out]; rfl
      have cf : w2.frozen? ⟨A, 2, none⟩ = false := blk_free ARR2.out _
      have hFS3 : FindS A I 2 W1 (w2.setCell ⟨A, 2, none⟩ (.int .i64 k)) := ⟨HFS.out.1.setCell (Nat.le_refl _) _, by rw [World.cell?_setCell_other _ _ _ _ (by intro e; have := HAI.out; injection e with e; omega)]; exact HFS.out.2.1, by simpa [World.setCell] using HFS.out.2.2⟩
      have HFS3 := Lib.hid hFS3
      clear hFS3
      refine wpAnyH_ready (rs := [9]) (by kernel_rfl) (by simp) ?_
      refine AllReadyH.cons rfl (fun K hK => ?_) AllReadyH.nil
      go_simp
      refine hK.out _ _ ?_ (fun hHeld => ?_)
      · (try dsimp only); first | exact HFS3.out | exact HFS3.out.drew
      clear hK K
      (try simp only [Act.put, List.setIfInBounds_toArray, List.set_cons_zero, List.set_cons_succ])
      refine wpAnyH_take (i := 10) (oi := ⟨some 7, _, _, _, _, _⟩) (v := ?_) rfl (by kernel_rfl) (by kernel_rfl) (by kernel_rfl) (fun _ _ _ h => h) (Or.inl ⟨by kernel_rfl, ?_⟩) (by assumption) ?_
      rotate_left
      · (intro ww hSw; (try dsimp only at hSw); go_simp); (try with_reducible rfl)
      (try simp only [Act.put, List.setIfInBounds_toArray, List.set_cons_zero, List.set_cons_succ])
      refine wpAnyH_done (by kernel_rfl) ?_ _
      go_wp2
      go_roundw
      case rel =>
        have hbl : Below A W0 (w2.setCell ⟨A, 2, none⟩ (.int .i64 k)) := HBW.out.trans ((hb1.out.mono (by have := HI.out; have := HAI.out; omega)).trans HFS3.out.1)
        have hal : Blk (w2.setCell ⟨A, 2, none⟩ (.int .i64 k)) A 71 #[.int .i64 k0, .int .i64 k1, .int .i64 k] := blk_set ARR2.out _ _
        exact ⟨3, k0, k1, k, by omega, by go_num, by simp, by first | exact hbl | exact hbl.drew, by exact hal, fun _ => HP0.out (by omega), fun _ => HP1.out (by omega), fun _ => hsp⟩
      case measure => simp [intOf]
    · have a0 : wr.cell? ⟨A, 0, none⟩ = some (.int .i64 k0) := by rw [blk_cell HARR.out]; rfl
      have a1 : wr.cell? ⟨A, 1, none⟩ = some (.int .i64 k1) := by rw [blk_cell HARR.out]; rfl
      have a2 : wr.cell? ⟨A, 2, none⟩ = some (.int .i64 k2) := by rw [blk_cell HARR.out]; rfl
      have hres := Lib.hid (blk_on RES0.out HBW.out HRA.out)
      have hne : ¬ A = w.heap.size + 1 := by have := HRA.out; omega
      obtain ⟨R, hR⟩ : ∃ R, w.heap.size + 1 = R := ⟨_, rfl⟩
      rw [hR] at hres hne
      simp only [hR]
      have HR := Lib.hid hR
      clear hR
      go_wp2_with (refine wpList_store_row rfl 71 (.tmp 4) (.tmp 28) rfl R #[.int .i64 k0, .int .i64 k1, .int .i64 k2] (by kernel_rfl) (by kernel_rfl) 71 _ hres.out (by kernel_rfl) rfl (by kernel_rfl) ?_)
      refine bodyPost_ret (v := .tuple #[.agg #[.int .i64 k0, .int .i64 k1, .int .i64 k2], .bool D]) ?_ rfl ⟨k0, k1, k2, by rw [HD.out], HP0.out (by omega), HP1.out (by omega), HP2.out (by omega), below_row hbr.out (by have := HR.out; omega) _⟩
      have hrow := blk_row hres.out #[.int .i64 k0, .int .i64 k1, .int .i64 k2]
      have r0 : (wr.setRow R #[.int .i64 k0, .int .i64 k1, .int .i64 k2]).cell? ⟨R, 0, none⟩ = some (.int .i64 k0) := by rw [blk_cell hrow]; rfl
      have r1 : (wr.setRow R #[.int .i64 k0, .int .i64 k1, .int .i64 k2]).cell? ⟨R, 1, none⟩ = some (.int .i64 k1) := by rw [blk_cell hrow]; rfl
      have r2 : (wr.setRow R #[.int .i64 k0, .int .i64 k1, .int .i64 k2]).cell? ⟨R, 2, none⟩ = some (.int .i64 k2) := by rw [blk_cell hrow]; rfl
      simp [results, Tryz.results32, go_sem, r0, r1, r2]

end Go.Proofs.YtnojdchodmogbaaGreat
