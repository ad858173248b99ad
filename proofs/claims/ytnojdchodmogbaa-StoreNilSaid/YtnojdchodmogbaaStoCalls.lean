/- Package store's New, Len, Has, All. -/
import Derived.Test.YtnojdchodmogbaaStoKept
import Derived.Test.YtnojdchodmogbaaShelfB
namespace Go.Proofs.Ytnojdchodmogbaa
open Go.RowKit

theorem sto_new (w : World) (B : Nat) (hB : B ≤ w.heap.size) : Sto (w.alloc (.cells #[.slice none 0 0, .slice none 0 0, .slice none 0 0] 49)) B w.heap.size (.slice none 0 0) (.slice none 0 0) (.slice none 0 0) [] [] [] :=
  { blk := blk_new _ _ _, low := hB, r0 := World.ownsRow_nil _ _ _ _, r1 := World.ownsRow_nil _ _ _ _, r2 := World.ownsRow_nil _ _ _ _, o0 := List.Pairwise.nil, o1 := List.Pairwise.nil, o2 := List.Pairwise.nil, m1 := fun _ => Iff.rfl, m2 := fun _ => Iff.rfl, n1 := rfl, n2 := rfl,
    a01 := .inl rfl, a02 := .inl rfl, a12 := .inl rfl, fine := fun _ ht => absurd ht List.not_mem_nil, most := Nat.zero_le _ }

set_option maxHeartbeats 400000 in
theorem new_calls (w : World) : Calls Try.prog 48 #[] w fun e w' => e = .returned (.pointer (some ⟨w.heap.size, 0, none⟩)) ∧ w' = w.alloc (.cells #[.slice none 0 0, .slice none 0 0, .slice none 0 0] 49) := by
  go_enter Try.func48, Try.ntmps48
  go_wp2
  go_ret
  exact ⟨rfl, rfl⟩

/- the cells of a store's block -/
theorem sto_cells {w : World} {B b : Nat} {v0 v1 v2 : Value} {L l1 l2 : List TripL} (h : Sto w B b v0 v1 v2 L l1 l2) : w.cell? ⟨b, 0, none⟩ = some v0 ∧ w.cell? ⟨b, 1, none⟩ = some v1 ∧ w.cell? ⟨b, 2, none⟩ = some v2 := by
  rw [blk_cell h.blk, blk_cell h.blk, blk_cell h.blk]; exact ⟨rfl, rfl, rfl⟩

set_option maxHeartbeats 1000000 in
theorem len_calls (B b : Nat) (v0 v1 v2 : Value) (L l1 l2 : List TripL) (w : World) (h : Sto w B b v0 v1 v2 L l1 l2) :
    Calls Try.prog 9 #[.pointer (some ⟨b, 0, none⟩)] w fun e w' => e = .returned (.int .i64 L.length) ∧ w' = w := by
  obtain ⟨q0, _, _⟩ := sto_cells h
  rcases own_cases h.r0 with ⟨hv, hL⟩ | ⟨g, cap, hv, _⟩
  · rw [hv] at q0
    rw [hL]
    clear h
    go_enter Try.func9, Try.ntmps9
    go_wp2
    go_ret
    exact ⟨rfl, rfl⟩
  · rw [hv] at q0
    clear h
    generalize L.length = N at q0 ⊢
    go_enter Try.func9, Try.ntmps9
    go_wp2
    go_ret
    exact ⟨rfl, rfl⟩

set_option maxRecDepth 100000 in
set_option maxHeartbeats 2000000 in
theorem has_store_calls (B b : Nat) (v0 v1 v2 : Value) (L l1 l2 : List TripL) (t : TripL) (w : World) (h : Sto w B b v0 v1 v2 L l1 l2) :
    Calls Try.prog 8 #[.pointer (some ⟨b, 0, none⟩), t.v] w fun e w' => e = .returned (.bool (decide (t ∈ L))) ∧ Below w.heap.size w w' := by
  have H := Lib.hid h
  have hb := blk_lt h.blk
  clear h
  simp only [TripL.v]
  go_enter Try.func8, Try.ntmps8
  go_wp2_with fail
  refine (find_calls B b v0 v1 v2 L l1 l2 t _ (sto_on H.out (box_below _ _) (Nat.le_refl _))).mono ?_
  rintro e w2 ⟨k0, k1, k2, rfl, _, _, _, hb2⟩
  replace hb2 := one_box hb2
  obtain ⟨D, hD⟩ : ∃ D, decide (t ∈ L) = D := ⟨_, rfl⟩
  rw [hD]
  have HD := Lib.hid hD
  clear hD
  go_wp2
  go_ret
  exact ⟨by rw [HD.out]; rfl, by first | exact hb2.alloc hb2.size _ | exact (((hb2.alloc hb2.size _).setCell hb2.size _).setCell hb2.size _).setCell hb2.size _⟩

theorem clone_calls (B : Nat) (v : Value) (L : List TripL) (w : World) (h : Own w B v L) (hl : L.length ≤ 4096) :
    Calls Try.prog 26 #[v] w fun e w' => ∃ v', e = .returned v' ∧ Own w' w.heap.size v' L ∧ Below w.heap.size w w' := by
  obtain ⟨i0, hi, hz0, hz1, hz2⟩ := info_parts info_triple
  rcases h.2 with ⟨hv, h0⟩ | ⟨g, cap, cur, hv, hg, hh, hn, hm, _⟩
  · have e : L = [] := List.eq_nil_of_length_eq_zero h0
    subst e; subst hv
    have := AnyE.slices_Clone_nil (P := Try.prog) Try.laysClone 0 0 w
    exact this.mono fun e w' ⟨he, hw⟩ => ⟨_, he, World.ownsRow_nil _ _ _ _, by rw [hw]; exact Below.refl _ _⟩
  · have hc : ∀ j u, (tripCells L)[j]? = some u → w.cell? ⟨g, 0 + j, none⟩ = some u := fun j u hj => by
      have := h.cells (g := g) (by rw [hv]; rfl) j u hj
      rw [Nat.zero_add]
      cases j with
      | zero => simpa [Addr.add] using this
      | succ j => simpa [Addr.add] using this
    subst hv
    have := AnyE.slices_Clone (P := Try.prog) Try.laysClone i0 noTrip.v 12 168 hi hz0 hz1 hz2 rfl (by decide) (fun w => by exact Try.sizeOf25 w) g 0 L.length cap (tripCells L) w h.1 (by unfold maxLen; omega) (by omega) hc (cells_one L)
    exact this.mono fun e w' ⟨v', he, ho, _, hb⟩ => ⟨v', he, ho, hb⟩

set_option maxHeartbeats 1000000 in
theorem all_calls (B b : Nat) (v0 v1 v2 : Value) (L l1 l2 : List TripL) (w : World) (h : Sto w B b v0 v1 v2 L l1 l2) :
    Calls Try.prog 10 #[.pointer (some ⟨b, 0, none⟩)] w fun e w' => ∃ v', e = .returned v' ∧ Own w' w.heap.size v' L ∧ Below w.heap.size w w' := by
  obtain ⟨q0, _, _⟩ := sto_cells h
  have HO := Lib.hid h.r0
  have HM := Lib.hid h.most
  clear h
  go_enter Try.func10, Try.ntmps10
  go_wp2_with fail
  refine (clone_calls B v0 L _ HO.out HM.out).mono ?_
  rintro e w2 ⟨v', rfl, ho, hb⟩
  have HO2 := Lib.hid ho
  clear ho
  go_wp2
  go_ret
  exact ⟨_, rfl, HO2.out, hb⟩

end Go.Proofs.Ytnojdchodmogbaa
