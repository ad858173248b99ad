/- A list of triples put in order: slices.SortFunc with package triples' Compare. -/
import Derived.Test.YtnojdchodmogbaaStoUpCmp
import Derived.Test.YtnojdchodmogbaaStoHave
import Derived.Test.YtnojdchodmogbaaStoSegPlain
import Derived.Test.YtnojdchodmogbaaStoOpen
import Derived.Test.YtnojdchodmogbaaShelfB
namespace Go.Proofs.Ytnojdchodmogbaa
open Go.RowKit Go.Sort

theorem flat_trips (M : List TripL) : flatK TripL.cells 12 M.toArray = (tripCells M).toArray := by
  apply Array.ext
  · rw [size_flatK, List.size_toArray, List.size_toArray, tripCells_length]
  · intro t h1 h2
    rw [size_flatK, List.size_toArray] at h1
    have hk : t / 12 < M.length := by omega
    have e := tripCells_at M (t / 12) hk (t % 12) (Nat.mod_lt _ (by omega))
    rw [show t / 12 * 12 + t % 12 = t by omega] at e
    have e2 := get_flatK TripL.cells 12 M.toArray t (by rw [List.size_toArray]; exact h1)
    rw [getElem!_pos (flatK TripL.cells 12 M.toArray) t (by rw [size_flatK, List.size_toArray]; exact h1)] at e2
    rw [e2]
    have e3 : M.toArray[t / 12]! = M[t / 12] := by rw [getElem!_pos M.toArray (t / 12) (by simpa using hk)]; simp
    rw [e3]
    rw [List.size_toArray] at h2
    rw [List.getElem?_eq_getElem h2] at e
    have hl : t % 12 < (M[t / 12]).cells.length := by rw [TripL.cells_length]; exact Nat.mod_lt _ (by omega)
    rw [List.getElem?_eq_getElem hl] at e
    rw [getElem!_pos (M[t / 12]).cells (t % 12) hl]
    simpa using (Option.some.inj e).symm

/- a row that is held, rewritten -/
theorem own_put {w : World} {B : Nat} {e : TypeId} {g n cap q : Nat} {xs ys : List Value} (h : w.ownsRow B e 12 (.slice (some ⟨g, 0, none⟩) n cap) n xs) (hy : ys.length = n * 12) :
    (putRow id (Sort.ahead w q) g 0 ys.toArray).ownsRow B e 12 (.slice (some ⟨g, 0, none⟩) n cap) n ys := by
  rcases h.2 with ⟨e0, _⟩ | ⟨g', cap', cur, e0, hb, hg, hn, hm, hs, ht⟩
  · cases e0
  · injection e0 with e1 _ e3
    injection e1 with e1
    injection e1 with e1
    subst e1; subst e3
    have hle : n * 12 ≤ cur.size := by rw [hs]; exact Nat.mul_le_mul_right _ hn
    refine ⟨hy, .inr ⟨g, cap, putCells id 0 ys.toArray cur, rfl, hb, ?_, hn, hm, by simpa [putCells] using hs, ?_⟩⟩
    · simp [putRow, mapBlock, Sort.ahead, Array.getElem?_modify, hg, onCells]
    · apply List.ext_getElem?
      intro j
      rw [List.getElem?_take, Array.getElem?_toList]
      by_cases hj : j < n * 12
      · have hjc : j < cur.size := by omega
        have hjy : j < ys.length := by omega
        simp only [if_pos hj, putCells, Array.getElem?_mapIdx, Array.getElem?_eq_getElem hjc, Option.map_some]
        rw [if_pos (by simp; omega), List.getElem?_eq_getElem hjy]
        simp [getElem!_pos, hjy]
      · rw [if_neg hj, List.getElem?_eq_none (by omega)]
theorem put_else (w : World) (q g : Nat) (ys : Array Value) (k : Nat) (hk : k ≠ g) : (putRow id (Sort.ahead w q) g 0 ys).heap[k]? = w.heap[k]? := by
  have : ¬ g = k := fun e => hk e.symm
  simp [putRow, mapBlock, Sort.ahead, Array.getElem?_modify, this]

theorem swo_trip : SWO (ltOf tripCmp) where
  irrefl x := by unfold ltOf; rw [tripCmp_self]; rfl
  trans x y z h1 h2 := by
    unfold ltOf at *
    have a := of_decide_eq_true h1; have b := of_decide_eq_true h2
    rw [← cmpK_trip] at a b ⊢
    exact decide_eq_true (cmpK_lt_trans a b)
  ntrans x y z h1 h2 := by
    unfold ltOf at *
    have a := of_decide_eq_false h1; have b := of_decide_eq_false h2
    rw [← cmpK_trip] at a b ⊢
    refine decide_eq_false fun c => ?_
    have t := cmpK_trans z y x 0 3 (by have := cmpK_anti y z 0 3; omega) (by have := cmpK_anti x y 0 3; omega)
    have := cmpK_anti x z 0 3
    omega
theorem tot_trip (x y : TripL) (h1 : ltOf tripCmp x y = false) (h2 : ltOf tripCmp y x = false) : x = y := by
  unfold ltOf at *
  have a := of_decide_eq_false h1; have b := of_decide_eq_false h2
  have := tr_anti x y
  exact tr_zero (by omega)
theorem lays_trip (blk off size : Nat) (w : World) : CmpLays Try.prog 38 #[] TripL.cells 12 tripCmp blk off size w :=
  fun _ _ _ _ x y => (Up.tCompare_calls x y _).mono fun _ _ ⟨he, hb⟩ => ⟨he, hb.grow⟩

theorem sort_calls (B : Nat) (v : Value) (M : List TripL) (w : World) (h : Own w B v M) (hl : M.length ≤ 4096) :
    Calls Try.prog 37 #[v, .func (.func 38) #[] #[]] w fun e w' => e = .returned (.tuple #[]) ∧ Own w' B v (M.mergeSort le3) ∧ w.grownBy w' v.ownBlock := by
  rcases h.2 with ⟨hv, h0⟩ | ⟨g, cap, cur, hv, hg, hh, hn, hm, _⟩
  · have e : M = [] := List.eq_nil_of_length_eq_zero h0
    subst e; subst hv
    have := AnyF.slices_SortFunc_none (P := Try.prog) (ρ := Try.laysSort_ren) { Try.laysSort with } none 0 (.func (.func 38) #[] #[]) w
    exact this.mono fun e w' ⟨he, hw⟩ => ⟨he, by rw [hw]; simpa using h, by rw [hw]; exact grown_refl _ _⟩
  · have hc : ∀ j u, (tripCells M)[j]? = some u → w.cell? ⟨g, j, none⟩ = some u := fun j u hj => by
      have := h.cells (g := g) (by rw [hv]; rfl) j u hj
      cases j with
      | zero => simpa [Addr.add] using this
      | succ j => simpa [Addr.add] using this
    subst hv
    have hH : HoldsK TripL.cells 12 w g 0 M.toArray := by
      unfold HoldsK
      rw [flat_trips]
      intro j hj
      rw [List.size_toArray] at hj
      refine ⟨?_, frozen_of_row w g _ cur _ hh⟩
      rw [Nat.zero_add]
      refine hc j _ ?_
      rw [List.getElem?_eq_getElem hj]
      simp [getElem!_pos, hj]
    have hblk : g < w.heap.size := (Array.getElem?_eq_some_iff.1 hh).1
    have eg : ∀ args w, (callFunc 38 args).run Try.prog w = .ok (.enter 38 args) w := enters_of Try.func38 (by kernel_rfl) rfl
    have hcon := AnyQ.slices_SortFunc_total (P := Try.prog) (α := TripL) Try.laysSort 12 (fun w => by exact Try.isAgg25 w) (fun w => by exact Try.sizeOf25 w) TripL.cells TripL.cells_length (fun x u hu => cells_one [x] u (by rw [tripCells_one]; exact hu)) tripCmp swo_trip 38 #[] g 0 cap M.toArray w eg (lays_trip g 0 _ w) hH hblk (by rw [List.size_toArray]; omega) tot_trip
    rw [List.size_toArray] at hcon
    refine Calls.mono hcon fun e w' ⟨he, n, os, hw⟩ => ⟨he, ?_, ?_⟩
    · have hput := own_put (q := n) (ys := tripCells (M.mergeSort le3)) h (by rw [tripCells_length, List.length_mergeSort])
      have hw2 : w' = Sort.grow (putRow id (Sort.ahead w n) g 0 (tripCells (M.mergeSort le3)).toArray) os := by
        rw [hw]
        unfold sortWorldK putRowK
        rw [flat_trips]
        rfl
      show World.ownsRow _ _ _ _ _ _ _
      rw [hw2, List.length_mergeSort]
      refine ⟨hput.1, ?_⟩
      rcases hput.2 with hp | ⟨g', cap', cur', e0, hb', hg', r⟩
      · exact .inl hp
      · refine .inr ⟨g', cap', cur', e0, hb', ?_, r⟩
        have hlt := (Array.getElem?_eq_some_iff.1 hg').1
        show (_ ++ os)[g']? = _
        rw [Array.getElem?_append_left hlt]; exact hg'
    · have hs : (putRowK TripL.cells 12 (Sort.ahead w n) g 0 (List.mergeSort M.toArray.toList fun x y => !ltOf tripCmp y x).toArray).heap.size = w.heap.size := by simp [putRowK, putRow, mapBlock, Sort.ahead]
      rw [hw]
      refine ⟨rfl, rfl, rfl, ?_, fun k hk hne => ?_⟩
      · show w.heap.size ≤ (_ ++ os).size
        rw [Array.size_append, hs]; omega
      · show (_ ++ os)[k]? = _
        rw [Array.getElem?_append_left (by rw [hs]; exact hk)]
        exact put_else w n g _ k (fun e => hne (by rw [e]; rfl))

end Go.Proofs.Ytnojdchodmogbaa
