/- A list of triples put in order: slices.SortFunc with package triples' Compare. The triples that match a pattern, in order: package store's matching. -/
import Derived.Test.YtnojdchodmogbaaGreatStoUpCmp
import Derived.Test.YtnojdchodmogbaaGreatStoHave
import Derived.Test.YtnojdchodmogbaaGreatStoPlains
import Derived.Test.YtnojdchodmogbaaGreatStoOpens
import Derived.Test.YtnojdchodmogbaaGreatShelfB
import Derived.Test.YtnojdchodmogbaaGreatStoAlike
namespace Go.Proofs.YtnojdchodmogbaaGreat
open Go.RowKit Go.Sort

theorem flat_trips (M : List TripL) : flatK TripL.cells 12 M.toArray = (tripCells M).toArray := by
  apply Array.ext
  · rw [size_flatK, List.size_toArray, List.size_toArray, tripCells_length]
  · intro t h1 h2
    rw [size_flatK, List.size_toArray] at h1
    have hk : t / 12 < M.length := by omega
    have e := tripCells_at M (t / 12) hk (t % 12) (Nat.mod_lt _ (by omega))
    rw [show t / 12 * 12 + t % 12 = t by omega] at e
    have e2 := get_flatK TripL.cells 12 M.toArray t (by rw [List.size_toArray]; exact h1)
    rw [getElem!_pos (flatK TripL.cells 12 M.toArray) t (by rw [size_flatK, List.size_toArray]; exact h1)] at e2
    rw [e2]
    have e3 : M.toArray[t / 12]! = M[t / 12] := by rw [getElem!_pos M.toArray (t / 12) (by simpa using hk)]; simp
    rw [e3]
    rw [List.size_toArray] at h2
    rw [List.getElem?_eq_getElem h2] at e
    have hl : t % 12 < (M[t / 12]).cells.length := by rw [TripL.cells_length]; exact Nat.mod_lt _ (by omega)
    rw [List.getElem?_eq_getElem hl] at e
    rw [getElem!_pos (M[t / 12]).cells (t % 12) hl]
    simpa using (Option.some.inj e).symm

/- a row that is held, rewritten -/
theorem own_put {w : World} {B : Nat} {e : TypeId} {g n cap q : Nat} {xs ys : List Value} (h : w.ownsRow B e 12 (.slice (some ⟨g, 0, none⟩) n cap) n xs) (hy : ys.length = n * 12) :
    (putRow id (Sort.ahead w q) g 0 ys.toArray).ownsRow B e 12 (.slice (some ⟨g, 0, none⟩) n cap) n ys := by
  rcases h.2 with ⟨e0, _⟩ | ⟨g', cap', cur, e0, hb, hg, hn, hm, hs, ht⟩
  · cases e0
  · injection e0 with e1 _ e3
    injection e1 with e1
    injection e1 with e1
    subst e1; subst e3
    have hle : n * 12 ≤ cur.size := by rw [hs]; exact Nat.mul_le_mul_right _ hn
    refine ⟨hy, .inr ⟨g, cap, putCells id 0 ys.toArray cur, rfl, hb, ?_, hn, hm, by simpa [putCells] using hs, ?_⟩⟩
    · simp [putRow, mapBlock, Sort.ahead, Array.getElem?_modify, hg, onCells]
    · apply List.ext_getElem?
      intro j
      rw [List.getElem?_take, Array.getElem?_toList]
      by_cases hj : j < n * 12
      · have hjc : j < cur.size := by omega
        have hjy : j < ys.length := by omega
        simp only [if_pos hj, putCells, Array.getElem?_mapIdx, Array.getElem?_eq_getElem hjc, Option.map_some]
        rw [if_pos (by simp; omega), List.getElem?_eq_getElem hjy]
        simp [getElem!_pos, hjy]
      · rw [if_neg hj, List.getElem?_eq_none (by omega)]
theorem put_else (w : World) (q g : Nat) (ys : Array Value) (k : Nat) (hk : k ≠ g) : (putRow id (Sort.ahead w q) g 0 ys).heap[k]? = w.heap[k]? := by
  have : ¬ g = k := fun e => hk e.symm
  simp [putRow, mapBlock, Sort.ahead, Array.getElem?_modify, this]

theorem swo_trip : SWO (ltOf tripCmp) where
  irrefl x := by unfold ltOf; rw [tripCmp_self]; rfl
  trans x y z h1 h2 := by
    unfold ltOf at *
    have a := of_decide_eq_true h1; have b := of_decide_eq_true h2
    rw [← cmpK_trip] at a b ⊢
    exact decide_eq_true (cmpK_lt_trans a b)
  ntrans x y z h1 h2 := by
    unfold ltOf at *
    have a := of_decide_eq_false h1; have b := of_decide_eq_false h2
    rw [← cmpK_trip] at a b ⊢
    refine decide_eq_false fun c => ?_
    have t := cmpK_trans z y x 0 3 (by have := cmpK_anti y z 0 3; omega) (by have := cmpK_anti x y 0 3; omega)
    have := cmpK_anti x z 0 3
    omega
theorem tot_trip (x y : TripL) (h1 : ltOf tripCmp x y = false) (h2 : ltOf tripCmp y x = false) : x = y := by
  unfold ltOf at *
  have a := of_decide_eq_false h1; have b := of_decide_eq_false h2
  have := tr_anti x y
  exact tr_zero (by omega)
theorem lays_trip (blk off size : Nat) (w : World) : CmpLays Tryz.prog 64 #[] TripL.cells 12 tripCmp blk off size w :=
  fun _ _ _ _ x y => (Up.tCompare_calls x y _).mono fun _ _ ⟨he, hb⟩ => ⟨he, hb.grow⟩

theorem sort_calls (B : Nat) (v : Value) (M : List TripL) (w : World) (h : Own w B v M) (hl : M.length ≤ 4096) :
    Calls Tryz.prog 63 #[v, .func (.func 64) #[] #[]] w fun e w' => e = .returned (.tuple #[]) ∧ Own w' B v (M.mergeSort le3) ∧ w.grownBy w' v.ownBlock := by
  rcases h.2 with ⟨hv, h0⟩ | ⟨g, cap, cur, hv, hg, hh, hn, hm, _⟩
  · have e : M = [] := List.eq_nil_of_length_eq_zero h0
    subst e; subst hv
    have := AnyF.slices_SortFunc_none (P := Tryz.prog) (ρ := Tryz.laysSort_ren) { Tryz.laysSort with } none 0 (.func (.func 64) #[] #[]) w
    exact this.mono fun e w' ⟨he, hw⟩ => ⟨he, by rw [hw]; simpa using h, by rw [hw]; exact grown_refl _ _⟩
  · have hc : ∀ j u, (tripCells M)[j]? = some u → w.cell? ⟨g, j, none⟩ = some u := fun j u hj => by
      have := h.cells (g := g) (by rw [hv]; rfl) j u hj
      cases j with
      | zero => simpa [Addr.add] using this
      | succ j => simpa [Addr.add] using this
    subst hv
    have hH : HoldsK TripL.cells 12 w g 0 M.toArray := by
      unfold HoldsK
      rw [flat_trips]
      intro j hj
      rw [List.size_toArray] at hj
      refine ⟨?_, frozen_of_row w g _ cur _ hh⟩
      rw [Nat.zero_add]
      refine hc j _ ?_
      rw [List.getElem?_eq_getElem hj]
      simp [getElem!_pos, hj]
    have hblk : g < w.heap.size := (Array.getElem?_eq_some_iff.1 hh).1
    have eg : ∀ args w, (callFunc 64 args).run Tryz.prog w = .ok (.enter 64 args) w := enters_of Tryz.func64 (by kernel_rfl) rfl
    have hcon := AnyQ.slices_SortFunc_total (P := Tryz.prog) (α := TripL) Tryz.laysSort 12 (fun w => by exact Tryz.isAgg29 w) (fun w => by exact Tryz.sizeOf29 w) TripL.cells TripL.cells_length (fun x u hu => cells_one [x] u (by rw [tripCells_one]; exact hu)) tripCmp swo_trip 64 #[] g 0 cap M.toArray w eg (lays_trip g 0 _ w) hH hblk (by rw [List.size_toArray]; omega) tot_trip
    rw [List.size_toArray] at hcon
    refine Calls.mono hcon fun e w' ⟨he, n, os, hw⟩ => ⟨he, ?_, ?_⟩
    · have hput := own_put (q := n) (ys := tripCells (M.mergeSort le3)) h (by rw [tripCells_length, List.length_mergeSort])
      have hw2 : w' = Sort.grow (putRow id (Sort.ahead w n) g 0 (tripCells (M.mergeSort le3)).toArray) os := by
        rw [hw]
        unfold sortWorldK putRowK
        rw [flat_trips]
        rfl
      show World.ownsRow _ _ _ _ _ _ _
      rw [hw2, List.length_mergeSort]
      refine ⟨hput.1, ?_⟩
      rcases hput.2 with hp | ⟨g', cap', cur', e0, hb', hg', r⟩
      · exact .inl hp
      · refine .inr ⟨g', cap', cur', e0, hb', ?_, r⟩
        have hlt := (Array.getElem?_eq_some_iff.1 hg').1
        show (_ ++ os)[g']? = _
        rw [Array.getElem?_append_left hlt]; exact hg'
    · have hs : (putRowK TripL.cells 12 (Sort.ahead w n) g 0 (List.mergeSort M.toArray.toList fun x y => !ltOf tripCmp y x).toArray).heap.size = w.heap.size := by simp [putRowK, putRow, mapBlock, Sort.ahead]
      rw [hw]
      refine ⟨rfl, rfl, rfl, ?_, fun k hk hne => ?_⟩
      · show w.heap.size ≤ (_ ++ os).size
        rw [Array.size_append, hs]; omega
      · show (_ ++ os)[k]? = _
        rw [Array.getElem?_append_left (by rw [hs]; exact hk)]
        exact put_else w n g _ k (fun e => hne (by rw [e]; rfl))

end Go.Proofs.YtnojdchodmogbaaGreat

namespace Go.Proofs.YtnojdchodmogbaaGreat
open Go.RowKit

theorem piece_cases {w : World} {v : Value} {M : List TripL} (h : Piece w v M) : (∃ a c, v = .slice a 0 c ∧ M = []) ∨ (∃ g o cap, v = .slice (some ⟨g, o * 12, none⟩) M.length cap ∧ g < w.heap.size ∧ M.length ≤ cap ∧ ∀ j (h : j < M.length), Cells12 w g (o + j) M[j]) := h
theorem filter_succ (M : List TripL) (P : TripL → Bool) (k : Nat) (hk : k < M.length) : (M.take (k + 1)).filter P = (M.take k).filter P ++ (if P M[k] then [M[k]] else []) := by
  rw [List.take_succ_eq_append_getElem hk, List.filter_append]
  congr 1
  by_cases h : P M[k] = true
  · rw [List.filter_cons_of_pos h, if_pos h]; rfl
  · rw [List.filter_cons_of_neg h, if_neg h]; rfl

/- what matching leaves -/
def FoundT (M : List TripL) (w : World) (e : Ending) (w' : World) : Prop := ∃ v', e = .returned v' ∧ Own w' w.heap.size v' M ∧ Below w.heap.size w w'

set_option maxRecDepth 100000 in
set_option maxHeartbeats 8000000 in
theorem matching_calls (B b : Nat) (v0 v1 v2 : Value) (L l1 l2 : List TripL) (p : TripL) (hp : patB p = true) (w : World) (h : Sto w B b v0 v1 v2 L l1 l2) :
    Calls Tryz.prog 41 #[.pointer (some ⟨b, 0, none⟩), p.v] w (FoundT (L.filter (matchB p)) w) := by
  obtain ⟨i0, hi, hz0, hz1, hz2⟩ := info_parts info_triple
  obtain ⟨hf, hn⟩ := gv_le p 3 (Nat.le_refl _)
  obtain ⟨_, _, hord, hmem, hlen⟩ := sel_facts h (gv p 3).1 hf
  have hfound := found_eq hp h.o0 hord hmem rfl
  have hml : ((selL (gv p 3).1 L l1 l2).filter (fun x => decide (cmpK x p (gv p 3).1 (gv p 3).2 = 0))).length ≤ 4096 := Nat.le_trans (List.length_filter_le _ _) (by rw [hlen]; exact h.most)
  have hnear := near_calls B b v0 v1 v2 L l1 l2 p
  obtain ⟨M, hM⟩ : ∃ M, (selL (gv p 3).1 L l1 l2).filter (fun x => decide (cmpK x p (gv p 3).1 (gv p 3).2 = 0)) = M := ⟨_, rfl⟩
  rw [hM] at hfound hml hnear
  obtain ⟨R, hR⟩ : ∃ R, L.filter (matchB p) = R := ⟨_, rfl⟩
  rw [hR] at hfound ⊢
  have H := Lib.hid h
  have HFO := Lib.hid hfound
  have HNE := Lib.hid hnear
  have bx0 := Lib.hid (blk_new w 29 (cells12 p))
  clear h hfound hnear hord hmem hlen hM hR hf hn
  simp only [TripL.v]
  go_enter Tryz.func41, Tryz.ntmps41
  go_wp2_with fail
  refine (HNE.out _ (sto_on H.out (box_below _ _) (Nat.le_refl _))).mono ?_
  rintro e w1 ⟨v', rfl, hpc, hb1⟩
  have bx1 := Lib.hid (blk_on bx0.out hb1 (blk_lt bx0.out))
  replace hb1 := one_box hb1
  have hT : w.heap.size < w1.heap.size := blk_lt bx1.out
  rcases piece_cases hpc with ⟨a, c, rfl, hM0⟩ | ⟨g, o, cap, rfl, hg, hcap, hrow⟩
  · have HM0 := Lib.hid hM0
    clear hpc hM0
    go_wp2
    go_loopw [5, 12] (fun v i wr => v = .slice none 0 0 ∧ i = .int .i64 0 ∧ wr = w1) (fun _ _ _ => 0)
    case atStart => exact ⟨rfl, rfl, rfl⟩
    case round =>
      obtain ⟨rfl, rfl, rfl⟩ := hrel
      go_wp2_with fail
      refine (sort_calls w.heap.size (.slice none 0 0) [] _ (World.ownsRow_nil _ _ _ _) (Nat.zero_le _)).mono ?_
      rintro e w2 ⟨rfl, _, hg2⟩
      go_wp2
      go_ret
      refine ⟨_, rfl, ?_, hb1.grown hg2 hb1.size (fun k hk => by simp [Value.ownBlock] at hk)⟩
      rw [← HFO.out, HM0.out]
      have : (([] : List TripL).filter (fun x => alikeB x p)).mergeSort le3 = [] := by simp
      rw [this]
      exact World.ownsRow_nil _ _ _ _
  · have HROW := Lib.hid hrow
    obtain ⟨N, hN⟩ : ∃ N, M.length = N := ⟨_, rfl⟩
    rw [hN] at hcap hml
    simp only [hN]
    have HN := Lib.hid hN
    have HB1 := Lib.hid hb1
    clear hpc hrow hN hb1
    go_wp2
    go_loopw [5, 12] (fun v i wr => ∃ k : Nat, k ≤ N ∧ i = .int .i64 k ∧ Own wr w.heap.size v ((M.take k).filter (fun x => alikeB x p)) ∧ Below w1.heap.size w1 wr ∧ (v.ownBlock = none ∨ ∃ z, v.ownBlock = some z ∧ w1.heap.size ≤ z)) (fun _ i _ => N - (intOf i).toNat)
    case atStart => exact ⟨0, Nat.zero_le _, rfl, by rw [List.take_zero]; exact World.ownsRow_nil w1 w.heap.size 29 12, Below.refl _ _, .inl rfl⟩
    case round =>
      obtain ⟨k, hk, rfl, hown, hbw, hblk⟩ := hrel
      by_cases hlt : k < N
      · have hkM : k < M.length := by rw [HN.out]; exact hlt
        have g1 : (0 : Int) ≤ (k : Int) := by omega
        have g2 : (k : Int) < (N : Int) := by omega
        have hgr : g < wr.heap.size := Nat.lt_of_lt_of_le hg hbw.size
        have cm := Lib.hid (cells_on (HROW.out k hkM) hbw hg)
        have HFs := Lib.hid (filter_succ M (fun x => alikeB x p) k hkM)
        have hfl : ((M.take k).filter (fun x => alikeB x p)).length ≤ k := Nat.le_trans (List.length_filter_le _ _) (by rw [List.length_take]; omega)
        have al := alike_calls M[k] p
        generalize M[k] = y at cm HFs al
        obtain ⟨F, hF⟩ : ∃ F, (M.take k).filter (fun x => alikeB x p) = F := ⟨_, rfl⟩
        rw [hF] at hown HFs hfl
        have HO := Lib.hid hown
        have HBW := Lib.hid hbw
        have HBLK := Lib.hid hblk
        have HFL := Lib.hid hfl
        have AL := Lib.hid al
        clear hF hown hbw hblk hfl al
        obtain ⟨⟨c0, c1, c2, c3⟩, ⟨c4, c5, c6, c7⟩, ⟨c8, c9, c10, c11⟩⟩ := cm.out
        have eo : (o + k) * 12 = o * 12 + k * 12 := by omega
        rw [eo] at c0 c1 c2 c3 c4 c5 c6 c7 c8 c9 c10 c11
        clear eo
        have bpr := Lib.hid (box12_of (blk_on bx1.out HBW.out (blk_lt bx1.out)))
        obtain ⟨⟨d0, d1, d2, d3⟩, ⟨d4, d5, d6, d7⟩, ⟨d8, d9, d10, d11⟩⟩ := bpr.out
        have hlw : w.heap.size < wr.heap.size := Nat.lt_of_lt_of_le hT HBW.out.size
        have hne : ¬ w.heap.size = wr.heap.size := by omega
        have hne2 : ¬ wr.heap.size = w.heap.size := by omega
        have byy : Box12 (wr.alloc (.cells (cells12 y) 29)) wr.heap.size y := box12_of (blk_new _ _ _)
        have BYY := Lib.hid byy
        clear byy
        go_wp2_with fail
        refine (AL.out _).mono ?_
        rintro e w3 ⟨rfl, hb3⟩
        have by3 := Lib.hid (box_on BYY.out hb3 (by simp))
        have HB3 := Lib.hid (one_box hb3)
        clear c0 c1 c2 c3 c4 c5 c6 c7 c8 c9 c10 c11 d0 d1 d2 d3 d4 d5 d6 d7 d8 d9 d10 d11 hb3
        have HO3 := Lib.hid (own_on HO.out HB3.out (Nat.le_refl _))
        have HW3 := Lib.hid (first_below HBW.out HB3.out)
        cases hq : alikeB y p with
        | false =>
          have hE := HFs.out
          rw [hq] at hE
          have HE := Lib.hid hE
          clear hE hq
          go_wp2
          go_roundw
          case rel => exact ⟨k + 1, by omega, by go_num, by rw [HE.out]; simpa using HO3.out, HW3.out, HBLK.out⟩
          case measure => simp [intOf]; omega
        | true =>
          have hE := HFs.out
          rw [hq] at hE
          have HE := Lib.hid hE
          clear hE hq
          obtain ⟨⟨c0, c1, c2, c3⟩, ⟨c4, c5, c6, c7⟩, ⟨c8, c9, c10, c11⟩⟩ := by3.out
          have hwz : w.heap.size ≤ w3.heap.size := by have := HB1.out.size; have := HW3.out.size; omega
          have hF4 : F.length + 1 ≤ 4097 := by have := HFL.out; omega
          go_wp2_with (at_builtin; go_must (refine wpList_append_own_at _ rfl (.tmp 19) (.tmp 21) 25 rfl w.heap.size 29 i0 noTrip.v 12 168 Tryz.underlying25 hi hz0 hz1 hz2 rfl (by decide) _ _ _ rfl (HO3.out.alloc _) ⟨w3.heap.size, 0, none⟩ 1 1 [.int .i64 y.s.k, .string (bs y.s.x), .string (bs y.s.y), .string (bs y.s.z), .int .i64 y.p.k, .string (bs y.p.x), .string (bs y.p.y), .string (bs y.p.z), .int .i64 y.o.k, .string (bs y.o.x), .string (bs y.o.y), .string (bs y.o.z)] rfl rfl (news12b _ _ _ _ _ _ _ _ _ _ _ _ _ _ rfl) (by intro u hu; simp at hu; rcases hu with rfl | rfl | rfl | rfl | rfl | rfl | rfl | rfl | rfl | rfl | rfl | rfl <;> rfl) (by unfold maxLen; omega) (by omega) (by simp; omega) ?_; intro v4 w4 hO4 hG4 hN4 hA4; have HO4 := Lib.hid hO4; clear hO4 hN4; have HG4 := Lib.hid hG4; clear hG4; have HA4 := Lib.hid hA4; clear hA4))
          go_roundw
          case rel =>
            have hb4 : Below w1.heap.size w1 w4 := (HW3.out.alloc HW3.out.size _).grown HG4.out (by have := HW3.out.size; simp; omega) (fun z hz => by rcases HBLK.out with e | ⟨z', e, hz'⟩; exact absurd (e.symm.trans hz) (by simp); have h2 := e.symm.trans hz; injection h2 with h2; omega)
            refine ⟨k + 1, by omega, by go_num, ?_, hb4, ?_⟩
            · rw [HE.out, if_pos trivial]
              show World.ownsRow _ _ _ _ _ _ _
              rw [List.length_append, tripCells_append, tripCells_one]
              exact HO4.out
            · rcases HA4.out with e | e
              · rw [e]; exact HBLK.out
              · exact .inr ⟨_, e, by have := HW3.out.size; simp; omega⟩
          case measure => simp [intOf]; omega
      · obtain rfl : k = N := by omega
        rw [List.take_of_length_le (by rw [HN.out]; exact Nat.le_refl _)] at hown
        have hfl : (M.filter (fun x => alikeB x p)).length ≤ 4096 := Nat.le_trans (List.length_filter_le _ _) (by rw [HN.out]; exact hml)
        go_wp2_with fail
        refine (sort_calls w.heap.size _ _ _ hown hfl).mono ?_
        rintro e w2 ⟨rfl, hs, hg2⟩
        rw [HFO.out] at hs
        have HS := Lib.hid hs
        clear hs
        go_wp2
        go_ret
        refine ⟨_, rfl, HS.out, (HB1.out.trans (hbw.mono HB1.out.size)).grown hg2 (by have := HB1.out.size; have := hbw.size; omega) (fun z hz => ?_)⟩
        rcases hblk with e | ⟨z', e, hz'⟩
        · rw [e] at hz; cases hz
        · rw [e] at hz; injection hz with hz; have := HB1.out.size; omega

end Go.Proofs.YtnojdchodmogbaaGreat
