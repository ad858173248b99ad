/- The law StoreRows: it is true of any triples and any pattern. -/
import Derived.Test.YtnojdchodmogbaaGreatStoMade
import Derived.Test.YtnojdchodmogbaaGreatStoMatch
import Derived.Test.YtnojdchodmogbaaGreatRefMatch
import Derived.Test.YtnojdchodmogbaaGreatLawRowPut
import Derived.Test.YtnojdchodmogbaaGreatRefComps
import Derived.Test.YtnojdchodmogbaaGreatStoAwake
import Derived.Deep.RegionHeld3
namespace Go.Proofs.YtnojdchodmogbaaGreat
open Go.RowKit

def CountR (W3 : World) (p : TripL) (R : List TripL) (N : Nat) (n i : Value) (wr : World) : Prop :=
  ∃ k : Nat, k ≤ N ∧ i = .int .i64 k ∧ n = .int .i64 (((R.take k).filter (matchB p)).length : Nat) ∧ Below W3.heap.size W3 wr
def lastT (M : List TripL) (k : Nat) : TripL := if k = 0 then noTrip else M.getD (k - 1) noTrip
theorem lastT_next {M : List TripL} {k : Nat} (hk : k < M.length) : lastT M (k + 1) = M[k] := by
  unfold lastT
  rw [if_neg (by omega), Nat.add_sub_cancel, List.getD_eq_getElem?_getD, List.getElem?_eq_getElem hk]; rfl
theorem lastT_ahead {M : List TripL} {k : Nat} (h : Ord 0 M) (hk : k < M.length) (h0 : 0 < k) : tripCmp (lastT M k) M[k] < 0 := by
  obtain ⟨j, rfl⟩ : ∃ j, k = j + 1 := ⟨k - 1, by omega⟩
  rw [lastT_next (by omega), ← cmpK_trip]
  exact (List.pairwise_iff_getElem.1 h) j (j + 1) (by omega) hk (by omega)
theorem lastT_mem {M : List TripL} {k : Nat} (hk : k < M.length) (h0 : 0 < k) : lastT M k ∈ M := by
  obtain ⟨j, rfl⟩ : ∃ j, k = j + 1 := ⟨k - 1, by omega⟩
  rw [lastT_next (by omega)]
  exact List.getElem_mem _
def RowsL (W5 : World) (M : List TripL) (N : Nat) (i : Value) (wr : World) : Prop :=
  ∃ k : Nat, k ≤ N ∧ i = .int .i64 k ∧ Below W5.heap.size W5 wr ∧ Blk wr W5.heap.size 29 (cells12 (lastT M k))
theorem fork2 {Hyp G : World → Nat → Prop} {C : Prop} (main : (∀ W X, Hyp W X → G W X) → C) (key : ∀ W X, Hyp W X → G W X) : C := main key
theorem ord_filter {f : Nat} {l : List TripL} (h : Ord f l) (P : TripL → Bool) : Ord f (l.filter P) := List.Pairwise.sublist (List.filter_sublist) h

theorem tabv_open {w : World} {vv : Value} {G m : Nat} {V : List (List UInt8)} {M : List TripL} {f : TripL → List TermL} (h : TabV w (.agg #[vv, .slice (some ⟨G, 0, none⟩) m m]) V (M.map f)) (hm : M.length = m) :
    Reads w vv V.length (textCells V) ∧ (0 < m → G < w.heap.size) ∧ ∀ j (h : j < M.length), ∃ rv, w.cell? ⟨G, j, none⟩ = some rv ∧ Reads w rv (f M[j]).length (cellsT (f M[j])) := by
  obtain ⟨v1, r1, e, h1, a, c, e2, h2⟩ := h
  injection e with e
  injection e with e
  injection e with e3 e
  injection e with e4 _
  subst e3
  rw [← e4] at e2
  injection e2 with e5 e6 e7
  rw [List.length_map] at e6 h2
  refine ⟨h1, fun h0 => ?_, fun j hj => ?_⟩
  · obtain ⟨g, hg, hlt, _⟩ := h2 (by omega)
    rw [← e5] at hg
    injection hg with hg
    injection hg with hg
    omega
  · obtain ⟨g, hg, hlt, _, hr⟩ := h2 (by omega)
    rw [← e5] at hg
    injection hg with hg
    injection hg with hg
    obtain ⟨rv, h5, h6⟩ := hr j (by rw [List.length_map]; exact hj)
    rw [List.getElem_map] at h6
    rw [hg]
    exact ⟨rv, h5, h6⟩

set_option maxRecDepth 100000 in
set_option maxHeartbeats 8000000 in
theorem storeRows_calls (L : List TripL) (v : Value) (p : TripL) (w : World) (hv : ArgT w v L) (hok : ∀ t ∈ L, t.ok) (hp : p.ok) :
    Calls Tryz.prog 7 #[v, p.v] w fun e w' => e = .returned (.bool true) ∧ Below w.heap.size w w' := by
  have hmade := Lib.hid (fun (W : World) (h : ArgT W v L) => made_calls L v W h hok)
  have HV := Lib.hid hv
  have HP := Lib.hid hp
  have bx0 := Lib.hid (box12_of (blk_new w 29 (cells12 p)))
  have hb0 := Lib.hid (box_below w (.cells (cells12 p) 29))
  have hs0 := Lib.hid (show ∀ o, (w.alloc o).heap.size = w.heap.size + 1 from fun _ => by simp)
  have hR60 := Lib.hid (madeL_length L)
  clear hv hok hp
  obtain ⟨R, hRe⟩ : ∃ R, madeL L = R := ⟨_, rfl⟩
  have HRE := Lib.hid hRe
  rw [hRe] at hR60
  clear hRe
  simp only [TripL.v]
  go_enter Tryz.func7, Tryz.ntmps7
  go_wp2_with fail
  refine (hmade.out _ (HV.out.on (box_below _ _))).mono ?_
  rintro e w1 ⟨b, v', rfl, v0, v1, v2, l1, l2, hs, hr, _, hb1⟩
  rw [HRE.out] at hs hr
  have HS1 := Lib.hid hs
  have HR1 := Lib.hid hr
  have HB1 := Lib.hid (first_below hb0.out hb1)
  have bx1 := Lib.hid (box_on bx0.out hb1 (by rw [hs0.out]; omega))
  have hz1 := Lib.hid (show w.heap.size < w1.heap.size by have h := hb1.size; rw [hs0.out] at h; omega)
  clear hs hr hb1 hmade HV HRE bx0 hb0 hs0
  have hmat := Lib.hid (Match_calls _ b v0 v1 v2 R l1 l2 p HP.out w1 HS1.out)
  have hfine := Lib.hid (HS1.out.fine)
  have hord := Lib.hid (HS1.out.o0)
  obtain ⟨⟨c0, c1, c2, c3⟩, ⟨c4, c5, c6, c7⟩, ⟨c8, c9, c10, c11⟩⟩ := bx1.out
  go_wp2_with fail
  refine hmat.out.mono ?_
  rintro e w2 ⟨hb2, hM⟩
  clear c0 c1 c2 c3 c4 c5 c6 c7 c8 c9 c10 c11
  clear hmat
  have HB2 := Lib.hid (first_below HB1.out hb2)
  have hz2 := Lib.hid (Nat.lt_of_lt_of_le hz1.out hb2.size)
  have bx2 := Lib.hid (box_on bx1.out hb2 hz1.out)
  have HS2 := Lib.hid (sto_on HS1.out hb2 (Nat.le_refl _))
  have HR2 := Lib.hid (reads_on HR1.out hb2 (Nat.le_refl _))
  clear hb2 HB1 hz1 bx1 HS1 HR1
  cases hq : patB p with
  | false =>
    rw [if_neg (by rw [hq]; simp)] at hM
    subst hM
    clear hq
    unfold noTable
    have b2a := Lib.hid (box_below w2 (.cells #[.slice none 0 0, .slice none 0 0] 56))
    go_wp2_with fail
    refine (awake_calls _).mono ?_
    rintro e w6 ⟨rfl, hb6⟩
    have HB6 := Lib.hid (first_below (first_below HB2.out b2a.out) hb6)
    clear hb6
    go_wp2
    go_ret
    exact ⟨rfl, by first | exact HB6.out | exact HB6.out.drew⟩
  | true =>
    rw [if_pos hq] at hM
    obtain ⟨tv, rfl, hT⟩ := hM
    have HT2 := Lib.hid (tab_reads hq hT)
    have HPR := Lib.hid (fun (t : TripL) (h : matchB p t = true) => put_row hq h)
    have hmt := Lib.hid (fun y W => rMatches_calls p y W)
    obtain ⟨vv, G, rfl, hV, _, _⟩ := hT
    obtain ⟨va, vc, rfl⟩ := owns_slice hV
    clear hV hq
    obtain ⟨ra, rc, hve, hrp⟩ := reads_open HR2.out
    subst hve
    obtain ⟨M, hM⟩ : ∃ M, R.filter (matchB p) = M := ⟨_, rfl⟩
    rw [hM] at HT2 ⊢
    have HMO := Lib.hid (show Ord 0 M by rw [← hM]; exact ord_filter hord.out _)
    have HMM := Lib.hid (show ∀ t ∈ M, t ∈ R ∧ matchB p t = true ∧ t.ok from fun t ht => by rw [← hM, List.mem_filter] at ht; exact ⟨ht.1, ht.2, (hfine.out t ht.1).2⟩)
    have HML := Lib.hid (show M.length ≤ 60 by rw [← hM]; exact Nat.le_trans (List.length_filter_le _ _) hR60.out)
    have HCE := Lib.hid (show ((R.take R.length).filter (matchB p)).length = M.length by rw [List.take_length, hM])
    clear hM
    obtain ⟨m, hm⟩ : ∃ m, M.length = m := ⟨_, rfl⟩
    rw [hm] at HML HCE HT2
    rw [hm]
    have HMN := Lib.hid hm
    clear hm
    obtain ⟨n, hn⟩ : ∃ n, (varsL p).length = n := ⟨_, rfl⟩
    rw [hn] at HT2
    rw [hn]
    have HNN := Lib.hid hn
    clear hn
    obtain ⟨N, hN⟩ : ∃ N, R.length = N := ⟨_, rfl⟩
    rw [hN] at HCE
    rw [hN]
    have hN60 : N ≤ 60 := by rw [← hN]; exact hR60.out
    have HN := Lib.hid hN
    have HRP := Lib.hid (show 0 < N → ∃ g, ra = some ⟨g, 0, none⟩ ∧ g < w2.heap.size ∧ N ≤ rc ∧ ∀ j (h : j < R.length), Cells12 w2 g j R[j] from fun h0 => by obtain ⟨g, a1, a2, a3, a4⟩ := hrp (by rw [hN]; exact h0); exact ⟨g, a1, a2, by rw [← hN]; exact a3, a4⟩)
    clear hN hrp HR2
    have bT := blk_new w2 56 #[.slice va n vc, .slice (some ⟨G, 0, none⟩) m m]
    have b2a := box_below w2 (.cells #[.slice va n vc, .slice (some ⟨G, 0, none⟩) m m] 56)
    obtain ⟨W3, hW3⟩ : ∃ W3, w2.alloc (.cells #[.slice va n vc, .slice (some ⟨G, 0, none⟩) m m] 56) = W3 := ⟨_, rfl⟩
    rw [hW3] at bT b2a
    have BT := Lib.hid bT
    have bx3 := Lib.hid (box_on bx2.out b2a hz2.out)
    have hz3 := Lib.hid (Nat.lt_of_lt_of_le hz2.out b2a.size)
    have HS3 := Lib.hid (sto_on HS2.out b2a (Nat.le_refl _))
    have HT3 := Lib.hid (HT2.out.on b2a (Nat.le_refl _))
    have HB3 := Lib.hid (first_below HB2.out b2a)
    have hw2 := Lib.hid (show w2.heap.size < W3.heap.size from blk_lt bT)
    have HRP3 := Lib.hid (show 0 < N → ∃ g, ra = some ⟨g, 0, none⟩ ∧ g < W3.heap.size ∧ N ≤ rc ∧ ∀ j (h : j < R.length), Cells12 W3 g j R[j] from fun h0 => by obtain ⟨g, a1, a2, a3, a4⟩ := HRP.out h0; exact ⟨g, a1, by have := hw2.out; omega, a3, fun j hj => cells_on (a4 j hj) b2a a2⟩)
    have HW3 := Lib.hid hW3
    clear hW3 bT b2a HS2 HT2 HB2 bx2 hz2 HRP
    go_wp2_with fail
    simp only [HW3.out]
    go_loopw [9, 10] (fun n i wr => CountR W3 p R N n i wr) (fun _ i _ => N - (intOf i).toNat)
    case atStart => exact ⟨0, Nat.zero_le _, rfl, rfl, by first | exact Below.refl _ _ | (rw [HW3.out]; exact Below.refl _ _)⟩
    case round =>
      obtain ⟨W9, rfl⟩ : ∃ W9, W9 = wr := ⟨_, rfl⟩
      obtain ⟨k, hk, rfl, hne, hbr⟩ := hrel
      subst hne
      have g1 : (0 : Int) ≤ (k : Int) := by omega
      have HBR := Lib.hid hbr
      clear hbr
      by_cases hlt : k < N
      · have g2 : (k : Int) < (N : Int) := by omega
        have hkR : k < R.length := by rw [HN.out]; exact hlt
        obtain ⟨g, rfl, hg, hrc, hrow⟩ := HRP3.out (by omega)
        have cm := Lib.hid (cells_on (hrow k hkR) HBR.out hg)
        have bx9 := Lib.hid (box_on bx3.out HBR.out hz3.out)
        have hgr := Lib.hid (Nat.lt_of_lt_of_le hg HBR.out.size)
        have hwr := Lib.hid (Nat.lt_of_lt_of_le hz3.out HBR.out.size)
        have HTK := Lib.hid (List.take_succ_eq_append_getElem hkR)
        clear hrow
        generalize R[k] = y at cm HTK
        obtain ⟨D, hD⟩ : ∃ D, matchB p y = D := ⟨_, rfl⟩
        have hm5 := Lib.hid (fun W => (show Calls Tryz.prog 28 #[p.v, y.v] W (fun e w' => e = .returned (.bool D) ∧ Below W.heap.size W w') from by rw [← hD]; exact hmt.out y W))
        obtain ⟨c, hc⟩ : ∃ c, ((R.take k).filter (matchB p)).length = c := ⟨_, rfl⟩
        have hc60 := Lib.hid (show c ≤ 60 by rw [← hc]; exact Nat.le_trans (List.length_filter_le _ _) (by rw [List.length_take]; omega))
        have HC := Lib.hid (show ((R.take (k + 1)).filter (matchB p)).length = c + (if D = true then 1 else 0) by rw [HTK.out, List.filter_append, List.length_append, hc, ← hD]; by_cases h : matchB p y = true <;> simp [h])
        rw [hc]
        clear hD hc HTK
        cases D with
        | false =>
          go_wp2_with fail
          refine wp_region_held_drew (S := (fun W => Below W9.heap.size W9 W)) (by kernel_rfl) ?_ (fun hHeld => ?_)
          · (try dsimp only); first | exact Below.refl _ _ | exact (Below.refl _ _).drew
          obtain ⟨w5, hw5⟩ : ∃ w5, W9.drew = w5 := ⟨_, rfl⟩
          rw [hw5]
          have hbn : Below W9.heap.size W9 w5 := by rw [← hw5]; exact (Below.refl _ _).drew
          clear hw5
          refine wpAnyH_take (i := 0) (oi := ⟨some 44, _, _, _, _, _⟩) (v := ?_) rfl (by kernel_rfl) (by kernel_rfl) (by kernel_rfl) (fun _ _ _ h => h) (Or.inl ⟨by kernel_rfl, ?_⟩) (by assumption) ?_
          rotate_left
          · (intro ww hSw; (try dsimp only at hSw); obtain ⟨⟨c0, c1, c2, c3⟩, ⟨c4, c5, c6, c7⟩, ⟨c8, c9, c10, c11⟩⟩ := box_on bx9.out hSw hwr.out; go_simp); (try with_reducible rfl)
          (try simp only [Act.put, List.setIfInBounds_toArray, List.set_cons_zero, List.set_cons_succ])
          refine wpAnyH_take (i := 1) (oi := ⟨some 45, _, _, _, _, _⟩) (v := ?_) rfl (by kernel_rfl) (by kernel_rfl) (by kernel_rfl) (fun _ _ _ h => h) (Or.inl ⟨by kernel_rfl, ?_⟩) (by assumption) ?_
          rotate_left
          · (intro ww hSw; (try dsimp only at hSw); go_simp); (try with_reducible rfl)
          (try simp only [Act.put, List.setIfInBounds_toArray, List.set_cons_zero, List.set_cons_succ])
          refine wpAnyH_take (i := 2) (oi := ⟨some 46, _, _, _, _, _⟩) (v := ?_) rfl (by kernel_rfl) (by kernel_rfl) (by kernel_rfl) (fun _ _ _ h => h) (Or.inl ⟨by kernel_rfl, ?_⟩) (by assumption) ?_
          rotate_left
          · (intro ww hSw; (try dsimp only at hSw); go_simp); (try with_reducible rfl)
          (try simp only [Act.put, List.setIfInBounds_toArray, List.set_cons_zero, List.set_cons_succ])
          refine wpAnyH_take (i := 3) (oi := ⟨some 47, _, _, _, _, _⟩) (v := .pointer (some ⟨g, k * 12, none⟩)) rfl (by kernel_rfl) (by kernel_rfl) (by kernel_rfl) (fun _ _ _ h => h) (Or.inl ⟨by kernel_rfl, ?_⟩) (by assumption) ?_
          · (intro ww hSw; (try dsimp only at hSw); go_simp)
          (try simp only [Act.put, List.setIfInBounds_toArray, List.set_cons_zero, List.set_cons_succ])
          refine wpAnyH_take (i := 4) (oi := ⟨some 48, _, _, _, _, _⟩) (v := ?_) rfl (by kernel_rfl) (by kernel_rfl) (by kernel_rfl) (fun _ _ _ h => h) (Or.inl ⟨by kernel_rfl, ?_⟩) (by assumption) ?_
          rotate_left
          · (intro ww hSw; (try dsimp only at hSw); obtain ⟨⟨c0, c1, c2, c3⟩, ⟨c4, c5, c6, c7⟩, ⟨c8, c9, c10, c11⟩⟩ := cells_on cm.out hSw hgr.out; go_simp); (try with_reducible rfl)
          (try simp only [Act.put, List.setIfInBounds_toArray, List.set_cons_zero, List.set_cons_succ])
          refine wpAnyH_ready (rs := [5]) (by kernel_rfl) (by simp) ?_
          refine AllReadyH.cons rfl (fun K hK => ?_) AllReadyH.nil
          go_simp
          refine (hm5.out _).mono ?_
          rintro e w6 ⟨rfl, hbh⟩
          (try replace hbh := from_drew hbh)
          replace hbn := fb2 hbn hbh (Nat.le_refl _)
          clear hbh
          go_wp2_with fail
          refine hK.out _ _ ?_ (fun hHeld => ?_)
          · (try dsimp only); first | exact hbn | exact hbn.drew
          clear hK K
          (try simp only [Act.put, List.setIfInBounds_toArray, List.set_cons_zero, List.set_cons_succ])
          refine wpAnyH_done (by kernel_rfl) ?_ _
          have HB9 := Lib.hid (HBR.out.trans (hbn.mono HBR.out.size))
          clear hbn
          go_wp2
          go_roundw
          case rel => exact ⟨k + 1, by omega, by go_num, by rw [HC.out]; rfl, by first | exact HB9.out | exact HB9.out.drew⟩
          case measure => simp [intOf]; omega
        | true =>
          have hcb : (c : Int) ≤ 60 := by have := hc60.out; omega
          have hcn : (0 : Int) ≤ (c : Int) := by omega
          go_wp2_with fail
          refine wp_region_held_drew (S := (fun W => Below W9.heap.size W9 W)) (by kernel_rfl) ?_ (fun hHeld => ?_)
          · (try dsimp only); first | exact Below.refl _ _ | exact (Below.refl _ _).drew
          obtain ⟨w5, hw5⟩ : ∃ w5, W9.drew = w5 := ⟨_, rfl⟩
          rw [hw5]
          have hbn : Below W9.heap.size W9 w5 := by rw [← hw5]; exact (Below.refl _ _).drew
          clear hw5
          refine wpAnyH_take (i := 0) (oi := ⟨some 44, _, _, _, _, _⟩) (v := ?_) rfl (by kernel_rfl) (by kernel_rfl) (by kernel_rfl) (fun _ _ _ h => h) (Or.inl ⟨by kernel_rfl, ?_⟩) (by assumption) ?_
          rotate_left
          · (intro ww hSw; (try dsimp only at hSw); obtain ⟨⟨c0, c1, c2, c3⟩, ⟨c4, c5, c6, c7⟩, ⟨c8, c9, c10, c11⟩⟩ := box_on bx9.out hSw hwr.out; go_simp); (try with_reducible rfl)
          (try simp only [Act.put, List.setIfInBounds_toArray, List.set_cons_zero, List.set_cons_succ])
          refine wpAnyH_take (i := 1) (oi := ⟨some 45, _, _, _, _, _⟩) (v := ?_) rfl (by kernel_rfl) (by kernel_rfl) (by kernel_rfl) (fun _ _ _ h => h) (Or.inl ⟨by kernel_rfl, ?_⟩) (by assumption) ?_
          rotate_left
          · (intro ww hSw; (try dsimp only at hSw); go_simp); (try with_reducible rfl)
          (try simp only [Act.put, List.setIfInBounds_toArray, List.set_cons_zero, List.set_cons_succ])
          refine wpAnyH_take (i := 2) (oi := ⟨some 46, _, _, _, _, _⟩) (v := ?_) rfl (by kernel_rfl) (by kernel_rfl) (by kernel_rfl) (fun _ _ _ h => h) (Or.inl ⟨by kernel_rfl, ?_⟩) (by assumption) ?_
          rotate_left
          · (intro ww hSw; (try dsimp only at hSw); go_simp); (try with_reducible rfl)
          (try simp only [Act.put, List.setIfInBounds_toArray, List.set_cons_zero, List.set_cons_succ])
          refine wpAnyH_take (i := 3) (oi := ⟨some 47, _, _, _, _, _⟩) (v := .pointer (some ⟨g, k * 12, none⟩)) rfl (by kernel_rfl) (by kernel_rfl) (by kernel_rfl) (fun _ _ _ h => h) (Or.inl ⟨by kernel_rfl, ?_⟩) (by assumption) ?_
          · (intro ww hSw; (try dsimp only at hSw); go_simp)
          (try simp only [Act.put, List.setIfInBounds_toArray, List.set_cons_zero, List.set_cons_succ])
          refine wpAnyH_take (i := 4) (oi := ⟨some 48, _, _, _, _, _⟩) (v := ?_) rfl (by kernel_rfl) (by kernel_rfl) (by kernel_rfl) (fun _ _ _ h => h) (Or.inl ⟨by kernel_rfl, ?_⟩) (by assumption) ?_
          rotate_left
          · (intro ww hSw; (try dsimp only at hSw); obtain ⟨⟨c0, c1, c2, c3⟩, ⟨c4, c5, c6, c7⟩, ⟨c8, c9, c10, c11⟩⟩ := cells_on cm.out hSw hgr.out; go_simp); (try with_reducible rfl)
          (try simp only [Act.put, List.setIfInBounds_toArray, List.set_cons_zero, List.set_cons_succ])
          refine wpAnyH_ready (rs := [5]) (by kernel_rfl) (by simp) ?_
          refine AllReadyH.cons rfl (fun K hK => ?_) AllReadyH.nil
          go_simp
          refine (hm5.out _).mono ?_
          rintro e w6 ⟨rfl, hbh⟩
          (try replace hbh := from_drew hbh)
          replace hbn := fb2 hbn hbh (Nat.le_refl _)
          clear hbh
          go_wp2_with fail
          refine hK.out _ _ ?_ (fun hHeld => ?_)
          · (try dsimp only); first | exact hbn | exact hbn.drew
          clear hK K
          (try simp only [Act.put, List.setIfInBounds_toArray, List.set_cons_zero, List.set_cons_succ])
          refine wpAnyH_done (by kernel_rfl) ?_ _
          have HB9 := Lib.hid (HBR.out.trans (hbn.mono HBR.out.size))
          clear hbn
          go_wp2
          go_roundw
          case rel => exact ⟨k + 1, by omega, by go_num, by rw [HC.out]; go_num, by first | exact HB9.out | exact HB9.out.drew⟩
          case measure => simp [intOf]; omega
      · have g2 : ¬ (k : Int) < (N : Int) := by omega
        obtain rfl : k = N := by omega
        rw [HCE.out]
        clear HRP3
        have HS9 := Lib.hid (sto_on HS3.out HBR.out (Nat.le_refl _))
        have HT9 := HT3.out.on HBR.out (Nat.le_refl _)
        have bx9 := Lib.hid (box_on bx3.out HBR.out hz3.out)
        have hwr := Lib.hid (Nat.lt_of_lt_of_le hz3.out HBR.out.size)
        have BT9 := Lib.hid (blk_on BT.out HBR.out (blk_lt BT.out))
        have HB9 := Lib.hid (HB3.out.trans (HBR.out.mono HB3.out.size))
        obtain ⟨hvv, hGl, hrows⟩ := tabv_open HT9 HMN.out
        have HVV := Lib.hid hvv
        have HGL := Lib.hid hGl
        have HROWS := Lib.hid hrows
        have bz := Lib.hid (blk_new W9 29 (cells12 noTrip))
        have hbz := Lib.hid (box_below W9 (.cells (cells12 noTrip) 29))
        clear hvv hGl hrows HT9 HT3 HS3 bx3 hz3 BT HB3 HBR hw2
        go_wp2_with (refine whole_abs 29 (.tmp 11) (.tmp 52) ⟨rfl, rfl⟩ W9.heap.size (cells12 noTrip) (by kernel_rfl) (by kernel_rfl) 29 (cells12 noTrip) bz.out (by kernel_rfl) rfl (by kernel_rfl) ?_; intro w5 hA5 hG5)
        have hb5 := Lib.hid (hbz.out.grown hG5.out hbz.out.size (fun k hk => by injection hk with hk; omega))
        go_loopw [12] (fun i wr => RowsL W9 M m i wr) (fun i _ => m - (intOf i).toNat)
        case atStart => exact ⟨0, Nat.zero_le _, rfl, hb5.out, hA5.out⟩
        case round =>
          clear hb5 hA5 hG5 bz hbz
          obtain ⟨j, hj, rfl, hbr, hLA⟩ := hrel
          have g3 : (0 : Int) ≤ (j : Int) := by omega
          have hm60 : m ≤ 60 := HML.out
          have HBR := Lib.hid hbr
          have HLA := Lib.hid hLA
          have bTr := Lib.hid (blk_on BT9.out hbr (blk_lt BT9.out))
          have cT1 : wr.cell? ⟨w2.heap.size, 1, none⟩ = some (.slice (some ⟨G, 0, none⟩) m m) := by rw [blk_cell bTr.out]; rfl
          have hle := Lib.hid hbr.size
          clear hbr hLA
          by_cases hjm : j < m
          · have g4 : (j : Int) < (m : Int) := by omega
            have hjM : j < M.length := by rw [HMN.out]; exact hjm
            have hGr := Lib.hid (Nat.lt_of_lt_of_le (HGL.out (by omega)) hle.out)
            have hG9 := Lib.hid (HGL.out (by omega))
            obtain ⟨rv, hrv, hrr⟩ := HROWS.out j hjM
            have hmem := HMM.out M[j] (List.getElem_mem hjM)
            have hnext := Lib.hid (lastT_next hjM)
            have hah := Lib.hid (fun h0 => lastT_ahead HMO.out hjM h0)
            have hlok := Lib.hid (fun h0 => (HMM.out _ (lastT_mem hjM h0)).2.2)
            have HRV := Lib.hid hrv
            obtain ⟨y, hy⟩ : ∃ y, M[j] = y := ⟨_, rfl⟩
            rw [hy] at hrr hmem hnext hah
            have HMEM := Lib.hid hmem
            have hput := Lib.hid (fun (W : World) (hb : Below W9.heap.size W9 W) => (show Calls Tryz.prog 29 #[p.v, .agg #[.slice va n vc, .slice (some ⟨G, 0, none⟩) m m], rv] W (fun e w' => e = .returned y.v ∧ Below W.heap.size W w') from by
              have h := rowPut_calls p (varsL p) (rowP p y) va (some ⟨G, 0, none⟩) vc m m rv W (by rw [HNN.out]; have h5 := HVV.out; rw [HNN.out] at h5; exact readsOn h5 hb (Nat.le_refl _)) (readsOn hrr hb (Nat.le_refl _)) (by have := varsL_length p; omega) (by unfold rowP; rw [List.length_map]; have := fpN_length p 3; omega)
              rw [HPR.out y hmem.2.1, HNN.out] at h
              exact h))
            have hhas := Lib.hid (fun (W : World) (h : Sto W (w.alloc (.cells (cells12 p) 29)).heap.size b v0 v1 v2 R l1 l2) => (show Calls Tryz.prog 17 #[.pointer (some ⟨b, 0, none⟩), y.v] W (fun e w' => e = .returned (.bool true) ∧ Below W.heap.size W w') from by
              have h5 := has_store_calls _ b v0 v1 v2 R l1 l2 y W h
              rw [decide_eq_true hmem.1] at h5
              exact h5))
            clear hrv hrr hmem hy
            go_wp2_with fail
            refine wp_region_held_drew (S := (fun W => Below wr.heap.size wr W)) (by kernel_rfl) ?_ (fun hHeld => ?_)
            · (try dsimp only); first | exact Below.refl _ _ | exact (Below.refl _ _).drew
            obtain ⟨w6, hw6⟩ : ∃ w6, wr.drew = w6 := ⟨_, rfl⟩
            rw [hw6]
            have hbn : Below wr.heap.size wr w6 := by rw [← hw6]; exact (Below.refl _ _).drew
            clear hw6
            refine wpAnyH_take (i := 0) (oi := ⟨some 60, _, _, _, _, _⟩) (v := ?_) rfl (by kernel_rfl) (by kernel_rfl) (by kernel_rfl) (fun _ _ _ h => h) (Or.inl ⟨by kernel_rfl, ?_⟩) (by assumption) ?_
            rotate_left
            · (intro ww hSw; (try dsimp only at hSw); obtain ⟨⟨c0, c1, c2, c3⟩, ⟨c4, c5, c6, c7⟩, ⟨c8, c9, c10, c11⟩⟩ := box_on bx9.out (HBR.out.trans (hSw.mono hle.out)) hwr.out; go_simp); (try with_reducible rfl)
            (try simp only [Act.put, List.setIfInBounds_toArray, List.set_cons_zero, List.set_cons_succ])
            refine wpAnyH_take (i := 1) (oi := ⟨some 61, _, _, _, _, _⟩) (v := ?_) rfl (by kernel_rfl) (by kernel_rfl) (by kernel_rfl) (fun _ _ _ h => h) (Or.inl ⟨by kernel_rfl, ?_⟩) (by assumption) ?_
            rotate_left
            · (intro ww hSw; (try dsimp only at hSw); have t0 := keptC (show W9.cell? ⟨w2.heap.size, 0, none⟩ = some (.slice va n vc) by rw [blk_cell BT9.out]; rfl) (HBR.out.trans (hSw.mono hle.out)) (blk_lt BT9.out); have t1 := keptC (show W9.cell? ⟨w2.heap.size, 1, none⟩ = some (.slice (some ⟨G, 0, none⟩) m m) by rw [blk_cell BT9.out]; rfl) (HBR.out.trans (hSw.mono hle.out)) (blk_lt BT9.out); go_simp); (try with_reducible rfl)
            (try simp only [Act.put, List.setIfInBounds_toArray, List.set_cons_zero, List.set_cons_succ])
            refine wpAnyH_take (i := 2) (oi := ⟨some 62, _, _, _, _, _⟩) (v := ?_) rfl (by kernel_rfl) (by kernel_rfl) (by kernel_rfl) (fun _ _ _ h => h) (Or.inl ⟨by kernel_rfl, ?_⟩) (by assumption) ?_
            rotate_left
            · (intro ww hSw; (try dsimp only at hSw); go_simp); (try with_reducible rfl)
            (try simp only [Act.put, List.setIfInBounds_toArray, List.set_cons_zero, List.set_cons_succ])
            refine wpAnyH_take (i := 3) (oi := ⟨some 63, _, _, _, _, _⟩) (v := ?_) rfl (by kernel_rfl) (by kernel_rfl) (by kernel_rfl) (fun _ _ _ h => h) (Or.inl ⟨by kernel_rfl, ?_⟩) (by assumption) ?_
            rotate_left
            · (intro ww hSw; (try dsimp only at hSw); have t0 := keptC (show W9.cell? ⟨w2.heap.size, 0, none⟩ = some (.slice va n vc) by rw [blk_cell BT9.out]; rfl) (HBR.out.trans (hSw.mono hle.out)) (blk_lt BT9.out); have t1 := keptC (show W9.cell? ⟨w2.heap.size, 1, none⟩ = some (.slice (some ⟨G, 0, none⟩) m m) by rw [blk_cell BT9.out]; rfl) (HBR.out.trans (hSw.mono hle.out)) (blk_lt BT9.out); go_simp); (try with_reducible rfl)
            (try simp only [Act.put, List.setIfInBounds_toArray, List.set_cons_zero, List.set_cons_succ])
            refine wpAnyH_take (i := 4) (oi := ⟨some 64, _, _, _, _, _⟩) (v := ?_) rfl (by kernel_rfl) (by kernel_rfl) (by kernel_rfl) (fun _ _ _ h => h) (Or.inl ⟨by kernel_rfl, ?_⟩) (by assumption) ?_
            rotate_left
            · (intro ww hSw; (try dsimp only at hSw); go_simp); (try with_reducible rfl)
            (try simp only [Act.put, List.setIfInBounds_toArray, List.set_cons_zero, List.set_cons_succ])
            refine wpAnyH_take (i := 5) (oi := ⟨some 65, _, _, _, _, _⟩) (v := .pointer (some ⟨G, j, none⟩)) rfl (by kernel_rfl) (by kernel_rfl) (by kernel_rfl) (fun _ _ _ h => h) (Or.inl ⟨by kernel_rfl, ?_⟩) (by assumption) ?_
            · (intro ww hSw; (try dsimp only at hSw); go_simp)
            (try simp only [Act.put, List.setIfInBounds_toArray, List.set_cons_zero, List.set_cons_succ])
            refine wpAnyH_take (i := 6) (oi := ⟨some 66, _, _, _, _, _⟩) (v := ?_) rfl (by kernel_rfl) (by kernel_rfl) (by kernel_rfl) (fun _ _ _ h => h) (Or.inl ⟨by kernel_rfl, ?_⟩) (by assumption) ?_
            rotate_left
            · (intro ww hSw; (try dsimp only at hSw); have hr1 := keptC HRV.out (HBR.out.trans (hSw.mono hle.out)) hG9.out; go_simp); (try with_reducible rfl)
            (try simp only [Act.put, List.setIfInBounds_toArray, List.set_cons_zero, List.set_cons_succ])
            apply fork2 (Hyp := fun W X => Below wr.heap.size wr W ∧ Blk W X 29 (cells12 noTrip) ∧ wr.heap.size ≤ X)
            case main =>
              intro KEY
              refine wpAnyH_ready (rs := [7, 8]) (by kernel_rfl) (by simp) ?_
              refine AllReadyH.cons rfl (fun K hK => ?_) (AllReadyH.cons rfl (fun K hK => ?_) AllReadyH.nil)
              · go_simp
                refine (hput.out _ (by first | exact HBR.out.trans (hbn.mono hle.out) | exact (HBR.out.trans (hbn.mono hle.out)).drew)).mono ?_
                rintro e wn1 ⟨rfl, hbh⟩
                (try replace hbh := from_drew hbh)
                replace hbn := fb2 hbn hbh (Nat.le_refl _)
                clear hbh
                go_wp2_with fail
                refine hK.out _ _ ?_ (fun hHeld => ?_)
                · (try dsimp only); first | exact hbn | exact hbn.drew
                clear hK K
                (try simp only [Act.put, List.setIfInBounds_toArray, List.set_cons_zero, List.set_cons_succ])
                refine wpAnyH_ready (rs := [8]) (by kernel_rfl) (by simp) ?_
                refine AllReadyH.cons rfl (fun K hK => ?_) AllReadyH.nil
                go_simp
                obtain ⟨X, hXe⟩ : ∃ X, (wn1).heap.size = X := ⟨_, rfl⟩
                have hXle : wr.heap.size ≤ X := by rw [← hXe]; exact hbn.size
                have hX : Blk ((wn1).alloc (.cells (cells12 noTrip) 29)) X 29 (cells12 noTrip) := by rw [← hXe]; exact blk_new _ _ _
                replace hbn := fb2 hbn (box_below (wn1) (.cells (cells12 noTrip) 29)) (Nat.le_refl _)
                (try simp only [World.size_alloc] at hXe)
                have HXE := Lib.hid hXe
                clear hXe
                refine hK.out _ _ ?_ (fun hHeld => ?_)
                · (try dsimp only); (first | exact hbn | exact hbn.drew)
                clear hK K
                (try simp only [Act.put, List.setIfInBounds_toArray, List.set_cons_zero, List.set_cons_succ])
                (try rw [HXE.out])
                first
                  | (obtain ⟨WW, hWW⟩ : ∃ WW, ((wn1.alloc (.cells #[.int .i64 0, .string ⟨#[]⟩, .string ⟨#[]⟩, .string ⟨#[]⟩, .int .i64 0, .string ⟨#[]⟩, .string ⟨#[]⟩, .string ⟨#[]⟩, .int .i64 0, .string ⟨#[]⟩, .string ⟨#[]⟩, .string ⟨#[]⟩] 29)).drewN 2) = WW := ⟨_, rfl⟩; rw [hWW]; have hX' : Blk WW X 29 (cells12 noTrip) := (by rw [← hWW]; exact hX); have hb' : Below wr.heap.size wr WW := (by rw [← hWW]; exact drewN_below hbn 2); exact KEY WW X ⟨hb', hX', hXle⟩)
                  | (obtain ⟨WW, hWW⟩ : ∃ WW, ((wn1.alloc (.cells #[.int .i64 0, .string ⟨#[]⟩, .string ⟨#[]⟩, .string ⟨#[]⟩, .int .i64 0, .string ⟨#[]⟩, .string ⟨#[]⟩, .string ⟨#[]⟩, .int .i64 0, .string ⟨#[]⟩, .string ⟨#[]⟩, .string ⟨#[]⟩] 29)).drew.drew) = WW := ⟨_, rfl⟩; rw [hWW]; have hX' : Blk WW X 29 (cells12 noTrip) := (by rw [← hWW]; exact hX); have hb' : Below wr.heap.size wr WW := (by rw [← hWW]; exact hbn.drew.drew); exact KEY WW X ⟨hb', hX', hXle⟩)
                  | (obtain ⟨WW, hWW⟩ : ∃ WW, ((wn1.alloc (.cells #[.int .i64 0, .string ⟨#[]⟩, .string ⟨#[]⟩, .string ⟨#[]⟩, .int .i64 0, .string ⟨#[]⟩, .string ⟨#[]⟩, .string ⟨#[]⟩, .int .i64 0, .string ⟨#[]⟩, .string ⟨#[]⟩, .string ⟨#[]⟩] 29)).drew) = WW := ⟨_, rfl⟩; rw [hWW]; have hX' : Blk WW X 29 (cells12 noTrip) := (by rw [← hWW]; exact hX); have hb' : Below wr.heap.size wr WW := (by rw [← hWW]; exact hbn.drew); exact KEY WW X ⟨hb', hX', hXle⟩)
                  | (obtain ⟨WW, hWW⟩ : ∃ WW, (wn1.alloc (.cells #[.int .i64 0, .string ⟨#[]⟩, .string ⟨#[]⟩, .string ⟨#[]⟩, .int .i64 0, .string ⟨#[]⟩, .string ⟨#[]⟩, .string ⟨#[]⟩, .int .i64 0, .string ⟨#[]⟩, .string ⟨#[]⟩, .string ⟨#[]⟩] 29)) = WW := ⟨_, rfl⟩; rw [hWW]; have hX' : Blk WW X 29 (cells12 noTrip) := (by rw [← hWW]; exact hX); have hb' : Below wr.heap.size wr WW := (by rw [← hWW]; exact hbn); exact KEY WW X ⟨hb', hX', hXle⟩)
              · go_simp
                obtain ⟨X, hXe⟩ : ∃ X, (w6).heap.size = X := ⟨_, rfl⟩
                have hXle : wr.heap.size ≤ X := by rw [← hXe]; exact hbn.size
                have hX : Blk ((w6).alloc (.cells (cells12 noTrip) 29)) X 29 (cells12 noTrip) := by rw [← hXe]; exact blk_new _ _ _
                replace hbn := fb2 hbn (box_below (w6) (.cells (cells12 noTrip) 29)) (Nat.le_refl _)
                (try simp only [World.size_alloc] at hXe)
                have HXE := Lib.hid hXe
                clear hXe
                refine hK.out _ _ ?_ (fun hHeld => ?_)
                · (try dsimp only); (first | exact hbn | exact hbn.drew)
                clear hK K
                (try simp only [Act.put, List.setIfInBounds_toArray, List.set_cons_zero, List.set_cons_succ])
                (try rw [HXE.out])
                refine wpAnyH_ready (rs := [7]) (by kernel_rfl) (by simp) ?_
                refine AllReadyH.cons rfl (fun K hK => ?_) AllReadyH.nil
                go_simp
                refine (hput.out _ (by first | exact HBR.out.trans (hbn.mono hle.out) | exact (HBR.out.trans (hbn.mono hle.out)).drew)).mono ?_
                rintro e wn2 ⟨rfl, hbh⟩
                (try replace hbh := from_drew hbh)
                replace hbn := fb2 hbn hbh (Nat.le_refl _)
                replace hX := blk_on hX hbh (blk_lt hX)
                clear hbh
                go_wp2_with fail
                refine hK.out _ _ ?_ (fun hHeld => ?_)
                · (try dsimp only); first | exact hbn | exact hbn.drew
                clear hK K
                (try simp only [Act.put, List.setIfInBounds_toArray, List.set_cons_zero, List.set_cons_succ])
                first
                  | (obtain ⟨WW, hWW⟩ : ∃ WW, ((wn2).drewN 2) = WW := ⟨_, rfl⟩; rw [hWW]; have hX' : Blk WW X 29 (cells12 noTrip) := (by rw [← hWW]; exact hX); have hb' : Below wr.heap.size wr WW := (by rw [← hWW]; exact drewN_below hbn 2); exact Eq.mp (by kernel_rfl) (KEY WW X ⟨hb', hX', hXle⟩))
                  | (obtain ⟨WW, hWW⟩ : ∃ WW, ((wn2).drew.drew) = WW := ⟨_, rfl⟩; rw [hWW]; have hX' : Blk WW X 29 (cells12 noTrip) := (by rw [← hWW]; exact hX); have hb' : Below wr.heap.size wr WW := (by rw [← hWW]; exact hbn.drew.drew); exact Eq.mp (by kernel_rfl) (KEY WW X ⟨hb', hX', hXle⟩))
                  | (obtain ⟨WW, hWW⟩ : ∃ WW, ((wn2).drew) = WW := ⟨_, rfl⟩; rw [hWW]; have hX' : Blk WW X 29 (cells12 noTrip) := (by rw [← hWW]; exact hX); have hb' : Below wr.heap.size wr WW := (by rw [← hWW]; exact hbn.drew); exact Eq.mp (by kernel_rfl) (KEY WW X ⟨hb', hX', hXle⟩))
                  | (obtain ⟨WW, hWW⟩ : ∃ WW, (wn2) = WW := ⟨_, rfl⟩; rw [hWW]; have hX' : Blk WW X 29 (cells12 noTrip) := (by rw [← hWW]; exact hX); have hb' : Below wr.heap.size wr WW := (by rw [← hWW]; exact hbn); exact Eq.mp (by kernel_rfl) (KEY WW X ⟨hb', hX', hXle⟩))
            case key =>
              intro W6 X ⟨hb6, hX6, hXl⟩
              refine wpAnyH_ready (rs := [9]) (by kernel_rfl) (by simp) ?_
              refine AllReadyH.cons rfl (fun K hK => ?_) AllReadyH.nil
              refine wp_store_row 29 (.tmp 13) (.tmp 67) rfl X (cells12 y) (by kernel_rfl) (by kernel_rfl) 29 (cells12 noTrip) hX6 (by kernel_rfl) rfl (by kernel_rfl) ?_
              have hX7 := Lib.hid (blk_row hX6 (cells12 y))
              have hb7 := Lib.hid (hb6.grown (grown_set W6 X (cells12 y)) hb6.size (fun z hz => by injection hz with hz; omega))
              change K (Act.put _ none undef) _
              refine hK.out _ _ ?_ (fun hHeld => ?_)
              · (try dsimp only); first | exact hb7.out | exact hb7.out.drew
              clear hK K
              (try simp only [Act.put])
              refine wpAnyH_done (by kernel_rfl) ?_ _
              obtain ⟨W7, hW7⟩ : ∃ W7, W6.setRow X (cells12 y) = W7 := ⟨_, rfl⟩
              simp only [hW7]
              have hX8 := Lib.hid (show Blk W7 X 29 (cells12 y) by rw [← hW7]; exact hX7.out)
              have hb8 := Lib.hid (show Below wr.heap.size wr W7 by rw [← hW7]; exact hb7.out)
              clear hX7 hb7 hW7 hX6 hb6 cT1 bTr
              have HBZ := Lib.hid (HBR.out.trans (hb8.out.mono hle.out))
              have HL8 := Lib.hid (blk_on HLA.out hb8.out (blk_lt HLA.out))
              have HS8 := Lib.hid (sto_on HS9.out HBZ.out (Nat.le_refl _))
              have hlx := Lib.hid (show W9.heap.size < X from Nat.lt_of_lt_of_le (blk_lt HLA.out) hXl)
              clear HBR HLA hb8 hle
              obtain ⟨⟨c0, c1, c2, c3⟩, ⟨c4, c5, c6, c7⟩, ⟨c8, c9, c10, c11⟩⟩ := box12_of hX8.out
              go_wp2_with fail
              refine (hhas.out _ HS8.out).mono ?_
              rintro e w8 ⟨rfl, hb9⟩
              clear c0 c1 c2 c3 c4 c5 c6 c7 c8 c9 c10 c11
              have HB9z := Lib.hid (HBZ.out.trans (hb9.mono HBZ.out.size))
              have HX9 := Lib.hid (blk_on hX8.out hb9 (blk_lt hX8.out))
              have HL9 := Lib.hid (blk_on HL8.out hb9 (blk_lt HL8.out))
              clear hb9 hX8 HL8 HS8 HBZ
              by_cases h0 : 0 < j
              · have g5 : (0 : Int) < (j : Int) := by omega
                have hcm : tripCmp (lastT M j) y = -1 := by
                  have h1 := hah.out h0
                  rcases tr_range (lastT M j) y with h | h | h <;> omega
                have hrc := Lib.hid (fun W => (show Calls Tryz.prog 30 #[(lastT M j).v, y.v] W (fun e w' => e = .returned (.int .i64 (-1)) ∧ Below W.heap.size W w') from by rw [← hcm]; exact rtCompare_calls (lastT M j) y W (hlok.out h0) HMEM.out.2.2))
                clear hcm
                obtain ⟨⟨c0, c1, c2, c3⟩, ⟨c4, c5, c6, c7⟩, ⟨c8, c9, c10, c11⟩⟩ := box12_of HX9.out
                obtain ⟨⟨d0, d1, d2, d3⟩, ⟨d4, d5, d6, d7⟩, ⟨d8, d9, d10, d11⟩⟩ := box12_of HL9.out
                go_wp2_with fail
                refine (hrc.out _).mono ?_
                rintro e w10 ⟨rfl, hb10⟩
                clear c0 c1 c2 c3 c4 c5 c6 c7 c8 c9 c10 c11
                clear d0 d1 d2 d3 d4 d5 d6 d7 d8 d9 d10 d11
                have HBA := Lib.hid (HB9z.out.trans (hb10.mono HB9z.out.size))
                have HXA := Lib.hid (blk_on HX9.out hb10 (blk_lt HX9.out))
                have HLB := Lib.hid (blk_on HL9.out hb10 (blk_lt HL9.out))
                clear hb10 HX9 HL9 HB9z
                obtain ⟨⟨c0, c1, c2, c3⟩, ⟨c4, c5, c6, c7⟩, ⟨c8, c9, c10, c11⟩⟩ := box12_of HXA.out
                go_wp2_with (refine whole_abs 29 (.tmp 11) (.tmp 82) ⟨rfl, rfl⟩ W9.heap.size (cells12 y) (by kernel_rfl) (by kernel_rfl) 29 (cells12 (lastT M j)) HLB.out (by kernel_rfl) rfl (by kernel_rfl) ?_; intro w11 hA11 hG11)
                go_roundw
                case rel => exact ⟨j + 1, by omega, by go_num, HBA.out.grown hG11.out HBA.out.size (fun z hz => by injection hz with hz; omega), by rw [hnext.out]; exact hA11.out⟩
                case measure => simp [intOf]; omega
              · have g5 : ¬ (0 : Int) < (j : Int) := by omega
                obtain ⟨⟨c0, c1, c2, c3⟩, ⟨c4, c5, c6, c7⟩, ⟨c8, c9, c10, c11⟩⟩ := box12_of HX9.out
                go_wp2_with (refine whole_abs 29 (.tmp 11) (.tmp 82) ⟨rfl, rfl⟩ W9.heap.size (cells12 y) (by kernel_rfl) (by kernel_rfl) 29 (cells12 (lastT M j)) HL9.out (by kernel_rfl) rfl (by kernel_rfl) ?_; intro w11 hA11 hG11)
                go_roundw
                case rel => exact ⟨j + 1, by omega, by go_num, HB9z.out.grown hG11.out HB9z.out.size (fun z hz => by injection hz with hz; omega), by rw [hnext.out]; exact hA11.out⟩
                case measure => simp [intOf]; omega
          · have g4 : ¬ (j : Int) < (m : Int) := by omega
            have gm : ((m : Int) == (m : Int)) = true := by simp
            have HBE := Lib.hid (HB9.out.trans (HBR.out.mono HB9.out.size))
            go_wp2_with fail
            refine (awake_calls _).mono ?_
            rintro e w12 ⟨rfl, hb12⟩
            have HBF := Lib.hid (first_below HBE.out hb12)
            clear hb12
            go_wp2
            go_ret
            exact ⟨rfl, by first | exact HBF.out | exact HBF.out.drew⟩

end Go.Proofs.YtnojdchodmogbaaGreat
