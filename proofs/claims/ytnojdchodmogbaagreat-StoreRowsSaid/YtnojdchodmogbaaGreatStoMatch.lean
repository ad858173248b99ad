/- The table of a pattern: package store's Match. -/
import Derived.Test.YtnojdchodmogbaaGreatStoRows
import Derived.Test.YtnojdchodmogbaaGreatStoFounds
namespace Go.Proofs.YtnojdchodmogbaaGreat
open Go.RowKit

theorem info_row : (Tryz.prog.info? 65).map (fun i => (i.zero, i.size, i.bytes)) = some (some (.slice none 0 0), 1, 24) := by kernel_rfl
theorem fork5 {Hyp G : World → Option Addr → Nat → Nat → Nat → Prop} {C : Prop} (main : (∀ W a c X Y, Hyp W a c X Y → G W a c X Y) → C) (key : ∀ W a c X Y, Hyp W a c X Y → G W a c X Y) : C := main key
theorem tab_row : 56 ≠ 65 := by decide
theorem str_row : 9 ≠ 65 := by decide
theorem str_tab : 9 ≠ 56 := by decide
theorem row_tab : 65 ≠ 56 := by decide
theorem trip_row : 29 ≠ 65 := by decide
theorem own_drew {w : World} {B n size : Nat} {e : TypeId} {v : Value} {xs : List Value} (h : w.ownsRow B e size v n xs) : w.drew.ownsRow B e size v n xs := h
/- the slice that was found, open: its cells are there where it has any -/
theorem own_open {w : World} {B : Nat} {v : Value} {l : List TripL} (h : Own w B v l) : ∃ a c, v = .slice a l.length c ∧ (0 < l.length → ∃ g, a = some ⟨g, 0, none⟩ ∧ g < w.heap.size ∧ l.length ≤ c ∧ ∀ j (h : j < l.length), Cells12 w g j l[j]) := by
  rcases own_cases h with ⟨rfl, rfl⟩ | ⟨g, cap, rfl, hg, hc, _, _, hcells⟩
  · exact ⟨_, _, rfl, fun h => absurd h (by simp)⟩
  · exact ⟨_, _, rfl, fun _ => ⟨g, rfl, hg, hc, hcells⟩⟩

/- what the rounds keep -/
def MatchR (p : TripL) (M : List TripL) (N B0 G X : Nat) (va : Option Addr) (vc : Nat) (cv : Value) (W0 : World) (i : Value) (wr : World) : Prop :=
  ∃ k : Nat, k ≤ N ∧ i = .int .i64 k ∧ RowsR p M (varsL p).length N k B0 G wr ∧ Blk wr X 56 #[.slice va (varsL p).length vc, .slice (some ⟨G, 0, none⟩) N N] ∧
    wr.ownsRow B0 9 1 (.slice va (varsL p).length vc) (varsL p).length (textCells (varsL p)) ∧ wr.ownsRow B0 3 1 cv (fpN p 3).length (intCells (fpN p 3)) ∧ Below B0 W0 wr
theorem rows_set {p : TripL} {M : List TripL} {n N k B G A : Nat} {W W' : World} {c : Array Value} (h : RowsR p M n N k B G W) (hA : Blk W A 56 c) (hG : W.grownBy W' (some A)) : RowsR p M n N k B G W' := by
  obtain ⟨gs, hl, hb, hr⟩ := h
  refine ⟨gs, hl, blk_grown hb hA row_tab hG, fun i g hg => ?_⟩
  obtain ⟨h1, t, ht, hB⟩ := hr i g hg
  exact ⟨h1, t, ht, blk_grown hB hA (by decide) hG⟩
theorem rows_base {p : TripL} {M : List TripL} {n N k B C G : Nat} {W : World} (h : RowsR p M n N k B G W) (hC : C ≤ B) : RowsR p M n N k C G W := by
  obtain ⟨gs, hl, hb, hr⟩ := h
  exact ⟨gs, hl, hb, fun i g hg => ⟨Nat.le_trans hC (hr i g hg).1, (hr i g hg).2⟩⟩
theorem int_row : 3 ≠ 65 := by decide
theorem match_ret (tm : Array Value) (W : World) (A : Nat) (a b : Value) (c : Int) (Q : Ending → World → Prop) (h4 : tm.getD 4 undef = .pointer (some ⟨A, 0, none⟩)) (h5 : tm.getD 5 undef = .int .i64 c) (hA : Blk W A 56 #[a, b]) (hQ : Q (.returned (.tuple #[.agg #[a, b], .int .i64 c])) W) :
    bodyPost Tryz.prog Tryz.f23 Q Exit.ret { tmps := tm, defers := [] } W := by
  have q0 : W.cell? ⟨A, 0, none⟩ = some a := by rw [blk_cell hA]; rfl
  have q1 : W.cell? ⟨A, 1, none⟩ = some b := by rw [blk_cell hA]; rfl
  have e4 : tm[4]?.getD undef = .pointer (some ⟨A, 0, none⟩) := by rw [← Array.getD_eq_getD_getElem?]; exact h4
  have e5 : tm[5]?.getD undef = .int .i64 c := by rw [← Array.getD_eq_getD_getElem?]; exact h5
  refine bodyPost_ret (v := .tuple #[.agg #[a, b], .int .i64 c]) (by simp [results, Tryz.results23, e4, e5, q0, q1, go_sem]) rfl hQ

set_option maxRecDepth 100000 in
set_option maxHeartbeats 8000000 in
theorem Match_calls (B b : Nat) (v0 v1 v2 : Value) (L l1 l2 : List TripL) (p : TripL) (hp : p.ok) (w : World) (h : Sto w B b v0 v1 v2 L l1 l2) :
    Calls Tryz.prog 23 #[.pointer (some ⟨b, 0, none⟩), p.v] w (MatchT (patB p) p (L.filter (matchB p)) w) := by
  obtain ⟨i0, hi, hz0, hz1, hz2⟩ := info_parts info_row
  have hmost : (L.filter (matchB p)).length ≤ 4096 := Nat.le_trans (List.length_filter_le _ _) h.most
  have HM := Lib.hid hmost
  have HR := Lib.hid (fun W => refused_calls b p hp W)
  have H := Lib.hid h
  have hbw := Lib.hid (blk_lt h.blk)
  clear h hmost hp
  have hmat := Lib.hid (fun (hq : patB p = true) (W : World) (hS : Sto W B b v0 v1 v2 L l1 l2) => matching_calls B b v0 v1 v2 L l1 l2 p hq W hS)
  have hvars := Lib.hid (fun W => Vars_calls p W)
  have hfirst := Lib.hid (fun W => firstPlaces_calls p W)
  have bx0 := Lib.hid (blk_new w 29 (cells12 p))
  obtain ⟨P0, hP0⟩ : ∃ P0, p = P0 := ⟨_, rfl⟩
  have HP0 := Lib.hid hP0
  clear hP0
  simp only [TripL.v]
  go_enter Tryz.func23, Tryz.ntmps23
  go_wp2_with fail
  refine (HR.out _).mono ?_
  rintro e w1 ⟨rfl, hb1⟩
  have bx1 := Lib.hid (box_on (box12_of (blk_on bx0.out (box_below _ _) (blk_lt bx0.out))) hb1 (by simp; omega))
  have br1 := Lib.hid (blk_on (blk_new (w.alloc (.cells (cells12 p) 29)) 56 #[.slice none 0 0, .slice none 0 0]) hb1 (by simp))
  have bs1 := Lib.hid (Below.trans ((Below.refl w.heap.size w).alloc (Nat.le_refl _) (.cells (cells12 p) 29)) (((Below.refl w.heap.size _).alloc (by simp) (.cells #[.slice none 0 0, .slice none 0 0] 56)).trans (hb1.mono (by simp; omega))))
  have hsz := Lib.hid (show w.heap.size + 2 ≤ w1.heap.size by have := hb1.size; simpa using this)
  clear hb1
  obtain ⟨A, hAe⟩ : ∃ A, w.heap.size + 1 = A := ⟨_, rfl⟩
  have HA1 : Hid (Blk w1 A 56 #[.slice none 0 0, .slice none 0 0]) := by show Blk _ _ _ _; rw [← hAe]; simpa using br1.out
  simp only [hAe]
  have HAE := Lib.hid hAe
  clear hAe br1
  cases hq : patB p with
  | false =>
    have e2 : formZ false = 2 := rfl
    rw [e2]
    clear e2
    have hA := HA1.out
    go_wp2_with (refine whole_abs 56 (.tmp 4) (.tmp 17) ⟨rfl, rfl⟩ A #[.slice none 0 0, .slice none 0 0] (by kernel_rfl) (by kernel_rfl) 56 #[.slice none 0 0, .slice none 0 0] (by first | exact hA | exact blkDrew hA) (by kernel_rfl) rfl (by kernel_rfl) ?_; intro w2 hA2 hG2)
    exact match_ret _ _ A _ _ _ _ (by first | rfl | simp) (by first | rfl | simp) (by first | exact hA2.out | exact blkDrew hA2.out) ⟨by first | exact bs1.out.grown hG2.out bs1.out.size (fun k hk => by injection hk with hk; have := HAE.out; omega) | exact bs1.out.drew.grown hG2.out bs1.out.size (fun k hk => by injection hk with hk; have := HAE.out; omega) | exact (bs1.out.grown hG2.out bs1.out.size (fun k hk => by injection hk with hk; have := HAE.out; omega)).drew, by rw [if_neg (by rw [hq]; simp)]; rfl⟩
  | true =>
    have e2 : formZ true = 0 := rfl
    rw [e2]
    clear e2
    obtain ⟨⟨c0, c1, c2, c3⟩, ⟨c4, c5, c6, c7⟩, ⟨c8, c9, c10, c11⟩⟩ := bx1.out
    go_wp2_with fail
    clear c0 c1 c2 c3 c4 c5 c6 c7 c8 c9 c10 c11
    refine (hmat.out hq _ (sto_on H.out bs1.out (Nat.le_refl _))).mono ?_
    rintro e W0 ⟨v', rfl, hown, hb2⟩
    obtain ⟨fa, fc, rfl, hf⟩ := own_open hown
    have FP := Lib.hid (fp_vars hq)
    obtain ⟨M, hMe⟩ : ∃ M, L.filter (matchB p) = M := ⟨_, rfl⟩
    rw [hMe] at hf ⊢
    have hN := HM.out
    rw [hMe] at hN
    obtain ⟨N, hNe⟩ : ∃ N, M.length = N := ⟨_, rfl⟩
    rw [hNe] at hN ⊢
    have HNE := Lib.hid hNe
    have HME := Lib.hid hMe
    have HF := Lib.hid (show 0 < N → ∃ g, fa = some ⟨g, 0, none⟩ ∧ g < W0.heap.size ∧ N ≤ fc ∧ ∀ j (h : j < M.length), Cells12 W0 g j M[j] from fun h0 => by obtain ⟨g, a1, a2, a3, a4⟩ := hf (by rw [hNe]; exact h0); exact ⟨g, a1, a2, by rw [← hNe]; exact a3, a4⟩)
    have bx2 := Lib.hid (box_on bx1.out hb2 (Nat.lt_of_lt_of_le (by omega) hsz.out))
    have HA2 := Lib.hid (blk_on HA1.out hb2 (blk_lt HA1.out))
    have bs2 := Lib.hid (bs1.out.trans (hb2.mono bs1.out.size))
    obtain ⟨B0, hB0⟩ : ∃ B0, W0.heap.size = B0 := ⟨_, rfl⟩
    have hBle := Lib.hid (show B0 ≤ W0.heap.size by omega)
    have hB2 := Lib.hid (show w.heap.size + 2 ≤ B0 by have := hsz.out; have := hb2.size; omega)
    have hx0 := Lib.hid (show w.heap.size < B0 by have := hB2.out; omega)
    have HB0 := Lib.hid hB0
    clear hB0 hMe hNe hf hown hb2 hmat
    have hbn : Below B0 W0 W0 := Below.refl _ _
    go_wp2_with fail
    refine wp_region_held_drew (S := (fun W => Below B0 W0 W)) (by kernel_rfl) ?_ (fun hHeld => ?_)
    · (try dsimp only); first | exact hbn | exact hbn.drew
    refine wpAnyH_take (i := 0) (oi := ⟨some 22, _, _, _, _, _⟩) (v := ?_) rfl (by kernel_rfl) (by kernel_rfl) (by kernel_rfl) (fun _ _ _ h => h) (Or.inl ⟨by kernel_rfl, ?_⟩) (by assumption) ?_
    rotate_left
    · (intro ww hSw; (try dsimp only at hSw); obtain ⟨⟨c0, c1, c2, c3⟩, ⟨c4, c5, c6, c7⟩, ⟨c8, c9, c10, c11⟩⟩ := box_on bx2.out hSw hx0.out; go_simp); (try with_reducible rfl)
    (try simp only [Act.put, List.setIfInBounds_toArray, List.set_cons_zero, List.set_cons_succ])
    refine wpAnyH_take (i := 2) (oi := ⟨some 24, _, _, _, _, _⟩) (v := ?_) rfl (by kernel_rfl) (by kernel_rfl) (by kernel_rfl) (fun _ _ _ h => h) (Or.inl ⟨by kernel_rfl, ?_⟩) (by assumption) ?_
    rotate_left
    · (intro ww hSw; (try dsimp only at hSw); go_simp); (try with_reducible rfl)
    (try simp only [Act.put, List.setIfInBounds_toArray, List.set_cons_zero, List.set_cons_succ])
    refine wpAnyH_take (i := 3) (oi := ⟨some 25, _, _, _, _, _⟩) (v := ?_) rfl (by kernel_rfl) (by kernel_rfl) (by kernel_rfl) (fun _ _ _ h => h) (Or.inl ⟨by kernel_rfl, ?_⟩) (by assumption) ?_
    rotate_left
    · (intro ww hSw; (try dsimp only at hSw); go_simp); (try with_reducible rfl)
    (try simp only [Act.put, List.setIfInBounds_toArray, List.set_cons_zero, List.set_cons_succ])
    apply fork5 (Hyp := fun W va vc G X => W.ownsRow B0 9 1 (.slice va (varsL p).length vc) (varsL p).length (textCells (varsL p)) ∧ Blk W G 65 (List.replicate N nilV).toArray ∧ Blk W X 56 #[.slice none 0 0, .slice none 0 0] ∧ B0 ≤ G ∧ B0 ≤ X ∧ Below B0 W0 W)
    case main =>
      intro KEY
      refine wpAnyH_ready (rs := [1, 4, 6]) (by kernel_rfl) (by simp) ?_
      refine AllReadyH.cons rfl (fun K hK => ?_) (AllReadyH.cons rfl (fun K hK => ?_) (AllReadyH.cons rfl (fun K hK => ?_) AllReadyH.nil))
      · go_simp
        refine (hvars.out _).mono ?_
        rintro e wn1 ⟨vv, rfl, hV, hbv⟩
        (try replace hbv := from_drew hbv)
        replace hV := owns_base hV (show B0 ≤ _ from Nat.le_trans hBle.out hbn.size)
        obtain ⟨va, vc, rfl⟩ := owns_slice hV
        replace hbn := fb2 hbn hbv hBle.out
        clear hbv
        go_wp2_with fail
        refine hK.out _ _ ?_ (fun hHeld => ?_)
        · (try dsimp only); (first | exact hbn | exact hbn.drew)
        clear hK K
        (try simp only [Act.put, List.setIfInBounds_toArray, List.set_cons_zero, List.set_cons_succ])
        refine wpAnyH_ready (rs := [4, 6]) (by kernel_rfl) (by simp) ?_
        refine AllReadyH.cons rfl (fun K hK => ?_) (AllReadyH.cons rfl (fun K hK => ?_) AllReadyH.nil)
        · obtain ⟨G, hGe⟩ : ∃ G, (wn1).heap.size = G := ⟨_, rfl⟩
          have hGle : B0 ≤ G := by rw [← hGe]; exact Nat.le_trans hBle.out hbn.size
          refine wp_make_blk (.tmp 25) (.tmp 25) 54 rfl 65 i0 (.slice none 0 0) 1 Tryz.underlying54 hi hz0 hz1 .i64 .i64 N (by kernel_rfl) (by kernel_rfl) (by rw [hz2]; omega) (by unfold maxLen; omega) G hGe ?_
          intro wn2 hG hbv
          rw [made_rows] at hG
          (try replace hbv := from_drew hbv)
          replace hV := owns_on hV hbv (Nat.le_refl _)
          replace hbn := fb2 hbn hbv hBle.out
          clear hbv
          clear hGe
          change K (Act.put _ (some 26) _) _
          refine hK.out _ _ ?_ (fun hHeld => ?_)
          · (try dsimp only); (first | exact hbn | exact hbn.drew)
          clear hK K
          (try simp only [Act.put, List.setIfInBounds_toArray, List.set_cons_zero, List.set_cons_succ])
          refine wpAnyH_take (i := 5) (oi := ⟨some 27, _, _, _, _, _⟩) (v := ?_) rfl (by kernel_rfl) (by kernel_rfl) (by kernel_rfl) (fun _ _ _ h => h) (Or.inl ⟨by kernel_rfl, ?_⟩) (by assumption) ?_
          rotate_left
          · (intro ww hSw; (try dsimp only at hSw); go_simp); (try with_reducible rfl)
          (try simp only [Act.put, List.setIfInBounds_toArray, List.set_cons_zero, List.set_cons_succ])
          refine wpAnyH_ready (rs := [6]) (by kernel_rfl) (by simp) ?_
          refine AllReadyH.cons rfl (fun K hK => ?_) AllReadyH.nil
          · go_simp
            obtain ⟨X, hXe⟩ : ∃ X, (wn2).heap.size = X := ⟨_, rfl⟩
            have hXle : B0 ≤ X := by rw [← hXe]; exact Nat.le_trans hBle.out hbn.size
            have hX : Blk ((wn2).alloc (.cells #[.slice none 0 0, .slice none 0 0] 56)) X 56 #[.slice none 0 0, .slice none 0 0] := by rw [← hXe]; exact blk_new _ _ _
            have hbv : Below (wn2).heap.size (wn2) ((wn2).alloc (.cells #[.slice none 0 0, .slice none 0 0] 56)) := box_below _ _
            replace hV := owns_on hV hbv (Nat.le_refl _)
            replace hG := blk_on hG hbv (blk_lt hG)
            replace hbn := fb2 hbn hbv hBle.out
            clear hbv
            (try simp only [World.size_alloc] at hXe)
            have HXE := Lib.hid hXe
            clear hXe
            refine hK.out _ _ ?_ (fun hHeld => ?_)
            · (try dsimp only); (first | exact hbn | exact hbn.drew)
            clear hK K
            (try rw [HXE.out])
            (try simp only [Act.put, List.setIfInBounds_toArray, List.set_cons_zero, List.set_cons_succ])
            first
              | (obtain ⟨WW, hWW⟩ : ∃ WW, ((((wn2).alloc (.cells #[.slice none 0 0, .slice none 0 0] 56))).drewN 3) = WW := ⟨_, rfl⟩; rw [hWW]; have hV' : WW.ownsRow B0 9 1 (.slice va (varsL p).length vc) (varsL p).length (textCells (varsL p)) := (by rw [← hWW]; exact hV); have hG' : Blk WW G 65 (List.replicate N nilV).toArray := (by rw [← hWW]; exact hG); have hX' : Blk WW X 56 #[.slice none 0 0, .slice none 0 0] := (by rw [← hWW]; exact hX); have hb' : Below B0 W0 WW := (by rw [← hWW]; exact drewN_below hbn 3); exact KEY WW va vc G X ⟨hV', hG', hX', hGle, hXle, hb'⟩)
              | (obtain ⟨WW, hWW⟩ : ∃ WW, ((((wn2).alloc (.cells #[.slice none 0 0, .slice none 0 0] 56))).drewN 2) = WW := ⟨_, rfl⟩; rw [hWW]; have hV' : WW.ownsRow B0 9 1 (.slice va (varsL p).length vc) (varsL p).length (textCells (varsL p)) := (by rw [← hWW]; exact hV); have hG' : Blk WW G 65 (List.replicate N nilV).toArray := (by rw [← hWW]; exact hG); have hX' : Blk WW X 56 #[.slice none 0 0, .slice none 0 0] := (by rw [← hWW]; exact hX); have hb' : Below B0 W0 WW := (by rw [← hWW]; exact drewN_below hbn 2); exact KEY WW va vc G X ⟨hV', hG', hX', hGle, hXle, hb'⟩)
              | (obtain ⟨WW, hWW⟩ : ∃ WW, ((((wn2).alloc (.cells #[.slice none 0 0, .slice none 0 0] 56))).drew.drew) = WW := ⟨_, rfl⟩; rw [hWW]; have hV' : WW.ownsRow B0 9 1 (.slice va (varsL p).length vc) (varsL p).length (textCells (varsL p)) := (by rw [← hWW]; exact hV); have hG' : Blk WW G 65 (List.replicate N nilV).toArray := (by rw [← hWW]; exact hG); have hX' : Blk WW X 56 #[.slice none 0 0, .slice none 0 0] := (by rw [← hWW]; exact hX); have hb' : Below B0 W0 WW := (by rw [← hWW]; exact hbn.drew.drew); exact KEY WW va vc G X ⟨hV', hG', hX', hGle, hXle, hb'⟩)
              | (obtain ⟨WW, hWW⟩ : ∃ WW, ((((wn2).alloc (.cells #[.slice none 0 0, .slice none 0 0] 56))).drew) = WW := ⟨_, rfl⟩; rw [hWW]; have hV' : WW.ownsRow B0 9 1 (.slice va (varsL p).length vc) (varsL p).length (textCells (varsL p)) := (by rw [← hWW]; exact hV); have hG' : Blk WW G 65 (List.replicate N nilV).toArray := (by rw [← hWW]; exact hG); have hX' : Blk WW X 56 #[.slice none 0 0, .slice none 0 0] := (by rw [← hWW]; exact hX); have hb' : Below B0 W0 WW := (by rw [← hWW]; exact hbn.drew); exact KEY WW va vc G X ⟨hV', hG', hX', hGle, hXle, hb'⟩)
              | (obtain ⟨WW, hWW⟩ : ∃ WW, (((wn2).alloc (.cells #[.slice none 0 0, .slice none 0 0] 56))) = WW := ⟨_, rfl⟩; rw [hWW]; have hV' : WW.ownsRow B0 9 1 (.slice va (varsL p).length vc) (varsL p).length (textCells (varsL p)) := (by rw [← hWW]; exact hV); have hG' : Blk WW G 65 (List.replicate N nilV).toArray := (by rw [← hWW]; exact hG); have hX' : Blk WW X 56 #[.slice none 0 0, .slice none 0 0] := (by rw [← hWW]; exact hX); have hb' : Below B0 W0 WW := (by rw [← hWW]; exact hbn); exact KEY WW va vc G X ⟨hV', hG', hX', hGle, hXle, hb'⟩)
        · go_simp
          obtain ⟨X, hXe⟩ : ∃ X, (wn1).heap.size = X := ⟨_, rfl⟩
          have hXle : B0 ≤ X := by rw [← hXe]; exact Nat.le_trans hBle.out hbn.size
          have hX : Blk ((wn1).alloc (.cells #[.slice none 0 0, .slice none 0 0] 56)) X 56 #[.slice none 0 0, .slice none 0 0] := by rw [← hXe]; exact blk_new _ _ _
          have hbv : Below (wn1).heap.size (wn1) ((wn1).alloc (.cells #[.slice none 0 0, .slice none 0 0] 56)) := box_below _ _
          replace hV := owns_on hV hbv (Nat.le_refl _)
          replace hbn := fb2 hbn hbv hBle.out
          clear hbv
          (try simp only [World.size_alloc] at hXe)
          have HXE := Lib.hid hXe
          clear hXe
          refine hK.out _ _ ?_ (fun hHeld => ?_)
          · (try dsimp only); (first | exact hbn | exact hbn.drew)
          clear hK K
          (try rw [HXE.out])
          (try simp only [Act.put, List.setIfInBounds_toArray, List.set_cons_zero, List.set_cons_succ])
          refine wpAnyH_ready (rs := [4]) (by kernel_rfl) (by simp) ?_
          refine AllReadyH.cons rfl (fun K hK => ?_) AllReadyH.nil
          · obtain ⟨G, hGe⟩ : ∃ G, (((wn1).alloc (.cells #[.slice none 0 0, .slice none 0 0] 56))).heap.size = G := ⟨_, rfl⟩
            have hGle : B0 ≤ G := by rw [← hGe]; exact Nat.le_trans hBle.out hbn.size
            refine wp_make_blk (.tmp 25) (.tmp 25) 54 rfl 65 i0 (.slice none 0 0) 1 Tryz.underlying54 hi hz0 hz1 .i64 .i64 N (by kernel_rfl) (by kernel_rfl) (by rw [hz2]; omega) (by unfold maxLen; omega) G hGe ?_
            intro wn5 hG hbv
            rw [made_rows] at hG
            (try replace hbv := from_drew hbv)
            replace hV := owns_on hV hbv (Nat.le_refl _)
            replace hX := blk_on hX hbv (blk_lt hX)
            replace hbn := fb2 hbn hbv hBle.out
            clear hbv
            clear hGe
            change K (Act.put _ (some 26) _) _
            refine hK.out _ _ ?_ (fun hHeld => ?_)
            · (try dsimp only); (first | exact hbn | exact hbn.drew)
            clear hK K
            (try simp only [Act.put, List.setIfInBounds_toArray, List.set_cons_zero, List.set_cons_succ])
            refine wpAnyH_take (i := 5) (oi := ⟨some 27, _, _, _, _, _⟩) (v := ?_) rfl (by kernel_rfl) (by kernel_rfl) (by kernel_rfl) (fun _ _ _ h => h) (Or.inl ⟨by kernel_rfl, ?_⟩) (by assumption) ?_
            rotate_left
            · (intro ww hSw; (try dsimp only at hSw); go_simp); (try with_reducible rfl)
            (try simp only [Act.put, List.setIfInBounds_toArray, List.set_cons_zero, List.set_cons_succ])
            first
              | (obtain ⟨WW, hWW⟩ : ∃ WW, ((wn5).drewN 3) = WW := ⟨_, rfl⟩; rw [hWW]; have hV' : WW.ownsRow B0 9 1 (.slice va (varsL p).length vc) (varsL p).length (textCells (varsL p)) := (by rw [← hWW]; exact hV); have hG' : Blk WW G 65 (List.replicate N nilV).toArray := (by rw [← hWW]; exact hG); have hX' : Blk WW X 56 #[.slice none 0 0, .slice none 0 0] := (by rw [← hWW]; exact hX); have hb' : Below B0 W0 WW := (by rw [← hWW]; exact drewN_below hbn 3); exact Eq.mp (by kernel_rfl) (KEY WW va vc G X ⟨hV', hG', hX', hGle, hXle, hb'⟩))
              | (obtain ⟨WW, hWW⟩ : ∃ WW, ((wn5).drewN 2) = WW := ⟨_, rfl⟩; rw [hWW]; have hV' : WW.ownsRow B0 9 1 (.slice va (varsL p).length vc) (varsL p).length (textCells (varsL p)) := (by rw [← hWW]; exact hV); have hG' : Blk WW G 65 (List.replicate N nilV).toArray := (by rw [← hWW]; exact hG); have hX' : Blk WW X 56 #[.slice none 0 0, .slice none 0 0] := (by rw [← hWW]; exact hX); have hb' : Below B0 W0 WW := (by rw [← hWW]; exact drewN_below hbn 2); exact Eq.mp (by kernel_rfl) (KEY WW va vc G X ⟨hV', hG', hX', hGle, hXle, hb'⟩))
              | (obtain ⟨WW, hWW⟩ : ∃ WW, ((wn5).drew.drew) = WW := ⟨_, rfl⟩; rw [hWW]; have hV' : WW.ownsRow B0 9 1 (.slice va (varsL p).length vc) (varsL p).length (textCells (varsL p)) := (by rw [← hWW]; exact hV); have hG' : Blk WW G 65 (List.replicate N nilV).toArray := (by rw [← hWW]; exact hG); have hX' : Blk WW X 56 #[.slice none 0 0, .slice none 0 0] := (by rw [← hWW]; exact hX); have hb' : Below B0 W0 WW := (by rw [← hWW]; exact hbn.drew.drew); exact Eq.mp (by kernel_rfl) (KEY WW va vc G X ⟨hV', hG', hX', hGle, hXle, hb'⟩))
              | (obtain ⟨WW, hWW⟩ : ∃ WW, ((wn5).drew) = WW := ⟨_, rfl⟩; rw [hWW]; have hV' : WW.ownsRow B0 9 1 (.slice va (varsL p).length vc) (varsL p).length (textCells (varsL p)) := (by rw [← hWW]; exact hV); have hG' : Blk WW G 65 (List.replicate N nilV).toArray := (by rw [← hWW]; exact hG); have hX' : Blk WW X 56 #[.slice none 0 0, .slice none 0 0] := (by rw [← hWW]; exact hX); have hb' : Below B0 W0 WW := (by rw [← hWW]; exact hbn.drew); exact Eq.mp (by kernel_rfl) (KEY WW va vc G X ⟨hV', hG', hX', hGle, hXle, hb'⟩))
              | (obtain ⟨WW, hWW⟩ : ∃ WW, (wn5) = WW := ⟨_, rfl⟩; rw [hWW]; have hV' : WW.ownsRow B0 9 1 (.slice va (varsL p).length vc) (varsL p).length (textCells (varsL p)) := (by rw [← hWW]; exact hV); have hG' : Blk WW G 65 (List.replicate N nilV).toArray := (by rw [← hWW]; exact hG); have hX' : Blk WW X 56 #[.slice none 0 0, .slice none 0 0] := (by rw [← hWW]; exact hX); have hb' : Below B0 W0 WW := (by rw [← hWW]; exact hbn); exact Eq.mp (by kernel_rfl) (KEY WW va vc G X ⟨hV', hG', hX', hGle, hXle, hb'⟩))
      · obtain ⟨G, hGe⟩ : ∃ G, (W0).heap.size = G := ⟨_, rfl⟩
        have hGle : B0 ≤ G := by rw [← hGe]; exact Nat.le_trans hBle.out hbn.size
        refine wp_make_blk (.tmp 25) (.tmp 25) 54 rfl 65 i0 (.slice none 0 0) 1 Tryz.underlying54 hi hz0 hz1 .i64 .i64 N (by kernel_rfl) (by kernel_rfl) (by rw [hz2]; omega) (by unfold maxLen; omega) G hGe ?_
        intro wn6 hG hbv
        rw [made_rows] at hG
        (try replace hbv := from_drew hbv)
        replace hbn := fb2 hbn hbv hBle.out
        clear hbv
        clear hGe
        change K (Act.put _ (some 26) _) _
        refine hK.out _ _ ?_ (fun hHeld => ?_)
        · (try dsimp only); (first | exact hbn | exact hbn.drew)
        clear hK K
        (try simp only [Act.put, List.setIfInBounds_toArray, List.set_cons_zero, List.set_cons_succ])
        refine wpAnyH_ready (rs := [1, 6]) (by kernel_rfl) (by simp) ?_
        refine AllReadyH.cons rfl (fun K hK => ?_) (AllReadyH.cons rfl (fun K hK => ?_) AllReadyH.nil)
        · go_simp
          refine (hvars.out _).mono ?_
          rintro e wn7 ⟨vv, rfl, hV, hbv⟩
          (try replace hbv := from_drew hbv)
          replace hV := owns_base hV (show B0 ≤ _ from Nat.le_trans hBle.out hbn.size)
          obtain ⟨va, vc, rfl⟩ := owns_slice hV
          replace hG := blk_on hG hbv (blk_lt hG)
          replace hbn := fb2 hbn hbv hBle.out
          clear hbv
          go_wp2_with fail
          refine hK.out _ _ ?_ (fun hHeld => ?_)
          · (try dsimp only); (first | exact hbn | exact hbn.drew)
          clear hK K
          (try simp only [Act.put, List.setIfInBounds_toArray, List.set_cons_zero, List.set_cons_succ])
          refine wpAnyH_take (i := 5) (oi := ⟨some 27, _, _, _, _, _⟩) (v := ?_) rfl (by kernel_rfl) (by kernel_rfl) (by kernel_rfl) (fun _ _ _ h => h) (Or.inl ⟨by kernel_rfl, ?_⟩) (by assumption) ?_
          rotate_left
          · (intro ww hSw; (try dsimp only at hSw); go_simp); (try with_reducible rfl)
          (try simp only [Act.put, List.setIfInBounds_toArray, List.set_cons_zero, List.set_cons_succ])
          refine wpAnyH_ready (rs := [6]) (by kernel_rfl) (by simp) ?_
          refine AllReadyH.cons rfl (fun K hK => ?_) AllReadyH.nil
          · go_simp
            obtain ⟨X, hXe⟩ : ∃ X, (wn7).heap.size = X := ⟨_, rfl⟩
            have hXle : B0 ≤ X := by rw [← hXe]; exact Nat.le_trans hBle.out hbn.size
            have hX : Blk ((wn7).alloc (.cells #[.slice none 0 0, .slice none 0 0] 56)) X 56 #[.slice none 0 0, .slice none 0 0] := by rw [← hXe]; exact blk_new _ _ _
            have hbv : Below (wn7).heap.size (wn7) ((wn7).alloc (.cells #[.slice none 0 0, .slice none 0 0] 56)) := box_below _ _
            replace hV := owns_on hV hbv (Nat.le_refl _)
            replace hG := blk_on hG hbv (blk_lt hG)
            replace hbn := fb2 hbn hbv hBle.out
            clear hbv
            (try simp only [World.size_alloc] at hXe)
            have HXE := Lib.hid hXe
            clear hXe
            refine hK.out _ _ ?_ (fun hHeld => ?_)
            · (try dsimp only); (first | exact hbn | exact hbn.drew)
            clear hK K
            (try rw [HXE.out])
            (try simp only [Act.put, List.setIfInBounds_toArray, List.set_cons_zero, List.set_cons_succ])
            first
              | (obtain ⟨WW, hWW⟩ : ∃ WW, ((((wn7).alloc (.cells #[.slice none 0 0, .slice none 0 0] 56))).drewN 3) = WW := ⟨_, rfl⟩; rw [hWW]; have hV' : WW.ownsRow B0 9 1 (.slice va (varsL p).length vc) (varsL p).length (textCells (varsL p)) := (by rw [← hWW]; exact hV); have hG' : Blk WW G 65 (List.replicate N nilV).toArray := (by rw [← hWW]; exact hG); have hX' : Blk WW X 56 #[.slice none 0 0, .slice none 0 0] := (by rw [← hWW]; exact hX); have hb' : Below B0 W0 WW := (by rw [← hWW]; exact drewN_below hbn 3); exact Eq.mp (by kernel_rfl) (KEY WW va vc G X ⟨hV', hG', hX', hGle, hXle, hb'⟩))
              | (obtain ⟨WW, hWW⟩ : ∃ WW, ((((wn7).alloc (.cells #[.slice none 0 0, .slice none 0 0] 56))).drewN 2) = WW := ⟨_, rfl⟩; rw [hWW]; have hV' : WW.ownsRow B0 9 1 (.slice va (varsL p).length vc) (varsL p).length (textCells (varsL p)) := (by rw [← hWW]; exact hV); have hG' : Blk WW G 65 (List.replicate N nilV).toArray := (by rw [← hWW]; exact hG); have hX' : Blk WW X 56 #[.slice none 0 0, .slice none 0 0] := (by rw [← hWW]; exact hX); have hb' : Below B0 W0 WW := (by rw [← hWW]; exact drewN_below hbn 2); exact Eq.mp (by kernel_rfl) (KEY WW va vc G X ⟨hV', hG', hX', hGle, hXle, hb'⟩))
              | (obtain ⟨WW, hWW⟩ : ∃ WW, ((((wn7).alloc (.cells #[.slice none 0 0, .slice none 0 0] 56))).drew.drew) = WW := ⟨_, rfl⟩; rw [hWW]; have hV' : WW.ownsRow B0 9 1 (.slice va (varsL p).length vc) (varsL p).length (textCells (varsL p)) := (by rw [← hWW]; exact hV); have hG' : Blk WW G 65 (List.replicate N nilV).toArray := (by rw [← hWW]; exact hG); have hX' : Blk WW X 56 #[.slice none 0 0, .slice none 0 0] := (by rw [← hWW]; exact hX); have hb' : Below B0 W0 WW := (by rw [← hWW]; exact hbn.drew.drew); exact Eq.mp (by kernel_rfl) (KEY WW va vc G X ⟨hV', hG', hX', hGle, hXle, hb'⟩))
              | (obtain ⟨WW, hWW⟩ : ∃ WW, ((((wn7).alloc (.cells #[.slice none 0 0, .slice none 0 0] 56))).drew) = WW := ⟨_, rfl⟩; rw [hWW]; have hV' : WW.ownsRow B0 9 1 (.slice va (varsL p).length vc) (varsL p).length (textCells (varsL p)) := (by rw [← hWW]; exact hV); have hG' : Blk WW G 65 (List.replicate N nilV).toArray := (by rw [← hWW]; exact hG); have hX' : Blk WW X 56 #[.slice none 0 0, .slice none 0 0] := (by rw [← hWW]; exact hX); have hb' : Below B0 W0 WW := (by rw [← hWW]; exact hbn.drew); exact Eq.mp (by kernel_rfl) (KEY WW va vc G X ⟨hV', hG', hX', hGle, hXle, hb'⟩))
              | (obtain ⟨WW, hWW⟩ : ∃ WW, (((wn7).alloc (.cells #[.slice none 0 0, .slice none 0 0] 56))) = WW := ⟨_, rfl⟩; rw [hWW]; have hV' : WW.ownsRow B0 9 1 (.slice va (varsL p).length vc) (varsL p).length (textCells (varsL p)) := (by rw [← hWW]; exact hV); have hG' : Blk WW G 65 (List.replicate N nilV).toArray := (by rw [← hWW]; exact hG); have hX' : Blk WW X 56 #[.slice none 0 0, .slice none 0 0] := (by rw [← hWW]; exact hX); have hb' : Below B0 W0 WW := (by rw [← hWW]; exact hbn); exact Eq.mp (by kernel_rfl) (KEY WW va vc G X ⟨hV', hG', hX', hGle, hXle, hb'⟩))
        · go_simp
          obtain ⟨X, hXe⟩ : ∃ X, (wn6).heap.size = X := ⟨_, rfl⟩
          have hXle : B0 ≤ X := by rw [← hXe]; exact Nat.le_trans hBle.out hbn.size
          have hX : Blk ((wn6).alloc (.cells #[.slice none 0 0, .slice none 0 0] 56)) X 56 #[.slice none 0 0, .slice none 0 0] := by rw [← hXe]; exact blk_new _ _ _
          have hbv : Below (wn6).heap.size (wn6) ((wn6).alloc (.cells #[.slice none 0 0, .slice none 0 0] 56)) := box_below _ _
          replace hG := blk_on hG hbv (blk_lt hG)
          replace hbn := fb2 hbn hbv hBle.out
          clear hbv
          (try simp only [World.size_alloc] at hXe)
          have HXE := Lib.hid hXe
          clear hXe
          refine hK.out _ _ ?_ (fun hHeld => ?_)
          · (try dsimp only); (first | exact hbn | exact hbn.drew)
          clear hK K
          (try rw [HXE.out])
          (try simp only [Act.put, List.setIfInBounds_toArray, List.set_cons_zero, List.set_cons_succ])
          refine wpAnyH_ready (rs := [1]) (by kernel_rfl) (by simp) ?_
          refine AllReadyH.cons rfl (fun K hK => ?_) AllReadyH.nil
          · go_simp
            refine (hvars.out _).mono ?_
            rintro e wn10 ⟨vv, rfl, hV, hbv⟩
            (try replace hbv := from_drew hbv)
            replace hV := owns_base hV (show B0 ≤ _ from Nat.le_trans hBle.out hbn.size)
            obtain ⟨va, vc, rfl⟩ := owns_slice hV
            replace hG := blk_on hG hbv (blk_lt hG)
            replace hX := blk_on hX hbv (blk_lt hX)
            replace hbn := fb2 hbn hbv hBle.out
            clear hbv
            go_wp2_with fail
            refine hK.out _ _ ?_ (fun hHeld => ?_)
            · (try dsimp only); (first | exact hbn | exact hbn.drew)
            clear hK K
            (try simp only [Act.put, List.setIfInBounds_toArray, List.set_cons_zero, List.set_cons_succ])
            refine wpAnyH_take (i := 5) (oi := ⟨some 27, _, _, _, _, _⟩) (v := ?_) rfl (by kernel_rfl) (by kernel_rfl) (by kernel_rfl) (fun _ _ _ h => h) (Or.inl ⟨by kernel_rfl, ?_⟩) (by assumption) ?_
            rotate_left
            · (intro ww hSw; (try dsimp only at hSw); go_simp); (try with_reducible rfl)
            (try simp only [Act.put, List.setIfInBounds_toArray, List.set_cons_zero, List.set_cons_succ])
            first
              | (obtain ⟨WW, hWW⟩ : ∃ WW, ((wn10).drewN 3) = WW := ⟨_, rfl⟩; rw [hWW]; have hV' : WW.ownsRow B0 9 1 (.slice va (varsL p).length vc) (varsL p).length (textCells (varsL p)) := (by rw [← hWW]; exact hV); have hG' : Blk WW G 65 (List.replicate N nilV).toArray := (by rw [← hWW]; exact hG); have hX' : Blk WW X 56 #[.slice none 0 0, .slice none 0 0] := (by rw [← hWW]; exact hX); have hb' : Below B0 W0 WW := (by rw [← hWW]; exact drewN_below hbn 3); exact Eq.mp (by kernel_rfl) (KEY WW va vc G X ⟨hV', hG', hX', hGle, hXle, hb'⟩))
              | (obtain ⟨WW, hWW⟩ : ∃ WW, ((wn10).drewN 2) = WW := ⟨_, rfl⟩; rw [hWW]; have hV' : WW.ownsRow B0 9 1 (.slice va (varsL p).length vc) (varsL p).length (textCells (varsL p)) := (by rw [← hWW]; exact hV); have hG' : Blk WW G 65 (List.replicate N nilV).toArray := (by rw [← hWW]; exact hG); have hX' : Blk WW X 56 #[.slice none 0 0, .slice none 0 0] := (by rw [← hWW]; exact hX); have hb' : Below B0 W0 WW := (by rw [← hWW]; exact drewN_below hbn 2); exact Eq.mp (by kernel_rfl) (KEY WW va vc G X ⟨hV', hG', hX', hGle, hXle, hb'⟩))
              | (obtain ⟨WW, hWW⟩ : ∃ WW, ((wn10).drew.drew) = WW := ⟨_, rfl⟩; rw [hWW]; have hV' : WW.ownsRow B0 9 1 (.slice va (varsL p).length vc) (varsL p).length (textCells (varsL p)) := (by rw [← hWW]; exact hV); have hG' : Blk WW G 65 (List.replicate N nilV).toArray := (by rw [← hWW]; exact hG); have hX' : Blk WW X 56 #[.slice none 0 0, .slice none 0 0] := (by rw [← hWW]; exact hX); have hb' : Below B0 W0 WW := (by rw [← hWW]; exact hbn.drew.drew); exact Eq.mp (by kernel_rfl) (KEY WW va vc G X ⟨hV', hG', hX', hGle, hXle, hb'⟩))
              | (obtain ⟨WW, hWW⟩ : ∃ WW, ((wn10).drew) = WW := ⟨_, rfl⟩; rw [hWW]; have hV' : WW.ownsRow B0 9 1 (.slice va (varsL p).length vc) (varsL p).length (textCells (varsL p)) := (by rw [← hWW]; exact hV); have hG' : Blk WW G 65 (List.replicate N nilV).toArray := (by rw [← hWW]; exact hG); have hX' : Blk WW X 56 #[.slice none 0 0, .slice none 0 0] := (by rw [← hWW]; exact hX); have hb' : Below B0 W0 WW := (by rw [← hWW]; exact hbn.drew); exact Eq.mp (by kernel_rfl) (KEY WW va vc G X ⟨hV', hG', hX', hGle, hXle, hb'⟩))
              | (obtain ⟨WW, hWW⟩ : ∃ WW, (wn10) = WW := ⟨_, rfl⟩; rw [hWW]; have hV' : WW.ownsRow B0 9 1 (.slice va (varsL p).length vc) (varsL p).length (textCells (varsL p)) := (by rw [← hWW]; exact hV); have hG' : Blk WW G 65 (List.replicate N nilV).toArray := (by rw [← hWW]; exact hG); have hX' : Blk WW X 56 #[.slice none 0 0, .slice none 0 0] := (by rw [← hWW]; exact hX); have hb' : Below B0 W0 WW := (by rw [← hWW]; exact hbn); exact Eq.mp (by kernel_rfl) (KEY WW va vc G X ⟨hV', hG', hX', hGle, hXle, hb'⟩))
      · go_simp
        obtain ⟨X, hXe⟩ : ∃ X, (W0).heap.size = X := ⟨_, rfl⟩
        have hXle : B0 ≤ X := by rw [← hXe]; exact Nat.le_trans hBle.out hbn.size
        have hX : Blk ((W0).alloc (.cells #[.slice none 0 0, .slice none 0 0] 56)) X 56 #[.slice none 0 0, .slice none 0 0] := by rw [← hXe]; exact blk_new _ _ _
        have hbv : Below (W0).heap.size (W0) ((W0).alloc (.cells #[.slice none 0 0, .slice none 0 0] 56)) := box_below _ _
        replace hbn := fb2 hbn hbv hBle.out
        clear hbv
        (try simp only [World.size_alloc] at hXe)
        have HXE := Lib.hid hXe
        clear hXe
        refine hK.out _ _ ?_ (fun hHeld => ?_)
        · (try dsimp only); (first | exact hbn | exact hbn.drew)
        clear hK K
        (try rw [HXE.out])
        (try simp only [Act.put, List.setIfInBounds_toArray, List.set_cons_zero, List.set_cons_succ])
        refine wpAnyH_ready (rs := [1, 4]) (by kernel_rfl) (by simp) ?_
        refine AllReadyH.cons rfl (fun K hK => ?_) (AllReadyH.cons rfl (fun K hK => ?_) AllReadyH.nil)
        · go_simp
          refine (hvars.out _).mono ?_
          rintro e wn12 ⟨vv, rfl, hV, hbv⟩
          (try replace hbv := from_drew hbv)
          replace hV := owns_base hV (show B0 ≤ _ from Nat.le_trans hBle.out hbn.size)
          obtain ⟨va, vc, rfl⟩ := owns_slice hV
          replace hX := blk_on hX hbv (blk_lt hX)
          replace hbn := fb2 hbn hbv hBle.out
          clear hbv
          go_wp2_with fail
          refine hK.out _ _ ?_ (fun hHeld => ?_)
          · (try dsimp only); (first | exact hbn | exact hbn.drew)
          clear hK K
          (try simp only [Act.put, List.setIfInBounds_toArray, List.set_cons_zero, List.set_cons_succ])
          refine wpAnyH_ready (rs := [4]) (by kernel_rfl) (by simp) ?_
          refine AllReadyH.cons rfl (fun K hK => ?_) AllReadyH.nil
          · obtain ⟨G, hGe⟩ : ∃ G, (wn12).heap.size = G := ⟨_, rfl⟩
            have hGle : B0 ≤ G := by rw [← hGe]; exact Nat.le_trans hBle.out hbn.size
            refine wp_make_blk (.tmp 25) (.tmp 25) 54 rfl 65 i0 (.slice none 0 0) 1 Tryz.underlying54 hi hz0 hz1 .i64 .i64 N (by kernel_rfl) (by kernel_rfl) (by rw [hz2]; omega) (by unfold maxLen; omega) G hGe ?_
            intro wn13 hG hbv
            rw [made_rows] at hG
            (try replace hbv := from_drew hbv)
            replace hV := owns_on hV hbv (Nat.le_refl _)
            replace hX := blk_on hX hbv (blk_lt hX)
            replace hbn := fb2 hbn hbv hBle.out
            clear hbv
            clear hGe
            change K (Act.put _ (some 26) _) _
            refine hK.out _ _ ?_ (fun hHeld => ?_)
            · (try dsimp only); (first | exact hbn | exact hbn.drew)
            clear hK K
            (try simp only [Act.put, List.setIfInBounds_toArray, List.set_cons_zero, List.set_cons_succ])
            refine wpAnyH_take (i := 5) (oi := ⟨some 27, _, _, _, _, _⟩) (v := ?_) rfl (by kernel_rfl) (by kernel_rfl) (by kernel_rfl) (fun _ _ _ h => h) (Or.inl ⟨by kernel_rfl, ?_⟩) (by assumption) ?_
            rotate_left
            · (intro ww hSw; (try dsimp only at hSw); go_simp); (try with_reducible rfl)
            (try simp only [Act.put, List.setIfInBounds_toArray, List.set_cons_zero, List.set_cons_succ])
            first
              | (obtain ⟨WW, hWW⟩ : ∃ WW, ((wn13).drewN 3) = WW := ⟨_, rfl⟩; rw [hWW]; have hV' : WW.ownsRow B0 9 1 (.slice va (varsL p).length vc) (varsL p).length (textCells (varsL p)) := (by rw [← hWW]; exact hV); have hG' : Blk WW G 65 (List.replicate N nilV).toArray := (by rw [← hWW]; exact hG); have hX' : Blk WW X 56 #[.slice none 0 0, .slice none 0 0] := (by rw [← hWW]; exact hX); have hb' : Below B0 W0 WW := (by rw [← hWW]; exact drewN_below hbn 3); exact Eq.mp (by kernel_rfl) (KEY WW va vc G X ⟨hV', hG', hX', hGle, hXle, hb'⟩))
              | (obtain ⟨WW, hWW⟩ : ∃ WW, ((wn13).drewN 2) = WW := ⟨_, rfl⟩; rw [hWW]; have hV' : WW.ownsRow B0 9 1 (.slice va (varsL p).length vc) (varsL p).length (textCells (varsL p)) := (by rw [← hWW]; exact hV); have hG' : Blk WW G 65 (List.replicate N nilV).toArray := (by rw [← hWW]; exact hG); have hX' : Blk WW X 56 #[.slice none 0 0, .slice none 0 0] := (by rw [← hWW]; exact hX); have hb' : Below B0 W0 WW := (by rw [← hWW]; exact drewN_below hbn 2); exact Eq.mp (by kernel_rfl) (KEY WW va vc G X ⟨hV', hG', hX', hGle, hXle, hb'⟩))
              | (obtain ⟨WW, hWW⟩ : ∃ WW, ((wn13).drew.drew) = WW := ⟨_, rfl⟩; rw [hWW]; have hV' : WW.ownsRow B0 9 1 (.slice va (varsL p).length vc) (varsL p).length (textCells (varsL p)) := (by rw [← hWW]; exact hV); have hG' : Blk WW G 65 (List.replicate N nilV).toArray := (by rw [← hWW]; exact hG); have hX' : Blk WW X 56 #[.slice none 0 0, .slice none 0 0] := (by rw [← hWW]; exact hX); have hb' : Below B0 W0 WW := (by rw [← hWW]; exact hbn.drew.drew); exact Eq.mp (by kernel_rfl) (KEY WW va vc G X ⟨hV', hG', hX', hGle, hXle, hb'⟩))
              | (obtain ⟨WW, hWW⟩ : ∃ WW, ((wn13).drew) = WW := ⟨_, rfl⟩; rw [hWW]; have hV' : WW.ownsRow B0 9 1 (.slice va (varsL p).length vc) (varsL p).length (textCells (varsL p)) := (by rw [← hWW]; exact hV); have hG' : Blk WW G 65 (List.replicate N nilV).toArray := (by rw [← hWW]; exact hG); have hX' : Blk WW X 56 #[.slice none 0 0, .slice none 0 0] := (by rw [← hWW]; exact hX); have hb' : Below B0 W0 WW := (by rw [← hWW]; exact hbn.drew); exact Eq.mp (by kernel_rfl) (KEY WW va vc G X ⟨hV', hG', hX', hGle, hXle, hb'⟩))
              | (obtain ⟨WW, hWW⟩ : ∃ WW, (wn13) = WW := ⟨_, rfl⟩; rw [hWW]; have hV' : WW.ownsRow B0 9 1 (.slice va (varsL p).length vc) (varsL p).length (textCells (varsL p)) := (by rw [← hWW]; exact hV); have hG' : Blk WW G 65 (List.replicate N nilV).toArray := (by rw [← hWW]; exact hG); have hX' : Blk WW X 56 #[.slice none 0 0, .slice none 0 0] := (by rw [← hWW]; exact hX); have hb' : Below B0 W0 WW := (by rw [← hWW]; exact hbn); exact Eq.mp (by kernel_rfl) (KEY WW va vc G X ⟨hV', hG', hX', hGle, hXle, hb'⟩))
        · obtain ⟨G, hGe⟩ : ∃ G, (((W0).alloc (.cells #[.slice none 0 0, .slice none 0 0] 56))).heap.size = G := ⟨_, rfl⟩
          have hGle : B0 ≤ G := by rw [← hGe]; exact Nat.le_trans hBle.out hbn.size
          refine wp_make_blk (.tmp 25) (.tmp 25) 54 rfl 65 i0 (.slice none 0 0) 1 Tryz.underlying54 hi hz0 hz1 .i64 .i64 N (by kernel_rfl) (by kernel_rfl) (by rw [hz2]; omega) (by unfold maxLen; omega) G hGe ?_
          intro wn14 hG hbv
          rw [made_rows] at hG
          (try replace hbv := from_drew hbv)
          replace hX := blk_on hX hbv (blk_lt hX)
          replace hbn := fb2 hbn hbv hBle.out
          clear hbv
          clear hGe
          change K (Act.put _ (some 26) _) _
          refine hK.out _ _ ?_ (fun hHeld => ?_)
          · (try dsimp only); (first | exact hbn | exact hbn.drew)
          clear hK K
          (try simp only [Act.put, List.setIfInBounds_toArray, List.set_cons_zero, List.set_cons_succ])
          refine wpAnyH_ready (rs := [1]) (by kernel_rfl) (by simp) ?_
          refine AllReadyH.cons rfl (fun K hK => ?_) AllReadyH.nil
          · go_simp
            refine (hvars.out _).mono ?_
            rintro e wn15 ⟨vv, rfl, hV, hbv⟩
            (try replace hbv := from_drew hbv)
            replace hV := owns_base hV (show B0 ≤ _ from Nat.le_trans hBle.out hbn.size)
            obtain ⟨va, vc, rfl⟩ := owns_slice hV
            replace hG := blk_on hG hbv (blk_lt hG)
            replace hX := blk_on hX hbv (blk_lt hX)
            replace hbn := fb2 hbn hbv hBle.out
            clear hbv
            go_wp2_with fail
            refine hK.out _ _ ?_ (fun hHeld => ?_)
            · (try dsimp only); (first | exact hbn | exact hbn.drew)
            clear hK K
            (try simp only [Act.put, List.setIfInBounds_toArray, List.set_cons_zero, List.set_cons_succ])
            refine wpAnyH_take (i := 5) (oi := ⟨some 27, _, _, _, _, _⟩) (v := ?_) rfl (by kernel_rfl) (by kernel_rfl) (by kernel_rfl) (fun _ _ _ h => h) (Or.inl ⟨by kernel_rfl, ?_⟩) (by assumption) ?_
            rotate_left
            · (intro ww hSw; (try dsimp only at hSw); go_simp); (try with_reducible rfl)
            (try simp only [Act.put, List.setIfInBounds_toArray, List.set_cons_zero, List.set_cons_succ])
            first
              | (obtain ⟨WW, hWW⟩ : ∃ WW, ((wn15).drewN 3) = WW := ⟨_, rfl⟩; rw [hWW]; have hV' : WW.ownsRow B0 9 1 (.slice va (varsL p).length vc) (varsL p).length (textCells (varsL p)) := (by rw [← hWW]; exact hV); have hG' : Blk WW G 65 (List.replicate N nilV).toArray := (by rw [← hWW]; exact hG); have hX' : Blk WW X 56 #[.slice none 0 0, .slice none 0 0] := (by rw [← hWW]; exact hX); have hb' : Below B0 W0 WW := (by rw [← hWW]; exact drewN_below hbn 3); exact Eq.mp (by kernel_rfl) (KEY WW va vc G X ⟨hV', hG', hX', hGle, hXle, hb'⟩))
              | (obtain ⟨WW, hWW⟩ : ∃ WW, ((wn15).drewN 2) = WW := ⟨_, rfl⟩; rw [hWW]; have hV' : WW.ownsRow B0 9 1 (.slice va (varsL p).length vc) (varsL p).length (textCells (varsL p)) := (by rw [← hWW]; exact hV); have hG' : Blk WW G 65 (List.replicate N nilV).toArray := (by rw [← hWW]; exact hG); have hX' : Blk WW X 56 #[.slice none 0 0, .slice none 0 0] := (by rw [← hWW]; exact hX); have hb' : Below B0 W0 WW := (by rw [← hWW]; exact drewN_below hbn 2); exact Eq.mp (by kernel_rfl) (KEY WW va vc G X ⟨hV', hG', hX', hGle, hXle, hb'⟩))
              | (obtain ⟨WW, hWW⟩ : ∃ WW, ((wn15).drew.drew) = WW := ⟨_, rfl⟩; rw [hWW]; have hV' : WW.ownsRow B0 9 1 (.slice va (varsL p).length vc) (varsL p).length (textCells (varsL p)) := (by rw [← hWW]; exact hV); have hG' : Blk WW G 65 (List.replicate N nilV).toArray := (by rw [← hWW]; exact hG); have hX' : Blk WW X 56 #[.slice none 0 0, .slice none 0 0] := (by rw [← hWW]; exact hX); have hb' : Below B0 W0 WW := (by rw [← hWW]; exact hbn.drew.drew); exact Eq.mp (by kernel_rfl) (KEY WW va vc G X ⟨hV', hG', hX', hGle, hXle, hb'⟩))
              | (obtain ⟨WW, hWW⟩ : ∃ WW, ((wn15).drew) = WW := ⟨_, rfl⟩; rw [hWW]; have hV' : WW.ownsRow B0 9 1 (.slice va (varsL p).length vc) (varsL p).length (textCells (varsL p)) := (by rw [← hWW]; exact hV); have hG' : Blk WW G 65 (List.replicate N nilV).toArray := (by rw [← hWW]; exact hG); have hX' : Blk WW X 56 #[.slice none 0 0, .slice none 0 0] := (by rw [← hWW]; exact hX); have hb' : Below B0 W0 WW := (by rw [← hWW]; exact hbn.drew); exact Eq.mp (by kernel_rfl) (KEY WW va vc G X ⟨hV', hG', hX', hGle, hXle, hb'⟩))
              | (obtain ⟨WW, hWW⟩ : ∃ WW, (wn15) = WW := ⟨_, rfl⟩; rw [hWW]; have hV' : WW.ownsRow B0 9 1 (.slice va (varsL p).length vc) (varsL p).length (textCells (varsL p)) := (by rw [← hWW]; exact hV); have hG' : Blk WW G 65 (List.replicate N nilV).toArray := (by rw [← hWW]; exact hG); have hX' : Blk WW X 56 #[.slice none 0 0, .slice none 0 0] := (by rw [← hWW]; exact hX); have hb' : Below B0 W0 WW := (by rw [← hWW]; exact hbn); exact Eq.mp (by kernel_rfl) (KEY WW va vc G X ⟨hV', hG', hX', hGle, hXle, hb'⟩))
    case key =>
      rintro W va vc G X ⟨hV, hG, hX, hGle, hXle, hbn⟩
      refine wpAnyH_ready (rs := [7]) (by kernel_rfl) (by simp) ?_
      refine AllReadyH.cons rfl (fun K hK => ?_) AllReadyH.nil
      obtain ⟨W4, hW4⟩ : ∃ W4, W.setRow X #[.slice va (varsL p).length vc, .slice (some ⟨G, 0, none⟩) N N] = W4 := ⟨_, rfl⟩
      refine wp_store_row 56 (.tmp 8) (.tmp 27) rfl X #[.slice va (varsL p).length vc, .slice (some ⟨G, 0, none⟩) N N] (by kernel_rfl) (by kernel_rfl) 56 #[.slice none 0 0, .slice none 0 0] hX (by kernel_rfl) rfl (by kernel_rfl) ?_
      rw [hW4]
      have hgr : W.grownBy W4 (some X) := by rw [← hW4]; exact grown_set _ _ _
      have hX4 : Blk W4 X 56 #[.slice va (varsL p).length vc, .slice (some ⟨G, 0, none⟩) N N] := by rw [← hW4]; exact blk_row hX _
      have hV4 := owns_set hV hX str_tab hgr
      have hG4 := blk_grown hG hX row_tab hgr
      have hbn4 : Below B0 W0 W4 := hbn.grown hgr (Nat.le_trans hBle.out hbn.size) (fun k hk => by injection hk with hk; omega)
      clear hW4 hgr hV hG hX
      change K (Act.put _ none undef) _
      refine hK.out _ _ ?_ (fun hHeld => ?_)
      · (try dsimp only); first | exact hbn4 | exact hbn4.drew
      clear hK K
      (try simp only [Act.put])
      refine wpAnyH_done (by kernel_rfl) ?_ _
      have bx4 := Lib.hid (box_on bx2.out hbn4 hx0.out)
      obtain ⟨⟨c0, c1, c2, c3⟩, ⟨c4, c5, c6, c7⟩, ⟨c8, c9, c10, c11⟩⟩ := bx4.out
      go_wp2_with fail
      refine (hfirst.out _).mono ?_
      rintro e W5 ⟨cv, rfl, hcv, hb5⟩
      clear c0 c1 c2 c3 c4 c5 c6 c7 c8 c9 c10 c11
      (try replace hb5 := from_drew hb5)
      have HX5 := Lib.hid (blk_on hX4 hb5 (blk_lt hX4))
      have HR5 := Lib.hid (rows_start (p := p) (M := M) (n := (varsL p).length) (B := B0) (blk_on hG4 hb5 (blk_lt hG4)))
      have HV5 := Lib.hid (owns_on hV4 hb5 (Nat.le_refl _))
      have HC5 := Lib.hid (owns_base hcv (show B0 ≤ _ from Nat.le_trans hBle.out hbn4.size))
      have HB5 := Lib.hid (fb2 hbn4 hb5 hBle.out)
      clear hX4 hG4 hV4 hcv hb5 hbn4 hbn
      have HRC := Lib.hid (fun (y : TripL) (W : World) (hv : Reads W cv (fpN p 3).length (intCells (fpN p 3))) => row_calls y (fpN p 3) cv W (fpN_length p 3) (fpN_lt p 3) hv)
      go_wp2
      go_loopw [32] (fun i wr => MatchR p M N B0 G X va vc cv W0 i wr) (fun i _ => N - (intOf i).toNat)
      case atStart => exact ⟨0, Nat.zero_le _, rfl, HR5.out, HX5.out, HV5.out, HC5.out, HB5.out⟩
      case round =>
        obtain ⟨k, hk, rfl, hR, hX, hV, hC, hbw⟩ := hrel
        by_cases hlt : k < N
        · obtain ⟨g, rfl, hg, hcap, hrow⟩ := HF.out (by omega)
          have hkM : k < M.length := by rw [HNE.out]; exact hlt
          have g1 : (0 : Int) ≤ (k : Int) := by omega
          have g2 : (k : Int) < (N : Int) := by omega
          have hgB : g < B0 := by rw [← HB0.out]; exact hg
          have hgr : g < wr.heap.size := Nat.lt_of_lt_of_le hg hbw.size
          have cm := Lib.hid (cells_on (hrow k hkM) hbw hgB)
          have MK := Lib.hid (List.getElem?_eq_getElem hkM)
          generalize M[k] = y at cm MK
          have HR := Lib.hid hR
          have HX := Lib.hid hX
          have HV := Lib.hid hV
          have HC := Lib.hid hC
          have HBW := Lib.hid hbw
          have hle : B0 ≤ wr.heap.size := Nat.le_trans hBle.out hbw.size
          have HLE := Lib.hid hle
          clear hR hX hV hC hbw hrow hle
          obtain ⟨⟨c0, c1, c2, c3⟩, ⟨c4, c5, c6, c7⟩, ⟨c8, c9, c10, c11⟩⟩ := cm.out
          go_wp2_with fail
          clear c0 c1 c2 c3 c4 c5 c6 c7 c8 c9 c10 c11
          obtain ⟨W6, hW6⟩ : ∃ W6, wr.alloc (.cells #[.int .i64 y.s.k, .string (bs y.s.x), .string (bs y.s.y), .string (bs y.s.z), .int .i64 y.p.k, .string (bs y.p.x), .string (bs y.p.y), .string (bs y.p.z), .int .i64 y.o.k, .string (bs y.o.x), .string (bs y.o.y), .string (bs y.o.z)] 29) = W6 := ⟨_, rfl⟩
          rw [hW6]
          obtain ⟨Y, hY⟩ : ∃ Y, wr.heap.size = Y := ⟨_, rfl⟩
          have hY6 : Blk W6 Y 29 (cells12 y) := by rw [← hW6, ← hY]; exact blk_new _ _ _
          have hb6 : Below wr.heap.size wr W6 := by rw [← hW6]; exact box_below _ _
          have hR6 := rows_on HR.out hb6 (Nat.le_refl _)
          have hX6 := blk_on HX.out hb6 (blk_lt HX.out)
          have hV6 := owns_on HV.out hb6 (Nat.le_refl _)
          have hC6 := owns_on HC.out hb6 (Nat.le_refl _)
          have hB6 := fb2 HBW.out hb6 hBle.out
          rw [hY]
          clear hW6 hY hb6 HR HX HV HC
          refine wp_region_held_drew (S := (fun W => Below B0 W0 W ∧ Blk W X 56 #[.slice va (varsL p).length vc, .slice (some ⟨G, 0, none⟩) N N] ∧ Blk W Y 29 (cells12 y))) (by kernel_rfl) ?_ (fun hHeld => ?_)
          · (try dsimp only); first | exact ⟨hB6, hX6, hY6⟩ | exact ⟨hB6.drew, hX6, hY6⟩
          refine wpAnyH_take (i := 0) (oi := ⟨some 37, _, _, _, _, _⟩) (v := ?_) rfl (by kernel_rfl) (by kernel_rfl) (by kernel_rfl) (fun _ _ _ h => h) (Or.inl ⟨by kernel_rfl, ?_⟩) (by assumption) ?_
          rotate_left
          · (intro ww hSw; (try dsimp only at hSw); go_simp); (try with_reducible rfl)
          (try simp only [Act.put, List.setIfInBounds_toArray, List.set_cons_zero, List.set_cons_succ])
          refine wpAnyH_take (i := 1) (oi := ⟨some 38, _, _, _, _, _⟩) (v := ?_) rfl (by kernel_rfl) (by kernel_rfl) (by kernel_rfl) (fun _ _ _ h => h) (Or.inl ⟨by kernel_rfl, ?_⟩) (by assumption) ?_
          rotate_left
          · (intro ww hSw; (try dsimp only at hSw); have cX : ww.cell? ⟨X, 1, none⟩ = some (.slice (some ⟨G, 0, none⟩) N N) := (by rw [blk_cell hSw.2.1]; rfl); go_simp); (try with_reducible rfl)
          (try simp only [Act.put, List.setIfInBounds_toArray, List.set_cons_zero, List.set_cons_succ])
          refine wpAnyH_take (i := 2) (oi := ⟨some 39, _, _, _, _, _⟩) (v := ?_) rfl (by kernel_rfl) (by kernel_rfl) (by kernel_rfl) (fun _ _ _ h => h) (Or.inl ⟨by kernel_rfl, ?_⟩) (by assumption) ?_
          rotate_left
          · (intro ww hSw; (try dsimp only at hSw); go_simp); (try with_reducible rfl)
          (try simp only [Act.put, List.setIfInBounds_toArray, List.set_cons_zero, List.set_cons_succ])
          refine wpAnyH_take (i := 3) (oi := ⟨some 40, _, _, _, _, _⟩) (v := ?_) rfl (by kernel_rfl) (by kernel_rfl) (by kernel_rfl) (fun _ _ _ h => h) (Or.inl ⟨by kernel_rfl, ?_⟩) (by assumption) ?_
          rotate_left
          · (intro ww hSw; (try dsimp only at hSw); obtain ⟨⟨c0, c1, c2, c3⟩, ⟨c4, c5, c6, c7⟩, ⟨c8, c9, c10, c11⟩⟩ := box12_of hSw.2.2; go_simp); (try with_reducible rfl)
          (try simp only [Act.put, List.setIfInBounds_toArray, List.set_cons_zero, List.set_cons_succ])
          refine wpAnyH_take (i := 4) (oi := ⟨some 41, _, _, _, _, _⟩) (v := ?_) rfl (by kernel_rfl) (by kernel_rfl) (by kernel_rfl) (fun _ _ _ h => h) (Or.inl ⟨by kernel_rfl, ?_⟩) (by assumption) ?_
          rotate_left
          · (intro ww hSw; (try dsimp only at hSw); go_simp); (try with_reducible rfl)
          (try simp only [Act.put, List.setIfInBounds_toArray, List.set_cons_zero, List.set_cons_succ])
          refine wpAnyH_ready (rs := [5]) (by kernel_rfl) (by simp) ?_
          refine AllReadyH.cons rfl (fun K hK => ?_) AllReadyH.nil
          go_simp
          refine (HRC.out y _ (by first | exact reads_of hC6 | exact reads_of (own_drew hC6))).mono ?_
          rintro e W7 ⟨g7, rfl, hg7, hrow7, hb7⟩
          (try replace hb7 := from_drew hb7)
          rw [show ((fpN p 3).map (at3 y)).length = (varsL p).length by rw [List.length_map, FP.out]]
          have hR7 := rows_on hR6 hb7 (Nat.le_refl _)
          have hX7 := blk_on hX6 hb7 (blk_lt hX6)
          have hY7 := blk_on hY6 hb7 (blk_lt hY6)
          have hV7 := owns_on hV6 hb7 (Nat.le_refl _)
          have hC7 := owns_on hC6 hb7 (Nat.le_refl _)
          have hB7 := fb2 hB6 hb7 hBle.out
          obtain ⟨xs, ys, hxs, hxl, hxe, hmore⟩ := rows_more hR7 hlt MK.out hrow7 (show B0 ≤ g7 from Nat.le_trans hBle.out (Nat.le_trans hB6.size hg7))
          go_wp2_with fail
          refine hK.out _ _ ?_ (fun hHeld => ?_)
          · (try dsimp only); first | exact ⟨hB7, hX7, hY7⟩ | exact ⟨hB7.drew, hX7, hY7⟩
          clear hK K
          (try simp only [Act.put, List.setIfInBounds_toArray, List.set_cons_zero, List.set_cons_succ])
          refine wpAnyH_take (i := 6) (oi := ⟨some 43, _, _, _, _, _⟩) (v := .pointer (some ⟨G, k, none⟩)) rfl (by kernel_rfl) (by kernel_rfl) (by kernel_rfl) (fun _ _ _ h => h) (Or.inl ⟨by kernel_rfl, ?_⟩) (by assumption) ?_
          · (intro ww hSw; (try dsimp only at hSw); go_simp)
          (try simp only [Act.put, List.setIfInBounds_toArray, List.set_cons_zero, List.set_cons_succ])
          refine wpAnyH_ready (rs := [7]) (by kernel_rfl) (by simp) ?_
          refine AllReadyH.cons rfl (fun K hK => ?_) AllReadyH.nil
          refine wp_store_one 65 (.tmp 43) (.tmp 42) rfl G k (rowV (varsL p).length g7) (by kernel_rfl) (by kernel_rfl) rfl rfl 65 xs ys hxs (by kernel_rfl) hxl hxe ?_
          intro W8 hG8 hgr8
          have hR8 := hmore W8 hG8 hgr8
          have hX8 := blk_grown hX7 hxs tab_row hgr8
          have hY8 := blk_grown hY7 hxs trip_row hgr8
          have hV8 := owns_set hV7 hxs str_row hgr8
          have hC8 := owns_set hC7 hxs int_row hgr8
          have hB8 : Below B0 W0 W8 := hB7.grown hgr8 (Nat.le_trans hBle.out hB7.size) (fun k hk => by injection hk with hk; omega)
          change K (Act.put _ none undef) _
          refine hK.out _ _ ?_ (fun hHeld => ?_)
          · (try dsimp only); first | exact ⟨hB8, hX8, hY8⟩ | exact ⟨hB8.drew, hX8, hY8⟩
          clear hK K
          (try simp only [Act.put])
          refine wpAnyH_done (by kernel_rfl) ?_ _
          go_wp2
          go_roundw
          case rel => exact ⟨k + 1, by omega, by go_num, hR8, hX8, hV8, hC8, by first | exact hB8 | exact hB8.drew⟩
          case measure => simp [intOf]; omega
        · have hkN : k = N := by omega
          rw [hkN] at hR
          have g3 : ¬ ((k : Int) < (N : Int)) := by omega
          have hA : Blk wr A 56 #[.slice none 0 0, .slice none 0 0] := blk_on HA2.out hbw (by rw [← HB0.out]; exact blk_lt HA2.out)
          have q0 : wr.cell? ⟨X, 0, none⟩ = some (.slice va (varsL p).length vc) := by rw [blk_cell hX]; rfl
          have q1 : wr.cell? ⟨X, 1, none⟩ = some (.slice (some ⟨G, 0, none⟩) N N) := by rw [blk_cell hX]; rfl
          have HR := Lib.hid hR
          have HV := Lib.hid hV
          have HBW := Lib.hid hbw
          clear hR hV hbw hC hX
          go_wp2_with (refine whole_abs 56 (.tmp 4) (.tmp 45) ⟨rfl, rfl⟩ A #[.slice va (varsL p).length vc, .slice (some ⟨G, 0, none⟩) N N] (by kernel_rfl) (by kernel_rfl) 56 #[.slice none 0 0, .slice none 0 0] (by first | exact hA | exact blkDrew hA) (by kernel_rfl) rfl (by kernel_rfl) ?_; intro w9 hA9 hG9)
          have hb9 : Below w.heap.size w w9 := (bs2.out.trans (HBW.out.mono (by have := hB2.out; omega))).grown hG9.out (Nat.le_trans bs2.out.size HBW.out.size) (fun k hk => by injection hk with hk; have := HAE.out; omega)
          have hV9 := owns_base (owns_set HV.out hA str_tab hG9.out) (show w.heap.size ≤ B0 by have := hB2.out; omega)
          have hR9 := rows_base (rows_set HR.out hA hG9.out) (show w.heap.size ≤ B0 by have := hB2.out; omega)
          exact match_ret _ _ A _ _ _ _ (by first | rfl | simp) (by first | rfl | simp) (by first | exact hA9.out | exact blkDrew hA9.out) ⟨by first | exact hb9 | exact hb9.drew, by (try rw [hq]); rw [if_pos rfl, HME.out]; exact ⟨_, rfl, _, G, by rw [HNE.out], hV9, (by have := hB2.out; omega), by rw [HNE.out]; exact hR9⟩⟩

end Go.Proofs.YtnojdchodmogbaaGreat
