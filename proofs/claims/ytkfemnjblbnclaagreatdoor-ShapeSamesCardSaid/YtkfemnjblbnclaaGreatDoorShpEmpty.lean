/- A table of n rows of nothing, in new memory: package shape's empty (written by gen/mkempty12.py). -/
import Derived.Test.YtkfemnjblbnclaaGreatDoorShpLaws
namespace Go.Proofs.YtkfemnjblbnclaaGreatDoor
open Go.RowKit

theorem add_at (g o j : Nat) : (⟨g, o, none⟩ : Addr).add j = ⟨g, o + j, none⟩ := by unfold Addr.add; split <;> simp_all
theorem TrmA.flat {w : World} {a : Option Addr} {n c : Nat} {L : List TermL} (h : TrmA w a n c L) (h0 : 0 < n) : ∃ g o, a = some ⟨g, o, none⟩ ∧ g < w.heap.size ∧ ∀ j v, (cellsT L)[j]? = some v → w.cell? ⟨g, o + j, none⟩ = some v := by
  obtain ⟨g, o, e, hg, hc⟩ := h.cells h0
  refine ⟨g, o, e, hg, fun j v hv => ?_⟩
  have hl : j < L.length * 4 := by rw [← cellsT_length]; exact (List.getElem?_eq_some_iff.1 hv).1
  have hq : j / 4 < L.length := by omega
  have ej : j = j / 4 * 4 + j % 4 := by omega
  rw [ej, cellsT_at L _ hq _ (Nat.mod_lt _ (by omega))] at hv
  obtain ⟨c0, c1, c2, c3⟩ := hc (j / 4) hq
  have hr : j % 4 < 4 := Nat.mod_lt _ (by omega)
  have e2 : o + j = o + j / 4 * 4 + j % 4 := by omega
  rw [e2]
  generalize j % 4 = r at hv hr
  rcases (by omega : r = 0 ∨ r = 1 ∨ r = 2 ∨ r = 3) with rfl | rfl | rfl | rfl
  · rw [← hv]; exact c0
  · rw [← hv]; exact c1
  · rw [← hv]; exact c2
  · rw [← hv]; exact c3
/- a copy into a row that is known whole -/
theorem copy_abs {ops : Array Oper} {rest : List Oper} {o : Oper} {a : Act} {w : World} {Q : Exit → Act → World → Prop} (d s : Operand) (dT sT : TypeId)
    (ho : o.op = .call { callee := .builtin .copy, args := #[d, s], argTypes := #[dT, sT] } ∧ o.guard = none) (elem : TypeId) (i : TypeInfo) (hu : Tryz.prog.underlying dT = some (.slice elem)) (hi : Tryz.prog.info? elem = some i)
    (g off dLen dCap : Nat) (sa : Option Addr) (sLen sCap m : Nat) (hd : a.eval d = .slice (some ⟨g, off, none⟩) dLen dCap) (hs : a.eval s = .slice sa sLen sCap) (hm : Nat.min sLen dLen = m)
    (T : TypeId) (xs ys cs : List Value) (hg : Blk w g T xs.toArray) (hn : cs.length = m * i.size) (hsrc : 0 < m → ∃ ad, sa = some ad ∧ ∀ j v, cs[j]? = some v → w.cell? (ad.add j) = some v)
    (e : xs.take off ++ cs ++ xs.drop (off + cs.length) = ys) (hfit : off + cs.length ≤ xs.length) (h1 : ∀ v ∈ cs, v.oneCell' = true)
    (h : ∀ w', Hid (Blk w' g T ys.toArray) → Hid (w.grownBy w' (some g)) → wpList Tryz.prog ops Q rest (a.put o.dst (goInt m)) w') : wpList Tryz.prog ops Q (o :: rest) a w := by
  refine wpList_plain ho.2 fun K hK => ?_
  by_cases h0 : 0 < m
  · obtain ⟨ad, rfl, hc⟩ := hsrc h0
    refine wp_copy_sized d s dT sT ho.1 elem i hu hi g off dLen dCap ad sLen sCap m hd hs hm xs.toArray T hg cs hn hc (by simpa using hfit) h1 (hK _ _ (h _ ?_ (grown_set _ _ _)))
    show Blk _ _ _ _
    rw [List.toList_toArray, e]
    exact blk_row hg _
  · have hm0 : m = 0 := by omega
    subst hm0
    have hc0 : cs = [] := List.eq_nil_of_length_eq_zero (by rw [hn]; omega)
    subst hc0
    have e2 : ys = xs := by rw [← e]; simp
    subst e2
    exact wp_copy_zero d s dT sT ho.1 elem i hu hi _ _ dLen dCap sLen sCap hd hs hm (hK _ _ (h w hg (grown_refl _ _)))

theorem tab_row : 31 ≠ 51 := by decide
theorem tab_str : 31 ≠ 9 := by decide
theorem tab_trm : 31 ≠ 23 := by decide
theorem row_str : 51 ≠ 9 := by decide
theorem row_trm : 51 ≠ 23 := by decide
theorem str_trm : 9 ≠ 23 := by decide
def nilV : Value := .slice none 0 0
def cutV (G m o : Nat) : Value := .slice (some ⟨G, o, none⟩) m m
/- the rows that are cut out so far -/
def cutRows (G m n k : Nat) : List Value := (List.range k).map (fun i => cutV G m (i * m * 4)) ++ List.replicate (n - k) nilV
theorem cutRows_length {G m n k : Nat} (h : k ≤ n) : (cutRows G m n k).length = n := by unfold cutRows; rw [List.length_append, List.length_map, List.length_range, List.length_replicate]; omega
theorem cutRows_zero (G m n : Nat) : cutRows G m n 0 = List.replicate n nilV := rfl
theorem cutRows_next {G m n k : Nat} (h : k < n) : (cutRows G m n k).set k (cutV G m (k * m * 4)) = cutRows G m n (k + 1) := by
  unfold cutRows
  have e : ((List.range k).map (fun i => cutV G m (i * m * 4))).length = k := by simp
  obtain ⟨j, hj⟩ : ∃ j, n - k = j + 1 := ⟨n - k - 1, by omega⟩
  rw [hj, show n - (k + 1) = j by omega, List.replicate_succ, List.set_append_right _ _ (by omega), e, Nat.sub_self, List.set_cons_zero, List.range_succ, List.map_append, List.append_assoc]
  rfl
theorem cutRows_at {G m n k i : Nat} (hi : i < k) : (cutRows G m n k)[i]? = some (cutV G m (i * m * 4)) := by
  unfold cutRows
  rw [List.getElem?_append_left (by simpa using hi)]
  simp [hi]
theorem made_rows (N : Nat) : madeCells (Value.slice none 0 0).cells (N * 1) = (List.replicate N nilV).toArray := by
  have := made_list (.slice none 0 0) N [nilV] rfl (by decide)
  rw [show [nilV].length = 1 from rfl] at this
  rw [this]
  congr 1
  induction N with
  | zero => rfl
  | succ n ih => rw [List.replicate_succ, List.flatten_cons, ih (made_list _ n _ rfl (by decide)), List.replicate_succ]; rfl
theorem made_texts (N : Nat) : madeCells (Value.string ⟨#[]⟩).cells (N * 1) = (textCells (List.replicate N [])).toArray := by
  have := made_list (.string ⟨#[]⟩) N [.string ⟨#[]⟩] rfl (by decide)
  rw [show [Value.string ⟨#[]⟩].length = 1 from rfl] at this
  rw [this]
  congr 1
  unfold textCells
  rw [List.map_replicate]
  clear this
  induction N with
  | zero => rfl
  | succ n ih => rw [List.replicate_succ, List.flatten_cons, ih, List.replicate_succ]; rfl
theorem made_terms (N : Nat) : madeCells nilT.v.cells (N * 4) = (cellsT (List.replicate N nilT)).toArray := by
  have := made_list nilT.v N nilT.cs rfl (by decide)
  rw [show nilT.cs.length = 4 from rfl] at this
  rw [this]
  congr 1
  clear this
  induction N with
  | zero => rfl
  | succ n ih => rw [List.replicate_succ, List.flatten_cons, ih, List.replicate_succ, cellsT_cons]

/- a table in new memory: its rows are pieces of one list of terms -/
def Grid (w : World) (B : Nat) (tv : Value) (V : List (List UInt8)) (n : Nat) (L : List TermL) : Prop :=
  ∃ G1 G2 G3, tv = .agg #[.slice (some ⟨G1, 0, none⟩) V.length V.length, .slice (some ⟨G2, 0, none⟩) n n] ∧ B ≤ G1 ∧ B ≤ G2 ∧ B ≤ G3 ∧ Blk w G1 9 (textCells V).toArray ∧
    Blk w G2 51 (cutRows G3 V.length n n).toArray ∧ Blk w G3 23 (cellsT L).toArray ∧ L.length = n * V.length
/- on the way -/
def GridR (A B0 : Nat) (W0 : World) (V : List (List UInt8)) (n X G1 G2 G3 k : Nat) (c : Value) (wr : World) : Prop :=
  Blk wr A 31 #[.slice none 0 0, .slice none 0 0] ∧ Blk wr X 31 #[.slice (some ⟨G1, 0, none⟩) V.length V.length, .slice (some ⟨G2, 0, none⟩) n n] ∧ Blk wr G1 9 (textCells V).toArray ∧ Blk wr G2 51 (cutRows G3 V.length n k).toArray ∧
    Blk wr G3 23 (cellsT (List.replicate (n * V.length) nilT)).toArray ∧ (∃ o, c = .slice (some ⟨G3, o, none⟩) ((n - k) * V.length) ((n - k) * V.length) ∧ (k < n → o = k * V.length * 4)) ∧ Below B0 W0 wr
theorem fork3 {Hyp G : World → Nat → Nat → Nat → Prop} {C : Prop} (main : (∀ W X Y Z, Hyp W X Y Z → G W X Y Z) → C) (key : ∀ W X Y Z, Hyp W X Y Z → G W X Y Z) : C := main key

set_option maxRecDepth 100000 in
set_option maxHeartbeats 8000000 in
theorem empty_calls (V : List (List UInt8)) (n : Nat) (a : Option Addr) (c : Nat) (w : World) (h : TxtA w a V.length c V) (hn : n ≤ 1000000) (hm : V.length ≤ 1000000) :
    Calls Tryz.prog 73 #[.slice a V.length c, .int .i64 n] w fun e w' => ∃ tv, e = .returned tv ∧ Grid w' w.heap.size tv V n (List.replicate (n * V.length) nilT) ∧ Below w.heap.size w w' := by
  obtain ⟨i1, h1i, h1z, h1s, h1b⟩ := info_parts info_text
  obtain ⟨i2, h2i, h2z, h2s, h2b⟩ := info_parts info_row
  obtain ⟨i3, h3i, h3z, h3s, h3b⟩ := info_parts info_term
  have HV := Lib.hid h
  have hcp := h.cap
  have hms := h.most
  unfold maxLen at hms
  clear h
  obtain ⟨m, hme⟩ : ∃ m, V.length = m := ⟨_, rfl⟩
  rw [hme] at hm hcp
  have HME := Lib.hid hme
  rw [hme]
  rw [hme] at HV
  clear hme
  obtain ⟨A, hA⟩ : ∃ A, w.heap.size = A := ⟨_, rfl⟩
  obtain ⟨W0, hW0⟩ : ∃ W0, w.alloc (.cells #[.slice none 0 0, .slice none 0 0] 31) = W0 := ⟨_, rfl⟩
  have HA := Lib.hid (show Blk W0 A 31 #[.slice none 0 0, .slice none 0 0] by rw [← hW0, ← hA]; exact blk_new _ _ _)
  have HB0 := Lib.hid (show Below w.heap.size w W0 by rw [← hW0]; exact box_below _ _)
  have HAE := Lib.hid hA
  have HW0 := Lib.hid hW0
  clear hW0 hA
  go_enter Tryz.func73, Tryz.ntmps73
  go_wp2_with fail
  rw [HW0.out, HAE.out]
  obtain ⟨B0, hB0⟩ : ∃ B0, W0.heap.size = B0 := ⟨_, rfl⟩
  have hBle := Lib.hid (show B0 ≤ W0.heap.size by omega)
  have HAB := Lib.hid (show A < B0 by rw [← hB0]; exact blk_lt HA.out)
  have HBE := Lib.hid hB0
  clear hB0
  have hbn : Below B0 W0 W0 := Below.refl _ _
  refine wp_region_held_drew (S := (fun W => Below B0 W0 W)) (by kernel_rfl) ?_ (fun hHeld => ?_)
  · (try dsimp only); first | exact hbn | exact hbn.drew
  refine wpAnyH_take (i := 0) (oi := ⟨some 9, _, _, _, _, _⟩) (v := ?_) rfl (by kernel_rfl) (by kernel_rfl) (by kernel_rfl) (fun _ _ _ h => h) (Or.inl ⟨by kernel_rfl, ?_⟩) (by assumption) ?_
  rotate_left
  · (intro ww hSw; (try dsimp only at hSw); go_simp); (try with_reducible rfl)
  (try simp only [Act.put, List.setIfInBounds_toArray, List.set_cons_zero, List.set_cons_succ])
  refine wpAnyH_take (i := 1) (oi := ⟨some 10, _, _, _, _, _⟩) (v := ?_) rfl (by kernel_rfl) (by kernel_rfl) (by kernel_rfl) (fun _ _ _ h => h) (Or.inl ⟨by kernel_rfl, ?_⟩) (by assumption) ?_
  rotate_left
  · (intro ww hSw; (try dsimp only at hSw); go_simp); (try with_reducible rfl)
  (try simp only [Act.put, List.setIfInBounds_toArray, List.set_cons_zero, List.set_cons_succ])
  refine wpAnyH_take (i := 3) (oi := ⟨some 12, _, _, _, _, _⟩) (v := ?_) rfl (by kernel_rfl) (by kernel_rfl) (by kernel_rfl) (fun _ _ _ h => h) (Or.inl ⟨by kernel_rfl, ?_⟩) (by assumption) ?_
  rotate_left
  · (intro ww hSw; (try dsimp only at hSw); go_simp); (try with_reducible rfl)
  (try simp only [Act.put, List.setIfInBounds_toArray, List.set_cons_zero, List.set_cons_succ])
  apply fork3 (Hyp := fun W X G1 G2 => Blk W X 31 #[.slice none 0 0, .slice none 0 0] ∧ Blk W G1 9 (textCells (List.replicate m [])).toArray ∧ Blk W G2 51 (List.replicate n nilV).toArray ∧ B0 ≤ X ∧ B0 ≤ G1 ∧ B0 ≤ G2 ∧ Below B0 W0 W)
  case main =>
    intro KEY
    refine wpAnyH_ready (rs := [2, 4, 6]) (by kernel_rfl) (by simp) ?_
    refine AllReadyH.cons rfl (fun K hK => ?_) (AllReadyH.cons rfl (fun K hK => ?_) (AllReadyH.cons rfl (fun K hK => ?_) AllReadyH.nil))
    · obtain ⟨G1, hG1e⟩ : ∃ G1, (W0).heap.size = G1 := ⟨_, rfl⟩
      have hG1le : B0 ≤ G1 := by rw [← hG1e]; exact Nat.le_trans hBle.out hbn.size
      refine wp_make_abs (.tmp 10) (.tmp 10) 28 rfl 9 i1 (.string ⟨#[]⟩) 1 Tryz.underlying28 h1i h1z h1s .i64 .i64 m (by kernel_rfl) (by kernel_rfl) (by rw [h1b]; omega) (by unfold maxLen; omega) G1 hG1e ?_
      intro wn1 hG1 hbv
      rw [made_texts] at hG1
      (try replace hbv := from_drew hbv)
      replace hbn := fb2 hbn hbv hBle.out
      clear hbv
      clear hG1e
      change K (Act.put _ (some 11) _) _
      refine hK.out _ _ ?_ (fun hHeld => ?_)
      · (try dsimp only); (first | exact hbn | exact hbn.drew)
      clear hK K
      (try simp only [Act.put, List.setIfInBounds_toArray, List.set_cons_zero, List.set_cons_succ])
      refine wpAnyH_ready (rs := [4, 6]) (by kernel_rfl) (by simp) ?_
      refine AllReadyH.cons rfl (fun K hK => ?_) (AllReadyH.cons rfl (fun K hK => ?_) AllReadyH.nil)
      · obtain ⟨G2, hG2e⟩ : ∃ G2, (wn1).heap.size = G2 := ⟨_, rfl⟩
        have hG2le : B0 ≤ G2 := by rw [← hG2e]; exact Nat.le_trans hBle.out hbn.size
        refine wp_make_abs (.tmp 12) (.tmp 12) 29 rfl 51 i2 (.slice none 0 0) 1 Tryz.underlying29 h2i h2z h2s .i64 .i64 n (by kernel_rfl) (by kernel_rfl) (by rw [h2b]; omega) (by unfold maxLen; omega) G2 hG2e ?_
        intro wn2 hG2 hbv
        rw [made_rows] at hG2
        (try replace hbv := from_drew hbv)
        replace hG1 := blk_on hG1 hbv (blk_lt hG1)
        replace hbn := fb2 hbn hbv hBle.out
        clear hbv
        clear hG2e
        change K (Act.put _ (some 13) _) _
        refine hK.out _ _ ?_ (fun hHeld => ?_)
        · (try dsimp only); (first | exact hbn | exact hbn.drew)
        clear hK K
        (try simp only [Act.put, List.setIfInBounds_toArray, List.set_cons_zero, List.set_cons_succ])
        refine wpAnyH_take (i := 5) (oi := ⟨some 14, _, _, _, _, _⟩) (v := ?_) rfl (by kernel_rfl) (by kernel_rfl) (by kernel_rfl) (fun _ _ _ h => h) (Or.inl ⟨by kernel_rfl, ?_⟩) (by assumption) ?_
        rotate_left
        · (intro ww hSw; (try dsimp only at hSw); go_simp); (try with_reducible rfl)
        (try simp only [Act.put, List.setIfInBounds_toArray, List.set_cons_zero, List.set_cons_succ])
        refine wpAnyH_ready (rs := [6]) (by kernel_rfl) (by simp) ?_
        refine AllReadyH.cons rfl (fun K hK => ?_) AllReadyH.nil
        · go_simp
          obtain ⟨X, hXe⟩ : ∃ X, (wn2).heap.size = X := ⟨_, rfl⟩
          have hXle : B0 ≤ X := by rw [← hXe]; exact Nat.le_trans hBle.out hbn.size
          have hX : Blk ((wn2).alloc (.cells #[.slice none 0 0, .slice none 0 0] 31)) X 31 #[.slice none 0 0, .slice none 0 0] := by rw [← hXe]; exact blk_new _ _ _
          have hbv : Below (wn2).heap.size (wn2) ((wn2).alloc (.cells #[.slice none 0 0, .slice none 0 0] 31)) := box_below _ _
          replace hG1 := blk_on hG1 hbv (blk_lt hG1)
          replace hG2 := blk_on hG2 hbv (blk_lt hG2)
          replace hbn := fb2 hbn hbv hBle.out
          clear hbv
          (try simp only [World.size_alloc] at hXe)
          have HXE := Lib.hid hXe
          clear hXe
          refine hK.out _ _ ?_ (fun hHeld => ?_)
          · (try dsimp only); (first | exact hbn | exact hbn.drew)
          clear hK K
          (try rw [HXE.out])
          (try simp only [Act.put, List.setIfInBounds_toArray, List.set_cons_zero, List.set_cons_succ])
          first
            | (obtain ⟨WW, hWW⟩ : ∃ WW, (((wn2).alloc (.cells #[.slice none 0 0, .slice none 0 0] 31))) = WW := ⟨_, rfl⟩; rw [hWW]; have hX' : Blk WW X 31 #[.slice none 0 0, .slice none 0 0] := (by rw [← hWW]; exact hX); have hG1' : Blk WW G1 9 (textCells (List.replicate m [])).toArray := (by rw [← hWW]; exact hG1); have hG2' : Blk WW G2 51 (List.replicate n nilV).toArray := (by rw [← hWW]; exact hG2); have hb' : Below B0 W0 WW := (by rw [← hWW]; exact hbn); exact KEY WW X G1 G2 ⟨hX', hG1', hG2', hXle, hG1le, hG2le, hb'⟩)
            | (obtain ⟨WW, hWW⟩ : ∃ WW, ((((wn2).alloc (.cells #[.slice none 0 0, .slice none 0 0] 31))).drew) = WW := ⟨_, rfl⟩; rw [hWW]; have hX' : Blk WW X 31 #[.slice none 0 0, .slice none 0 0] := (by rw [← hWW]; exact hX); have hG1' : Blk WW G1 9 (textCells (List.replicate m [])).toArray := (by rw [← hWW]; exact hG1); have hG2' : Blk WW G2 51 (List.replicate n nilV).toArray := (by rw [← hWW]; exact hG2); have hb' : Below B0 W0 WW := (by rw [← hWW]; exact hbn.drew); exact KEY WW X G1 G2 ⟨hX', hG1', hG2', hXle, hG1le, hG2le, hb'⟩)
            | (obtain ⟨WW, hWW⟩ : ∃ WW, ((((wn2).alloc (.cells #[.slice none 0 0, .slice none 0 0] 31))).drew.drew) = WW := ⟨_, rfl⟩; rw [hWW]; have hX' : Blk WW X 31 #[.slice none 0 0, .slice none 0 0] := (by rw [← hWW]; exact hX); have hG1' : Blk WW G1 9 (textCells (List.replicate m [])).toArray := (by rw [← hWW]; exact hG1); have hG2' : Blk WW G2 51 (List.replicate n nilV).toArray := (by rw [← hWW]; exact hG2); have hb' : Below B0 W0 WW := (by rw [← hWW]; exact hbn.drew.drew); exact KEY WW X G1 G2 ⟨hX', hG1', hG2', hXle, hG1le, hG2le, hb'⟩)
            | (obtain ⟨WW, hWW⟩ : ∃ WW, ((((wn2).alloc (.cells #[.slice none 0 0, .slice none 0 0] 31))).drewN 2) = WW := ⟨_, rfl⟩; rw [hWW]; have hX' : Blk WW X 31 #[.slice none 0 0, .slice none 0 0] := (by rw [← hWW]; exact hX); have hG1' : Blk WW G1 9 (textCells (List.replicate m [])).toArray := (by rw [← hWW]; exact hG1); have hG2' : Blk WW G2 51 (List.replicate n nilV).toArray := (by rw [← hWW]; exact hG2); have hb' : Below B0 W0 WW := (by rw [← hWW]; exact drewN_below hbn 2); exact KEY WW X G1 G2 ⟨hX', hG1', hG2', hXle, hG1le, hG2le, hb'⟩)
            | (obtain ⟨WW, hWW⟩ : ∃ WW, ((((wn2).alloc (.cells #[.slice none 0 0, .slice none 0 0] 31))).drewN 3) = WW := ⟨_, rfl⟩; rw [hWW]; have hX' : Blk WW X 31 #[.slice none 0 0, .slice none 0 0] := (by rw [← hWW]; exact hX); have hG1' : Blk WW G1 9 (textCells (List.replicate m [])).toArray := (by rw [← hWW]; exact hG1); have hG2' : Blk WW G2 51 (List.replicate n nilV).toArray := (by rw [← hWW]; exact hG2); have hb' : Below B0 W0 WW := (by rw [← hWW]; exact drewN_below hbn 3); exact KEY WW X G1 G2 ⟨hX', hG1', hG2', hXle, hG1le, hG2le, hb'⟩)
      · go_simp
        obtain ⟨X, hXe⟩ : ∃ X, (wn1).heap.size = X := ⟨_, rfl⟩
        have hXle : B0 ≤ X := by rw [← hXe]; exact Nat.le_trans hBle.out hbn.size
        have hX : Blk ((wn1).alloc (.cells #[.slice none 0 0, .slice none 0 0] 31)) X 31 #[.slice none 0 0, .slice none 0 0] := by rw [← hXe]; exact blk_new _ _ _
        have hbv : Below (wn1).heap.size (wn1) ((wn1).alloc (.cells #[.slice none 0 0, .slice none 0 0] 31)) := box_below _ _
        replace hG1 := blk_on hG1 hbv (blk_lt hG1)
        replace hbn := fb2 hbn hbv hBle.out
        clear hbv
        (try simp only [World.size_alloc] at hXe)
        have HXE := Lib.hid hXe
        clear hXe
        refine hK.out _ _ ?_ (fun hHeld => ?_)
        · (try dsimp only); (first | exact hbn | exact hbn.drew)
        clear hK K
        (try rw [HXE.out])
        (try simp only [Act.put, List.setIfInBounds_toArray, List.set_cons_zero, List.set_cons_succ])
        refine wpAnyH_ready (rs := [4]) (by kernel_rfl) (by simp) ?_
        refine AllReadyH.cons rfl (fun K hK => ?_) AllReadyH.nil
        · obtain ⟨G2, hG2e⟩ : ∃ G2, (((wn1).alloc (.cells #[.slice none 0 0, .slice none 0 0] 31))).heap.size = G2 := ⟨_, rfl⟩
          have hG2le : B0 ≤ G2 := by rw [← hG2e]; exact Nat.le_trans hBle.out hbn.size
          refine wp_make_abs (.tmp 12) (.tmp 12) 29 rfl 51 i2 (.slice none 0 0) 1 Tryz.underlying29 h2i h2z h2s .i64 .i64 n (by kernel_rfl) (by kernel_rfl) (by rw [h2b]; omega) (by unfold maxLen; omega) G2 hG2e ?_
          intro wn5 hG2 hbv
          rw [made_rows] at hG2
          (try replace hbv := from_drew hbv)
          replace hG1 := blk_on hG1 hbv (blk_lt hG1)
          replace hX := blk_on hX hbv (blk_lt hX)
          replace hbn := fb2 hbn hbv hBle.out
          clear hbv
          clear hG2e
          change K (Act.put _ (some 13) _) _
          refine hK.out _ _ ?_ (fun hHeld => ?_)
          · (try dsimp only); (first | exact hbn | exact hbn.drew)
          clear hK K
          (try simp only [Act.put, List.setIfInBounds_toArray, List.set_cons_zero, List.set_cons_succ])
          refine wpAnyH_take (i := 5) (oi := ⟨some 14, _, _, _, _, _⟩) (v := ?_) rfl (by kernel_rfl) (by kernel_rfl) (by kernel_rfl) (fun _ _ _ h => h) (Or.inl ⟨by kernel_rfl, ?_⟩) (by assumption) ?_
          rotate_left
          · (intro ww hSw; (try dsimp only at hSw); go_simp); (try with_reducible rfl)
          (try simp only [Act.put, List.setIfInBounds_toArray, List.set_cons_zero, List.set_cons_succ])
          first
            | (obtain ⟨WW, hWW⟩ : ∃ WW, (wn5) = WW := ⟨_, rfl⟩; rw [hWW]; have hX' : Blk WW X 31 #[.slice none 0 0, .slice none 0 0] := (by rw [← hWW]; exact hX); have hG1' : Blk WW G1 9 (textCells (List.replicate m [])).toArray := (by rw [← hWW]; exact hG1); have hG2' : Blk WW G2 51 (List.replicate n nilV).toArray := (by rw [← hWW]; exact hG2); have hb' : Below B0 W0 WW := (by rw [← hWW]; exact hbn); exact Eq.mp (by kernel_rfl) (KEY WW X G1 G2 ⟨hX', hG1', hG2', hXle, hG1le, hG2le, hb'⟩))
            | (obtain ⟨WW, hWW⟩ : ∃ WW, ((wn5).drew) = WW := ⟨_, rfl⟩; rw [hWW]; have hX' : Blk WW X 31 #[.slice none 0 0, .slice none 0 0] := (by rw [← hWW]; exact hX); have hG1' : Blk WW G1 9 (textCells (List.replicate m [])).toArray := (by rw [← hWW]; exact hG1); have hG2' : Blk WW G2 51 (List.replicate n nilV).toArray := (by rw [← hWW]; exact hG2); have hb' : Below B0 W0 WW := (by rw [← hWW]; exact hbn.drew); exact Eq.mp (by kernel_rfl) (KEY WW X G1 G2 ⟨hX', hG1', hG2', hXle, hG1le, hG2le, hb'⟩))
            | (obtain ⟨WW, hWW⟩ : ∃ WW, ((wn5).drew.drew) = WW := ⟨_, rfl⟩; rw [hWW]; have hX' : Blk WW X 31 #[.slice none 0 0, .slice none 0 0] := (by rw [← hWW]; exact hX); have hG1' : Blk WW G1 9 (textCells (List.replicate m [])).toArray := (by rw [← hWW]; exact hG1); have hG2' : Blk WW G2 51 (List.replicate n nilV).toArray := (by rw [← hWW]; exact hG2); have hb' : Below B0 W0 WW := (by rw [← hWW]; exact hbn.drew.drew); exact Eq.mp (by kernel_rfl) (KEY WW X G1 G2 ⟨hX', hG1', hG2', hXle, hG1le, hG2le, hb'⟩))
            | (obtain ⟨WW, hWW⟩ : ∃ WW, ((wn5).drewN 2) = WW := ⟨_, rfl⟩; rw [hWW]; have hX' : Blk WW X 31 #[.slice none 0 0, .slice none 0 0] := (by rw [← hWW]; exact hX); have hG1' : Blk WW G1 9 (textCells (List.replicate m [])).toArray := (by rw [← hWW]; exact hG1); have hG2' : Blk WW G2 51 (List.replicate n nilV).toArray := (by rw [← hWW]; exact hG2); have hb' : Below B0 W0 WW := (by rw [← hWW]; exact drewN_below hbn 2); exact Eq.mp (by kernel_rfl) (KEY WW X G1 G2 ⟨hX', hG1', hG2', hXle, hG1le, hG2le, hb'⟩))
            | (obtain ⟨WW, hWW⟩ : ∃ WW, ((wn5).drewN 3) = WW := ⟨_, rfl⟩; rw [hWW]; have hX' : Blk WW X 31 #[.slice none 0 0, .slice none 0 0] := (by rw [← hWW]; exact hX); have hG1' : Blk WW G1 9 (textCells (List.replicate m [])).toArray := (by rw [← hWW]; exact hG1); have hG2' : Blk WW G2 51 (List.replicate n nilV).toArray := (by rw [← hWW]; exact hG2); have hb' : Below B0 W0 WW := (by rw [← hWW]; exact drewN_below hbn 3); exact Eq.mp (by kernel_rfl) (KEY WW X G1 G2 ⟨hX', hG1', hG2', hXle, hG1le, hG2le, hb'⟩))
    · obtain ⟨G2, hG2e⟩ : ∃ G2, (W0).heap.size = G2 := ⟨_, rfl⟩
      have hG2le : B0 ≤ G2 := by rw [← hG2e]; exact Nat.le_trans hBle.out hbn.size
      refine wp_make_abs (.tmp 12) (.tmp 12) 29 rfl 51 i2 (.slice none 0 0) 1 Tryz.underlying29 h2i h2z h2s .i64 .i64 n (by kernel_rfl) (by kernel_rfl) (by rw [h2b]; omega) (by unfold maxLen; omega) G2 hG2e ?_
      intro wn6 hG2 hbv
      rw [made_rows] at hG2
      (try replace hbv := from_drew hbv)
      replace hbn := fb2 hbn hbv hBle.out
      clear hbv
      clear hG2e
      change K (Act.put _ (some 13) _) _
      refine hK.out _ _ ?_ (fun hHeld => ?_)
      · (try dsimp only); (first | exact hbn | exact hbn.drew)
      clear hK K
      (try simp only [Act.put, List.setIfInBounds_toArray, List.set_cons_zero, List.set_cons_succ])
      refine wpAnyH_ready (rs := [2, 6]) (by kernel_rfl) (by simp) ?_
      refine AllReadyH.cons rfl (fun K hK => ?_) (AllReadyH.cons rfl (fun K hK => ?_) AllReadyH.nil)
      · obtain ⟨G1, hG1e⟩ : ∃ G1, (wn6).heap.size = G1 := ⟨_, rfl⟩
        have hG1le : B0 ≤ G1 := by rw [← hG1e]; exact Nat.le_trans hBle.out hbn.size
        refine wp_make_abs (.tmp 10) (.tmp 10) 28 rfl 9 i1 (.string ⟨#[]⟩) 1 Tryz.underlying28 h1i h1z h1s .i64 .i64 m (by kernel_rfl) (by kernel_rfl) (by rw [h1b]; omega) (by unfold maxLen; omega) G1 hG1e ?_
        intro wn7 hG1 hbv
        rw [made_texts] at hG1
        (try replace hbv := from_drew hbv)
        replace hG2 := blk_on hG2 hbv (blk_lt hG2)
        replace hbn := fb2 hbn hbv hBle.out
        clear hbv
        clear hG1e
        change K (Act.put _ (some 11) _) _
        refine hK.out _ _ ?_ (fun hHeld => ?_)
        · (try dsimp only); (first | exact hbn | exact hbn.drew)
        clear hK K
        (try simp only [Act.put, List.setIfInBounds_toArray, List.set_cons_zero, List.set_cons_succ])
        refine wpAnyH_take (i := 5) (oi := ⟨some 14, _, _, _, _, _⟩) (v := ?_) rfl (by kernel_rfl) (by kernel_rfl) (by kernel_rfl) (fun _ _ _ h => h) (Or.inl ⟨by kernel_rfl, ?_⟩) (by assumption) ?_
        rotate_left
        · (intro ww hSw; (try dsimp only at hSw); go_simp); (try with_reducible rfl)
        (try simp only [Act.put, List.setIfInBounds_toArray, List.set_cons_zero, List.set_cons_succ])
        refine wpAnyH_ready (rs := [6]) (by kernel_rfl) (by simp) ?_
        refine AllReadyH.cons rfl (fun K hK => ?_) AllReadyH.nil
        · go_simp
          obtain ⟨X, hXe⟩ : ∃ X, (wn7).heap.size = X := ⟨_, rfl⟩
          have hXle : B0 ≤ X := by rw [← hXe]; exact Nat.le_trans hBle.out hbn.size
          have hX : Blk ((wn7).alloc (.cells #[.slice none 0 0, .slice none 0 0] 31)) X 31 #[.slice none 0 0, .slice none 0 0] := by rw [← hXe]; exact blk_new _ _ _
          have hbv : Below (wn7).heap.size (wn7) ((wn7).alloc (.cells #[.slice none 0 0, .slice none 0 0] 31)) := box_below _ _
          replace hG1 := blk_on hG1 hbv (blk_lt hG1)
          replace hG2 := blk_on hG2 hbv (blk_lt hG2)
          replace hbn := fb2 hbn hbv hBle.out
          clear hbv
          (try simp only [World.size_alloc] at hXe)
          have HXE := Lib.hid hXe
          clear hXe
          refine hK.out _ _ ?_ (fun hHeld => ?_)
          · (try dsimp only); (first | exact hbn | exact hbn.drew)
          clear hK K
          (try rw [HXE.out])
          (try simp only [Act.put, List.setIfInBounds_toArray, List.set_cons_zero, List.set_cons_succ])
          first
            | (obtain ⟨WW, hWW⟩ : ∃ WW, (((wn7).alloc (.cells #[.slice none 0 0, .slice none 0 0] 31))) = WW := ⟨_, rfl⟩; rw [hWW]; have hX' : Blk WW X 31 #[.slice none 0 0, .slice none 0 0] := (by rw [← hWW]; exact hX); have hG1' : Blk WW G1 9 (textCells (List.replicate m [])).toArray := (by rw [← hWW]; exact hG1); have hG2' : Blk WW G2 51 (List.replicate n nilV).toArray := (by rw [← hWW]; exact hG2); have hb' : Below B0 W0 WW := (by rw [← hWW]; exact hbn); exact Eq.mp (by kernel_rfl) (KEY WW X G1 G2 ⟨hX', hG1', hG2', hXle, hG1le, hG2le, hb'⟩))
            | (obtain ⟨WW, hWW⟩ : ∃ WW, ((((wn7).alloc (.cells #[.slice none 0 0, .slice none 0 0] 31))).drew) = WW := ⟨_, rfl⟩; rw [hWW]; have hX' : Blk WW X 31 #[.slice none 0 0, .slice none 0 0] := (by rw [← hWW]; exact hX); have hG1' : Blk WW G1 9 (textCells (List.replicate m [])).toArray := (by rw [← hWW]; exact hG1); have hG2' : Blk WW G2 51 (List.replicate n nilV).toArray := (by rw [← hWW]; exact hG2); have hb' : Below B0 W0 WW := (by rw [← hWW]; exact hbn.drew); exact Eq.mp (by kernel_rfl) (KEY WW X G1 G2 ⟨hX', hG1', hG2', hXle, hG1le, hG2le, hb'⟩))
            | (obtain ⟨WW, hWW⟩ : ∃ WW, ((((wn7).alloc (.cells #[.slice none 0 0, .slice none 0 0] 31))).drew.drew) = WW := ⟨_, rfl⟩; rw [hWW]; have hX' : Blk WW X 31 #[.slice none 0 0, .slice none 0 0] := (by rw [← hWW]; exact hX); have hG1' : Blk WW G1 9 (textCells (List.replicate m [])).toArray := (by rw [← hWW]; exact hG1); have hG2' : Blk WW G2 51 (List.replicate n nilV).toArray := (by rw [← hWW]; exact hG2); have hb' : Below B0 W0 WW := (by rw [← hWW]; exact hbn.drew.drew); exact Eq.mp (by kernel_rfl) (KEY WW X G1 G2 ⟨hX', hG1', hG2', hXle, hG1le, hG2le, hb'⟩))
            | (obtain ⟨WW, hWW⟩ : ∃ WW, ((((wn7).alloc (.cells #[.slice none 0 0, .slice none 0 0] 31))).drewN 2) = WW := ⟨_, rfl⟩; rw [hWW]; have hX' : Blk WW X 31 #[.slice none 0 0, .slice none 0 0] := (by rw [← hWW]; exact hX); have hG1' : Blk WW G1 9 (textCells (List.replicate m [])).toArray := (by rw [← hWW]; exact hG1); have hG2' : Blk WW G2 51 (List.replicate n nilV).toArray := (by rw [← hWW]; exact hG2); have hb' : Below B0 W0 WW := (by rw [← hWW]; exact drewN_below hbn 2); exact Eq.mp (by kernel_rfl) (KEY WW X G1 G2 ⟨hX', hG1', hG2', hXle, hG1le, hG2le, hb'⟩))
            | (obtain ⟨WW, hWW⟩ : ∃ WW, ((((wn7).alloc (.cells #[.slice none 0 0, .slice none 0 0] 31))).drewN 3) = WW := ⟨_, rfl⟩; rw [hWW]; have hX' : Blk WW X 31 #[.slice none 0 0, .slice none 0 0] := (by rw [← hWW]; exact hX); have hG1' : Blk WW G1 9 (textCells (List.replicate m [])).toArray := (by rw [← hWW]; exact hG1); have hG2' : Blk WW G2 51 (List.replicate n nilV).toArray := (by rw [← hWW]; exact hG2); have hb' : Below B0 W0 WW := (by rw [← hWW]; exact drewN_below hbn 3); exact Eq.mp (by kernel_rfl) (KEY WW X G1 G2 ⟨hX', hG1', hG2', hXle, hG1le, hG2le, hb'⟩))
      · go_simp
        obtain ⟨X, hXe⟩ : ∃ X, (wn6).heap.size = X := ⟨_, rfl⟩
        have hXle : B0 ≤ X := by rw [← hXe]; exact Nat.le_trans hBle.out hbn.size
        have hX : Blk ((wn6).alloc (.cells #[.slice none 0 0, .slice none 0 0] 31)) X 31 #[.slice none 0 0, .slice none 0 0] := by rw [← hXe]; exact blk_new _ _ _
        have hbv : Below (wn6).heap.size (wn6) ((wn6).alloc (.cells #[.slice none 0 0, .slice none 0 0] 31)) := box_below _ _
        replace hG2 := blk_on hG2 hbv (blk_lt hG2)
        replace hbn := fb2 hbn hbv hBle.out
        clear hbv
        (try simp only [World.size_alloc] at hXe)
        have HXE := Lib.hid hXe
        clear hXe
        refine hK.out _ _ ?_ (fun hHeld => ?_)
        · (try dsimp only); (first | exact hbn | exact hbn.drew)
        clear hK K
        (try rw [HXE.out])
        (try simp only [Act.put, List.setIfInBounds_toArray, List.set_cons_zero, List.set_cons_succ])
        refine wpAnyH_ready (rs := [2]) (by kernel_rfl) (by simp) ?_
        refine AllReadyH.cons rfl (fun K hK => ?_) AllReadyH.nil
        · obtain ⟨G1, hG1e⟩ : ∃ G1, (((wn6).alloc (.cells #[.slice none 0 0, .slice none 0 0] 31))).heap.size = G1 := ⟨_, rfl⟩
          have hG1le : B0 ≤ G1 := by rw [← hG1e]; exact Nat.le_trans hBle.out hbn.size
          refine wp_make_abs (.tmp 10) (.tmp 10) 28 rfl 9 i1 (.string ⟨#[]⟩) 1 Tryz.underlying28 h1i h1z h1s .i64 .i64 m (by kernel_rfl) (by kernel_rfl) (by rw [h1b]; omega) (by unfold maxLen; omega) G1 hG1e ?_
          intro wn10 hG1 hbv
          rw [made_texts] at hG1
          (try replace hbv := from_drew hbv)
          replace hG2 := blk_on hG2 hbv (blk_lt hG2)
          replace hX := blk_on hX hbv (blk_lt hX)
          replace hbn := fb2 hbn hbv hBle.out
          clear hbv
          clear hG1e
          change K (Act.put _ (some 11) _) _
          refine hK.out _ _ ?_ (fun hHeld => ?_)
          · (try dsimp only); (first | exact hbn | exact hbn.drew)
          clear hK K
          (try simp only [Act.put, List.setIfInBounds_toArray, List.set_cons_zero, List.set_cons_succ])
          refine wpAnyH_take (i := 5) (oi := ⟨some 14, _, _, _, _, _⟩) (v := ?_) rfl (by kernel_rfl) (by kernel_rfl) (by kernel_rfl) (fun _ _ _ h => h) (Or.inl ⟨by kernel_rfl, ?_⟩) (by assumption) ?_
          rotate_left
          · (intro ww hSw; (try dsimp only at hSw); go_simp); (try with_reducible rfl)
          (try simp only [Act.put, List.setIfInBounds_toArray, List.set_cons_zero, List.set_cons_succ])
          first
            | (obtain ⟨WW, hWW⟩ : ∃ WW, (wn10) = WW := ⟨_, rfl⟩; rw [hWW]; have hX' : Blk WW X 31 #[.slice none 0 0, .slice none 0 0] := (by rw [← hWW]; exact hX); have hG1' : Blk WW G1 9 (textCells (List.replicate m [])).toArray := (by rw [← hWW]; exact hG1); have hG2' : Blk WW G2 51 (List.replicate n nilV).toArray := (by rw [← hWW]; exact hG2); have hb' : Below B0 W0 WW := (by rw [← hWW]; exact hbn); exact Eq.mp (by kernel_rfl) (KEY WW X G1 G2 ⟨hX', hG1', hG2', hXle, hG1le, hG2le, hb'⟩))
            | (obtain ⟨WW, hWW⟩ : ∃ WW, ((wn10).drew) = WW := ⟨_, rfl⟩; rw [hWW]; have hX' : Blk WW X 31 #[.slice none 0 0, .slice none 0 0] := (by rw [← hWW]; exact hX); have hG1' : Blk WW G1 9 (textCells (List.replicate m [])).toArray := (by rw [← hWW]; exact hG1); have hG2' : Blk WW G2 51 (List.replicate n nilV).toArray := (by rw [← hWW]; exact hG2); have hb' : Below B0 W0 WW := (by rw [← hWW]; exact hbn.drew); exact Eq.mp (by kernel_rfl) (KEY WW X G1 G2 ⟨hX', hG1', hG2', hXle, hG1le, hG2le, hb'⟩))
            | (obtain ⟨WW, hWW⟩ : ∃ WW, ((wn10).drew.drew) = WW := ⟨_, rfl⟩; rw [hWW]; have hX' : Blk WW X 31 #[.slice none 0 0, .slice none 0 0] := (by rw [← hWW]; exact hX); have hG1' : Blk WW G1 9 (textCells (List.replicate m [])).toArray := (by rw [← hWW]; exact hG1); have hG2' : Blk WW G2 51 (List.replicate n nilV).toArray := (by rw [← hWW]; exact hG2); have hb' : Below B0 W0 WW := (by rw [← hWW]; exact hbn.drew.drew); exact Eq.mp (by kernel_rfl) (KEY WW X G1 G2 ⟨hX', hG1', hG2', hXle, hG1le, hG2le, hb'⟩))
            | (obtain ⟨WW, hWW⟩ : ∃ WW, ((wn10).drewN 2) = WW := ⟨_, rfl⟩; rw [hWW]; have hX' : Blk WW X 31 #[.slice none 0 0, .slice none 0 0] := (by rw [← hWW]; exact hX); have hG1' : Blk WW G1 9 (textCells (List.replicate m [])).toArray := (by rw [← hWW]; exact hG1); have hG2' : Blk WW G2 51 (List.replicate n nilV).toArray := (by rw [← hWW]; exact hG2); have hb' : Below B0 W0 WW := (by rw [← hWW]; exact drewN_below hbn 2); exact Eq.mp (by kernel_rfl) (KEY WW X G1 G2 ⟨hX', hG1', hG2', hXle, hG1le, hG2le, hb'⟩))
            | (obtain ⟨WW, hWW⟩ : ∃ WW, ((wn10).drewN 3) = WW := ⟨_, rfl⟩; rw [hWW]; have hX' : Blk WW X 31 #[.slice none 0 0, .slice none 0 0] := (by rw [← hWW]; exact hX); have hG1' : Blk WW G1 9 (textCells (List.replicate m [])).toArray := (by rw [← hWW]; exact hG1); have hG2' : Blk WW G2 51 (List.replicate n nilV).toArray := (by rw [← hWW]; exact hG2); have hb' : Below B0 W0 WW := (by rw [← hWW]; exact drewN_below hbn 3); exact Eq.mp (by kernel_rfl) (KEY WW X G1 G2 ⟨hX', hG1', hG2', hXle, hG1le, hG2le, hb'⟩))
    · go_simp
      obtain ⟨X, hXe⟩ : ∃ X, (W0).heap.size = X := ⟨_, rfl⟩
      have hXle : B0 ≤ X := by rw [← hXe]; exact Nat.le_trans hBle.out hbn.size
      have hX : Blk ((W0).alloc (.cells #[.slice none 0 0, .slice none 0 0] 31)) X 31 #[.slice none 0 0, .slice none 0 0] := by rw [← hXe]; exact blk_new _ _ _
      have hbv : Below (W0).heap.size (W0) ((W0).alloc (.cells #[.slice none 0 0, .slice none 0 0] 31)) := box_below _ _
      replace hbn := fb2 hbn hbv hBle.out
      clear hbv
      (try simp only [World.size_alloc] at hXe)
      have HXE := Lib.hid hXe
      clear hXe
      refine hK.out _ _ ?_ (fun hHeld => ?_)
      · (try dsimp only); (first | exact hbn | exact hbn.drew)
      clear hK K
      (try rw [HXE.out])
      (try simp only [Act.put, List.setIfInBounds_toArray, List.set_cons_zero, List.set_cons_succ])
      refine wpAnyH_ready (rs := [2, 4]) (by kernel_rfl) (by simp) ?_
      refine AllReadyH.cons rfl (fun K hK => ?_) (AllReadyH.cons rfl (fun K hK => ?_) AllReadyH.nil)
      · obtain ⟨G1, hG1e⟩ : ∃ G1, (((W0).alloc (.cells #[.slice none 0 0, .slice none 0 0] 31))).heap.size = G1 := ⟨_, rfl⟩
        have hG1le : B0 ≤ G1 := by rw [← hG1e]; exact Nat.le_trans hBle.out hbn.size
        refine wp_make_abs (.tmp 10) (.tmp 10) 28 rfl 9 i1 (.string ⟨#[]⟩) 1 Tryz.underlying28 h1i h1z h1s .i64 .i64 m (by kernel_rfl) (by kernel_rfl) (by rw [h1b]; omega) (by unfold maxLen; omega) G1 hG1e ?_
        intro wn12 hG1 hbv
        rw [made_texts] at hG1
        (try replace hbv := from_drew hbv)
        replace hX := blk_on hX hbv (blk_lt hX)
        replace hbn := fb2 hbn hbv hBle.out
        clear hbv
        clear hG1e
        change K (Act.put _ (some 11) _) _
        refine hK.out _ _ ?_ (fun hHeld => ?_)
        · (try dsimp only); (first | exact hbn | exact hbn.drew)
        clear hK K
        (try simp only [Act.put, List.setIfInBounds_toArray, List.set_cons_zero, List.set_cons_succ])
        refine wpAnyH_ready (rs := [4]) (by kernel_rfl) (by simp) ?_
        refine AllReadyH.cons rfl (fun K hK => ?_) AllReadyH.nil
        · obtain ⟨G2, hG2e⟩ : ∃ G2, (wn12).heap.size = G2 := ⟨_, rfl⟩
          have hG2le : B0 ≤ G2 := by rw [← hG2e]; exact Nat.le_trans hBle.out hbn.size
          refine wp_make_abs (.tmp 12) (.tmp 12) 29 rfl 51 i2 (.slice none 0 0) 1 Tryz.underlying29 h2i h2z h2s .i64 .i64 n (by kernel_rfl) (by kernel_rfl) (by rw [h2b]; omega) (by unfold maxLen; omega) G2 hG2e ?_
          intro wn13 hG2 hbv
          rw [made_rows] at hG2
          (try replace hbv := from_drew hbv)
          replace hG1 := blk_on hG1 hbv (blk_lt hG1)
          replace hX := blk_on hX hbv (blk_lt hX)
          replace hbn := fb2 hbn hbv hBle.out
          clear hbv
          clear hG2e
          change K (Act.put _ (some 13) _) _
          refine hK.out _ _ ?_ (fun hHeld => ?_)
          · (try dsimp only); (first | exact hbn | exact hbn.drew)
          clear hK K
          (try simp only [Act.put, List.setIfInBounds_toArray, List.set_cons_zero, List.set_cons_succ])
          refine wpAnyH_take (i := 5) (oi := ⟨some 14, _, _, _, _, _⟩) (v := ?_) rfl (by kernel_rfl) (by kernel_rfl) (by kernel_rfl) (fun _ _ _ h => h) (Or.inl ⟨by kernel_rfl, ?_⟩) (by assumption) ?_
          rotate_left
          · (intro ww hSw; (try dsimp only at hSw); go_simp); (try with_reducible rfl)
          (try simp only [Act.put, List.setIfInBounds_toArray, List.set_cons_zero, List.set_cons_succ])
          first
            | (obtain ⟨WW, hWW⟩ : ∃ WW, (wn13) = WW := ⟨_, rfl⟩; rw [hWW]; have hX' : Blk WW X 31 #[.slice none 0 0, .slice none 0 0] := (by rw [← hWW]; exact hX); have hG1' : Blk WW G1 9 (textCells (List.replicate m [])).toArray := (by rw [← hWW]; exact hG1); have hG2' : Blk WW G2 51 (List.replicate n nilV).toArray := (by rw [← hWW]; exact hG2); have hb' : Below B0 W0 WW := (by rw [← hWW]; exact hbn); exact Eq.mp (by kernel_rfl) (KEY WW X G1 G2 ⟨hX', hG1', hG2', hXle, hG1le, hG2le, hb'⟩))
            | (obtain ⟨WW, hWW⟩ : ∃ WW, ((wn13).drew) = WW := ⟨_, rfl⟩; rw [hWW]; have hX' : Blk WW X 31 #[.slice none 0 0, .slice none 0 0] := (by rw [← hWW]; exact hX); have hG1' : Blk WW G1 9 (textCells (List.replicate m [])).toArray := (by rw [← hWW]; exact hG1); have hG2' : Blk WW G2 51 (List.replicate n nilV).toArray := (by rw [← hWW]; exact hG2); have hb' : Below B0 W0 WW := (by rw [← hWW]; exact hbn.drew); exact Eq.mp (by kernel_rfl) (KEY WW X G1 G2 ⟨hX', hG1', hG2', hXle, hG1le, hG2le, hb'⟩))
            | (obtain ⟨WW, hWW⟩ : ∃ WW, ((wn13).drew.drew) = WW := ⟨_, rfl⟩; rw [hWW]; have hX' : Blk WW X 31 #[.slice none 0 0, .slice none 0 0] := (by rw [← hWW]; exact hX); have hG1' : Blk WW G1 9 (textCells (List.replicate m [])).toArray := (by rw [← hWW]; exact hG1); have hG2' : Blk WW G2 51 (List.replicate n nilV).toArray := (by rw [← hWW]; exact hG2); have hb' : Below B0 W0 WW := (by rw [← hWW]; exact hbn.drew.drew); exact Eq.mp (by kernel_rfl) (KEY WW X G1 G2 ⟨hX', hG1', hG2', hXle, hG1le, hG2le, hb'⟩))
            | (obtain ⟨WW, hWW⟩ : ∃ WW, ((wn13).drewN 2) = WW := ⟨_, rfl⟩; rw [hWW]; have hX' : Blk WW X 31 #[.slice none 0 0, .slice none 0 0] := (by rw [← hWW]; exact hX); have hG1' : Blk WW G1 9 (textCells (List.replicate m [])).toArray := (by rw [← hWW]; exact hG1); have hG2' : Blk WW G2 51 (List.replicate n nilV).toArray := (by rw [← hWW]; exact hG2); have hb' : Below B0 W0 WW := (by rw [← hWW]; exact drewN_below hbn 2); exact Eq.mp (by kernel_rfl) (KEY WW X G1 G2 ⟨hX', hG1', hG2', hXle, hG1le, hG2le, hb'⟩))
            | (obtain ⟨WW, hWW⟩ : ∃ WW, ((wn13).drewN 3) = WW := ⟨_, rfl⟩; rw [hWW]; have hX' : Blk WW X 31 #[.slice none 0 0, .slice none 0 0] := (by rw [← hWW]; exact hX); have hG1' : Blk WW G1 9 (textCells (List.replicate m [])).toArray := (by rw [← hWW]; exact hG1); have hG2' : Blk WW G2 51 (List.replicate n nilV).toArray := (by rw [← hWW]; exact hG2); have hb' : Below B0 W0 WW := (by rw [← hWW]; exact drewN_below hbn 3); exact Eq.mp (by kernel_rfl) (KEY WW X G1 G2 ⟨hX', hG1', hG2', hXle, hG1le, hG2le, hb'⟩))
      · obtain ⟨G2, hG2e⟩ : ∃ G2, (((W0).alloc (.cells #[.slice none 0 0, .slice none 0 0] 31))).heap.size = G2 := ⟨_, rfl⟩
        have hG2le : B0 ≤ G2 := by rw [← hG2e]; exact Nat.le_trans hBle.out hbn.size
        refine wp_make_abs (.tmp 12) (.tmp 12) 29 rfl 51 i2 (.slice none 0 0) 1 Tryz.underlying29 h2i h2z h2s .i64 .i64 n (by kernel_rfl) (by kernel_rfl) (by rw [h2b]; omega) (by unfold maxLen; omega) G2 hG2e ?_
        intro wn14 hG2 hbv
        rw [made_rows] at hG2
        (try replace hbv := from_drew hbv)
        replace hX := blk_on hX hbv (blk_lt hX)
        replace hbn := fb2 hbn hbv hBle.out
        clear hbv
        clear hG2e
        change K (Act.put _ (some 13) _) _
        refine hK.out _ _ ?_ (fun hHeld => ?_)
        · (try dsimp only); (first | exact hbn | exact hbn.drew)
        clear hK K
        (try simp only [Act.put, List.setIfInBounds_toArray, List.set_cons_zero, List.set_cons_succ])
        refine wpAnyH_ready (rs := [2]) (by kernel_rfl) (by simp) ?_
        refine AllReadyH.cons rfl (fun K hK => ?_) AllReadyH.nil
        · obtain ⟨G1, hG1e⟩ : ∃ G1, (wn14).heap.size = G1 := ⟨_, rfl⟩
          have hG1le : B0 ≤ G1 := by rw [← hG1e]; exact Nat.le_trans hBle.out hbn.size
          refine wp_make_abs (.tmp 10) (.tmp 10) 28 rfl 9 i1 (.string ⟨#[]⟩) 1 Tryz.underlying28 h1i h1z h1s .i64 .i64 m (by kernel_rfl) (by kernel_rfl) (by rw [h1b]; omega) (by unfold maxLen; omega) G1 hG1e ?_
          intro wn15 hG1 hbv
          rw [made_texts] at hG1
          (try replace hbv := from_drew hbv)
          replace hG2 := blk_on hG2 hbv (blk_lt hG2)
          replace hX := blk_on hX hbv (blk_lt hX)
          replace hbn := fb2 hbn hbv hBle.out
          clear hbv
          clear hG1e
          change K (Act.put _ (some 11) _) _
          refine hK.out _ _ ?_ (fun hHeld => ?_)
          · (try dsimp only); (first | exact hbn | exact hbn.drew)
          clear hK K
          (try simp only [Act.put, List.setIfInBounds_toArray, List.set_cons_zero, List.set_cons_succ])
          refine wpAnyH_take (i := 5) (oi := ⟨some 14, _, _, _, _, _⟩) (v := ?_) rfl (by kernel_rfl) (by kernel_rfl) (by kernel_rfl) (fun _ _ _ h => h) (Or.inl ⟨by kernel_rfl, ?_⟩) (by assumption) ?_
          rotate_left
          · (intro ww hSw; (try dsimp only at hSw); go_simp); (try with_reducible rfl)
          (try simp only [Act.put, List.setIfInBounds_toArray, List.set_cons_zero, List.set_cons_succ])
          first
            | (obtain ⟨WW, hWW⟩ : ∃ WW, (wn15) = WW := ⟨_, rfl⟩; rw [hWW]; have hX' : Blk WW X 31 #[.slice none 0 0, .slice none 0 0] := (by rw [← hWW]; exact hX); have hG1' : Blk WW G1 9 (textCells (List.replicate m [])).toArray := (by rw [← hWW]; exact hG1); have hG2' : Blk WW G2 51 (List.replicate n nilV).toArray := (by rw [← hWW]; exact hG2); have hb' : Below B0 W0 WW := (by rw [← hWW]; exact hbn); exact Eq.mp (by kernel_rfl) (KEY WW X G1 G2 ⟨hX', hG1', hG2', hXle, hG1le, hG2le, hb'⟩))
            | (obtain ⟨WW, hWW⟩ : ∃ WW, ((wn15).drew) = WW := ⟨_, rfl⟩; rw [hWW]; have hX' : Blk WW X 31 #[.slice none 0 0, .slice none 0 0] := (by rw [← hWW]; exact hX); have hG1' : Blk WW G1 9 (textCells (List.replicate m [])).toArray := (by rw [← hWW]; exact hG1); have hG2' : Blk WW G2 51 (List.replicate n nilV).toArray := (by rw [← hWW]; exact hG2); have hb' : Below B0 W0 WW := (by rw [← hWW]; exact hbn.drew); exact Eq.mp (by kernel_rfl) (KEY WW X G1 G2 ⟨hX', hG1', hG2', hXle, hG1le, hG2le, hb'⟩))
            | (obtain ⟨WW, hWW⟩ : ∃ WW, ((wn15).drew.drew) = WW := ⟨_, rfl⟩; rw [hWW]; have hX' : Blk WW X 31 #[.slice none 0 0, .slice none 0 0] := (by rw [← hWW]; exact hX); have hG1' : Blk WW G1 9 (textCells (List.replicate m [])).toArray := (by rw [← hWW]; exact hG1); have hG2' : Blk WW G2 51 (List.replicate n nilV).toArray := (by rw [← hWW]; exact hG2); have hb' : Below B0 W0 WW := (by rw [← hWW]; exact hbn.drew.drew); exact Eq.mp (by kernel_rfl) (KEY WW X G1 G2 ⟨hX', hG1', hG2', hXle, hG1le, hG2le, hb'⟩))
            | (obtain ⟨WW, hWW⟩ : ∃ WW, ((wn15).drewN 2) = WW := ⟨_, rfl⟩; rw [hWW]; have hX' : Blk WW X 31 #[.slice none 0 0, .slice none 0 0] := (by rw [← hWW]; exact hX); have hG1' : Blk WW G1 9 (textCells (List.replicate m [])).toArray := (by rw [← hWW]; exact hG1); have hG2' : Blk WW G2 51 (List.replicate n nilV).toArray := (by rw [← hWW]; exact hG2); have hb' : Below B0 W0 WW := (by rw [← hWW]; exact drewN_below hbn 2); exact Eq.mp (by kernel_rfl) (KEY WW X G1 G2 ⟨hX', hG1', hG2', hXle, hG1le, hG2le, hb'⟩))
            | (obtain ⟨WW, hWW⟩ : ∃ WW, ((wn15).drewN 3) = WW := ⟨_, rfl⟩; rw [hWW]; have hX' : Blk WW X 31 #[.slice none 0 0, .slice none 0 0] := (by rw [← hWW]; exact hX); have hG1' : Blk WW G1 9 (textCells (List.replicate m [])).toArray := (by rw [← hWW]; exact hG1); have hG2' : Blk WW G2 51 (List.replicate n nilV).toArray := (by rw [← hWW]; exact hG2); have hb' : Below B0 W0 WW := (by rw [← hWW]; exact drewN_below hbn 3); exact Eq.mp (by kernel_rfl) (KEY WW X G1 G2 ⟨hX', hG1', hG2', hXle, hG1le, hG2le, hb'⟩))
  case key =>
    rintro W X G1 G2 ⟨hX, hG1, hG2, hXle, hG1le, hG2le, hbn⟩
    refine wpAnyH_ready (rs := [7]) (by kernel_rfl) (by simp) ?_
    refine AllReadyH.cons rfl (fun K hK => ?_) AllReadyH.nil
    refine wp_whole_abs 31 (.tmp 5) (.tmp 14) rfl X #[.slice (some ⟨G1, 0, none⟩) m m, .slice (some ⟨G2, 0, none⟩) n n] (by kernel_rfl) (by kernel_rfl) 31 #[.slice none 0 0, .slice none 0 0] hX (by kernel_rfl) rfl (by kernel_rfl) ?_
    intro W4 hX4 hgr
    have hG14 := blk_grown hG1 (blk_kinds hG1 hX (Ne.symm tab_str)) hgr
    have hG24 := blk_grown hG2 (blk_kinds hG2 hX (Ne.symm tab_row)) hgr
    have hbn4 : Below B0 W0 W4 := hbn.grown hgr (Nat.le_trans hBle.out hbn.size) (fun k hk => by injection hk with hk; omega)
    have hA4 := blk_on HA.out hbn4 HAB.out
    clear hgr hG1 hG2 hX
    change K (Act.put _ none undef) _
    refine hK.out _ _ ?_ (fun hHeld => ?_)
    · (try dsimp only); first | exact hbn4 | exact hbn4.drew
    clear hK K
    (try simp only [Act.put])
    refine wpAnyH_done (by kernel_rfl) ?_ _
    obtain ⟨N, hN⟩ : ∃ N, n * m = N := ⟨_, rfl⟩
    have hmul : (n : Int) * (m : Int) = (N : Int) := by rw [← hN]; rfl
    have hNb : N ≤ 1000000000000 := by rw [← hN]; exact Nat.mul_le_mul hn hm
    have HNE := Lib.hid hN
    clear hN
    have q0 : W4.cell? ⟨X, 0, none⟩ = some (.slice (some ⟨G1, 0, none⟩) m m) := by rw [blk_cell hX4]; rfl
    have HC1 := Lib.hid (show (textCells V).length = m * i1.size by rw [h1s, textCells_length, HME.out, Nat.mul_one])
    have HC2 := Lib.hid (show 0 < m → ∃ ad, a = some ad ∧ ∀ j v, (textCells V)[j]? = some v → W4.cell? (ad.add j) = some v from fun h0 => by
      obtain ⟨g, o, he, hg, hc⟩ := HV.out.cells h0
      refine ⟨_, he, fun j v hv => ?_⟩
      rw [add_at]
      have hj : j < V.length := by rw [← textCells_length]; exact (List.getElem?_eq_some_iff.1 hv).1
      unfold textCells at hv
      rw [List.getElem?_map, List.getElem?_eq_getElem hj] at hv
      have e : Value.string (bs V[j]) = v := by simpa using hv
      rw [← e]
      refine keptC (keptC (hc j hj) HB0.out hg) hbn4 ?_
      have := HAE.out
      have := HAB.out
      omega)
    have HC3 := Lib.hid (show (textCells (List.replicate m [])).take 0 ++ textCells V ++ (textCells (List.replicate m [])).drop (0 + (textCells V).length) = textCells V by
      rw [List.take_zero, List.nil_append, Nat.zero_add, List.drop_eq_nil_of_le (by rw [textCells_length, textCells_length, List.length_replicate, HME.out]; exact Nat.le_refl _), List.append_nil])
    have HC4 := Lib.hid (show 0 + (textCells V).length ≤ (textCells (List.replicate m [])).length by rw [textCells_length, textCells_length, List.length_replicate, HME.out]; omega)
    have HC5 := Lib.hid (show ∀ v ∈ textCells V, v.oneCell' = true from fun v hv => by obtain ⟨x, _, rfl⟩ := List.mem_map.1 hv; rfl)
    have HX4 := Lib.hid hX4
    have HA4 := Lib.hid hA4
    have HG1 := Lib.hid hG14
    have HG2 := Lib.hid hG24
    have HBN := Lib.hid hbn4
    have HLE := Lib.hid (And.intro hXle (And.intro hG1le hG2le))
    clear hX4 hA4 hG14 hG24 hbn4 hXle hG1le hG2le
    go_wp2_with (first
      | (refine copy_abs (.tmp 16) (.tmp 17) 28 28 ⟨rfl, rfl⟩ 9 i1 Tryz.underlying28 h1i G1 0 m m a m c m rfl rfl (Nat.min_self m) 9 (textCells (List.replicate m [])) (textCells V) (textCells V) HG1.out HC1.out HC2.out HC3.out HC4.out HC5.out ?_; intro w5 hG15 hgr5; have HX5 := Lib.hid (blk_grown HX4.out (blk_kinds HX4.out HG1.out tab_str) hgr5.out); have HA5 := Lib.hid (blk_grown HA4.out (blk_kinds HA4.out HG1.out tab_str) hgr5.out); have HG25 := Lib.hid (blk_grown HG2.out (blk_kinds HG2.out HG1.out row_str) hgr5.out); have HB5 := Lib.hid (HBN.out.grown hgr5.out (Nat.le_trans hBle.out HBN.out.size) (fun k hk => by injection hk with hk; have := HLE.out; omega)); clear hgr5)
      | (at_make; obtain ⟨G3, hG3e⟩ : ∃ G3, w5.heap.size = G3 := ⟨_, rfl⟩; refine make_abs (.tmp 23) (.tmp 23) 51 ⟨rfl, rfl⟩ 23 i3 nilT.v 4 Tryz.underlying51 h3i h3z h3s .i64 .i64 N (by first | rfl | (rw [hmul]; rfl)) (by first | rfl | (rw [hmul]; rfl)) (by rw [h3b]; omega) (by unfold maxLen; omega) G3 hG3e ?_; intro w6 hG36 hb6; have q1 : w6.cell? ⟨X, 1, none⟩ = some (.slice (some ⟨G2, 0, none⟩) n n) := (by rw [blk_cell (blk_on HX5.out hb6.out (blk_lt HX5.out))]; rfl)))
    have HME2 := Lib.hid (show n * V.length = N by rw [HME.out]; exact HNE.out)
    have HR0 := Lib.hid (show GridR A B0 W0 V n X G1 G2 G3 0 (.slice (some ⟨G3, 0, none⟩) N N) w6 from by
      refine ⟨blk_on HA5.out hb6.out (blk_lt HA5.out), ?_, blk_on hG15.out hb6.out (blk_lt hG15.out), ?_, ?_, ⟨0, ?_, fun _ => ?_⟩, fb2 HB5.out hb6.out hBle.out⟩
      · rw [HME.out]; exact blk_on HX5.out hb6.out (blk_lt HX5.out)
      · rw [HME.out, cutRows_zero]; exact blk_on HG25.out hb6.out (blk_lt HG25.out)
      · rw [HME2.out, ← made_terms]; exact hG36.out
      · rw [Nat.sub_zero, HME2.out]
      · rw [Nat.zero_mul, Nat.zero_mul])
    have HLE3 := Lib.hid (show B0 ≤ G3 by rw [← hG3e]; exact Nat.le_trans hBle.out HB5.out.size)
    clear q0 q1 hG3e hG15 hG36 hb6 HX5 HA5 HG25 HB5 HX4 HA4 HG1 HG2 HBN HC1 HC2 HC3 HC4 HC5 hmul
    go_loopg [7, 8, 28] n (fun g c _ i wr => ∃ k : Nat, i = .int .i64 k ∧ k + g = n ∧ Hid (GridR A B0 W0 V n X G1 G2 G3 k c wr))
    case atStart => exact ⟨0, rfl, by omega, HR0⟩
    case round =>
      obtain ⟨W1, rfl⟩ : ∃ W1, W1 = wr := ⟨_, rfl⟩
      obtain ⟨k, rfl, hkg, HR⟩ := hrel
      obtain ⟨hA, hX, hG1, hG2, hG3, ⟨o, rfl, ho⟩, hb⟩ := HR.out
      rw [HME.out] at hX hG2
      obtain ⟨q, hq⟩ : ∃ q, (n - k) * V.length = q := ⟨_, rfl⟩
      rw [hq]
      have q1 : W1.cell? ⟨X, 1, none⟩ = some (.slice (some ⟨G2, 0, none⟩) n n) := by rw [blk_cell hX]; rfl
      by_cases hk : k < n
      · obtain ⟨gg, rfl⟩ : ∃ gg, gk = gg + 1 := ⟨gk - 1, by omega⟩
        have HO := Lib.hid (ho hk)
        have hmq : m ≤ q := by
          rw [← hq, HME.out]
          exact Nat.le_mul_of_pos_left m (by omega)
        have hqb : q ≤ 1000000000000 := by
          rw [← hq, HME.out]
          exact Nat.mul_le_mul (show n - k ≤ 1000000 by omega) hm
        have HQ := Lib.hid hq
        obtain ⟨o2, ho2⟩ : ∃ o2, (if q = m then o else o + m * 4) = o2 := ⟨_, rfl⟩
        have HO2 := Lib.hid ho2
        have HA1 := Lib.hid hA
        have HX1 := Lib.hid hX
        have HG11 := Lib.hid hG1
        have HG21 := Lib.hid hG2
        have HG31 := Lib.hid hG3
        have hbn := hb
        have HCL := Lib.hid (cutRows_length (G := G3) (m := m) (Nat.le_of_lt hk))
        clear hq ho2 ho hA hX hG1 hG2 hG3 hb
        have k0 : (0 : Int) ≤ (k : Int) := by omega
        have k1 : (k : Int) < (n : Int) := by omega
        have m0 : (0 : Int) ≤ (m : Int) := by omega
        have m1 : (m : Int) ≤ (q : Int) := by omega
        go_wp2_with fail
        refine wp_region_held_drew (S := (fun W => Below B0 W0 W ∧ Blk W X 31 #[.slice (some ⟨G1, 0, none⟩) m m, .slice (some ⟨G2, 0, none⟩) n n])) (by kernel_rfl) ?_ (fun hHeld => ?_)
        · (try dsimp only); exact ⟨hbn.drew, HX1.out⟩
        refine wpAnyH_take (i := 0) (oi := ⟨some 31, _, _, _, _, _⟩) (v := ?_) rfl (by kernel_rfl) (by kernel_rfl) (by kernel_rfl) (fun _ _ _ h => h) (Or.inl ⟨by kernel_rfl, ?_⟩) (by assumption) ?_
        rotate_left
        · (intro ww hSw; (try dsimp only at hSw); go_simp); (try with_reducible rfl)
        (try simp only [Act.put, List.setIfInBounds_toArray, List.set_cons_zero, List.set_cons_succ])
        refine wpAnyH_take (i := 1) (oi := ⟨some 32, _, _, _, _, _⟩) (v := ?_) rfl (by kernel_rfl) (by kernel_rfl) (by kernel_rfl) (fun _ _ _ h => h) (Or.inl ⟨by kernel_rfl, ?_⟩) (by assumption) ?_
        rotate_left
        · (intro ww hSw; (try dsimp only at hSw); have cX : ww.cell? ⟨X, 1, none⟩ = some (.slice (some ⟨G2, 0, none⟩) n n) := (by rw [blk_cell hSw.2]; rfl); go_simp); (try with_reducible rfl)
        (try simp only [Act.put, List.setIfInBounds_toArray, List.set_cons_zero, List.set_cons_succ])
        refine wpAnyH_take (i := 2) (oi := ⟨some 33, _, _, _, _, _⟩) (v := ?_) rfl (by kernel_rfl) (by kernel_rfl) (by kernel_rfl) (fun _ _ _ h => h) (Or.inl ⟨by kernel_rfl, ?_⟩) (by assumption) ?_
        rotate_left
        · (intro ww hSw; (try dsimp only at hSw); go_simp); (try with_reducible rfl)
        (try simp only [Act.put, List.setIfInBounds_toArray, List.set_cons_zero, List.set_cons_succ])
        refine wpAnyH_take (i := 3) (oi := ⟨some 34, _, _, _, _, _⟩) (v := ?_) rfl (by kernel_rfl) (by kernel_rfl) (by kernel_rfl) (fun _ _ _ h => h) (Or.inl ⟨by kernel_rfl, ?_⟩) (by assumption) ?_
        rotate_left
        · (intro ww hSw; (try dsimp only at hSw); go_simp); (try with_reducible rfl)
        (try simp only [Act.put, List.setIfInBounds_toArray, List.set_cons_zero, List.set_cons_succ])
        refine wpAnyH_take (i := 4) (oi := ⟨some 35, _, _, _, _, _⟩) (v := ?_) rfl (by kernel_rfl) (by kernel_rfl) (by kernel_rfl) (fun _ _ _ h => h) (Or.inl ⟨by kernel_rfl, ?_⟩) (by assumption) ?_
        rotate_left
        · (intro ww hSw; (try dsimp only at hSw); go_simp); (try with_reducible rfl)
        (try simp only [Act.put, List.setIfInBounds_toArray, List.set_cons_zero, List.set_cons_succ])
        refine wpAnyH_take (i := 5) (oi := ⟨some 36, _, _, _, _, _⟩) (v := ?_) rfl (by kernel_rfl) (by kernel_rfl) (by kernel_rfl) (fun _ _ _ h => h) (Or.inl ⟨by kernel_rfl, ?_⟩) (by assumption) ?_
        rotate_left
        · (intro ww hSw; (try dsimp only at hSw); go_simp); (try with_reducible rfl)
        (try simp only [Act.put, List.setIfInBounds_toArray, List.set_cons_zero, List.set_cons_succ])
        refine wpAnyH_take (i := 6) (oi := ⟨some 37, _, _, _, _, _⟩) (v := .slice (some ⟨G3, o, none⟩) m m) rfl (by kernel_rfl) (by kernel_rfl) (by kernel_rfl) (fun _ _ _ h => h) (Or.inl ⟨by kernel_rfl, ?_⟩) (by assumption) ?_
        · (intro ww hSw; (try dsimp only at hSw); go_simp)
        (try simp only [Act.put, List.setIfInBounds_toArray, List.set_cons_zero, List.set_cons_succ])
        refine wpAnyH_take (i := 7) (oi := ⟨some 38, _, _, _, _, _⟩) (v := ?_) rfl (by kernel_rfl) (by kernel_rfl) (by kernel_rfl) (fun _ _ _ h => h) (Or.inl ⟨by kernel_rfl, ?_⟩) (by assumption) ?_
        rotate_left
        · (intro ww hSw; (try dsimp only at hSw); go_simp); (try with_reducible rfl)
        (try simp only [Act.put, List.setIfInBounds_toArray, List.set_cons_zero, List.set_cons_succ])
        refine wpAnyH_take (i := 8) (oi := ⟨some 39, _, _, _, _, _⟩) (v := ?_) rfl (by kernel_rfl) (by kernel_rfl) (by kernel_rfl) (fun _ _ _ h => h) (Or.inl ⟨by kernel_rfl, ?_⟩) (by assumption) ?_
        rotate_left
        · (intro ww hSw; (try dsimp only at hSw); go_simp); (try with_reducible rfl)
        (try simp only [Act.put, List.setIfInBounds_toArray, List.set_cons_zero, List.set_cons_succ])
        refine wpAnyH_take (i := 9) (oi := ⟨some 40, _, _, _, _, _⟩) (v := .slice (some ⟨G3, o2, none⟩) (q - m) (q - m)) rfl (by kernel_rfl) (by kernel_rfl) (by kernel_rfl) (fun _ _ _ h => h) (Or.inl ⟨by kernel_rfl, ?_⟩) (by assumption) ?_
        · (intro ww hSw; (try dsimp only at hSw); (rw [← HO2.out]; exact (Decidable.em (q = m)).elim (fun hqm => by rw [if_pos hqm]; subst hqm; go_simp) (fun hqm => by rw [if_neg hqm]; go_simp)))
        (try simp only [Act.put, List.setIfInBounds_toArray, List.set_cons_zero, List.set_cons_succ])
        refine wpAnyH_take (i := 10) (oi := ⟨some 41, _, _, _, _, _⟩) (v := .pointer (some ⟨G2, k, none⟩)) rfl (by kernel_rfl) (by kernel_rfl) (by kernel_rfl) (fun _ _ _ h => h) (Or.inl ⟨by kernel_rfl, ?_⟩) (by assumption) ?_
        · (intro ww hSw; (try dsimp only at hSw); go_simp)
        (try simp only [Act.put, List.setIfInBounds_toArray, List.set_cons_zero, List.set_cons_succ])
        refine wpAnyH_ready (rs := [11]) (by kernel_rfl) (by simp) ?_
        refine AllReadyH.cons rfl (fun K hK => ?_) AllReadyH.nil
        refine wp_one_abs 51 (.tmp 41) (.tmp 37) rfl G2 k (cutV G3 m o) (by kernel_rfl) (by kernel_rfl) rfl rfl 51 (cutRows G3 m n k) HG21.out (by kernel_rfl) (by rw [HCL.out]; exact hk) ?_
        intro W8 hG28 hgr8
        replace hgr8 : W1.grownBy W8 (some G2) := ⟨hgr8.os, hgr8.tape, hgr8.output, hgr8.size, hgr8.block⟩
        have HG28 := Lib.hid (show Blk W8 G2 51 (cutRows G3 m n (k + 1)).toArray by rw [← cutRows_next hk, show k * m * 4 = o by rw [HO.out, HME.out]]; exact hG28)
        have HX8 := Lib.hid (blk_grown HX1.out (blk_kinds HX1.out HG21.out tab_row) hgr8)
        have HA8 := Lib.hid (blk_grown HA1.out (blk_kinds HA1.out HG21.out tab_row) hgr8)
        have HG18 := Lib.hid (blk_grown HG11.out (blk_kinds HG11.out HG21.out (Ne.symm row_str)) hgr8)
        have HG38 := Lib.hid (blk_grown HG31.out (blk_kinds HG31.out HG21.out (Ne.symm row_trm)) hgr8)
        have HB8 := Lib.hid (show Below B0 W0 W8 from hbn.grown hgr8 (Nat.le_trans hBle.out hbn.size) (fun k hk => by injection hk with hk; have := HLE.out; omega))
        clear hG28 hgr8
        change K (Act.put _ none undef) _
        refine hK.out _ _ ?_ (fun hHeld => ?_)
        · (try dsimp only); exact ⟨HB8.out, HX8.out⟩
        clear hK K
        (try simp only [Act.put])
        refine wpAnyH_take (i := 12) (oi := ⟨some 7, _, _, _, _, _⟩) (v := ?_) rfl (by kernel_rfl) (by kernel_rfl) (by kernel_rfl) (fun _ _ _ h => h) (Or.inl ⟨by kernel_rfl, ?_⟩) (by assumption) ?_
        rotate_left
        · (intro ww hSw; (try dsimp only at hSw); go_simp); (try with_reducible rfl)
        (try simp only [Act.put, List.setIfInBounds_toArray, List.set_cons_zero, List.set_cons_succ])
        refine wpAnyH_done (by kernel_rfl) ?_ _
        go_wp2
        go_roundg gg
        case measure => omega
        case rel =>
          refine ⟨k + 1, by go_num, by omega, Lib.hid ⟨HA8.out, by rw [HME.out]; exact HX8.out, HG18.out, by rw [HME.out]; exact HG28.out, HG38.out, ⟨o2, ?_, fun h2 => ?_⟩, HB8.out⟩⟩
          · have e : q - m = (n - (k + 1)) * V.length := by
              rw [← HQ.out, HME.out, show n - k = (n - (k + 1)) + 1 by omega, Nat.succ_mul, Nat.add_sub_cancel]
            rw [← e]
          · rw [← HO2.out, HO.out, HME.out]
            by_cases hqm : q = m
            · rw [if_pos hqm]
              have h3 := HQ.out
              rw [HME.out, hqm, show n - k = (n - (k + 2)) + 1 + 1 by omega, Nat.succ_mul, Nat.succ_mul] at h3
              have hm0 : m = 0 := by omega
              rw [hm0, Nat.mul_zero, Nat.mul_zero]
            · rw [if_neg hqm, Nat.succ_mul, Nat.add_mul]
      · have hkn : k = n := by omega
        have k1 : ¬ (k : Int) < (n : Int) := by omega
        rw [hkn] at hG2
        have q0 : W1.cell? ⟨X, 0, none⟩ = some (.slice (some ⟨G1, 0, none⟩) m m) := by rw [blk_cell hX]; rfl
        have HG21 := Lib.hid hG2
        have HG31 := Lib.hid hG3
        have HG11 := Lib.hid hG1
        have HA1 := Lib.hid hA
        have HB1 := Lib.hid hb
        clear hA hX hG1 hG2 hG3 hb ho hq
        go_wp2_with (refine whole_abs 31 (.tmp 4) (.tmp 43) ⟨rfl, rfl⟩ A #[.slice (some ⟨G1, 0, none⟩) m m, .slice (some ⟨G2, 0, none⟩) n n] rfl rfl 31 #[.slice none 0 0, .slice none 0 0] HA1.out (by kernel_rfl) rfl (by kernel_rfl) ?_; intro w9 hA9 hG9)
        have q2 : w9.cell? ⟨A, 0, none⟩ = some (.slice (some ⟨G1, 0, none⟩) m m) := by rw [blk_cell hA9.out]; rfl
        have q3 : w9.cell? ⟨A, 1, none⟩ = some (.slice (some ⟨G2, 0, none⟩) n n) := by rw [blk_cell hA9.out]; rfl
        refine bodyPost_ret (v := .agg #[.slice (some ⟨G1, 0, none⟩) m m, .slice (some ⟨G2, 0, none⟩) n n]) (by simp [results, Tryz.results73, q2, q3, go_sem]) rfl ⟨_, rfl, ?_, ?_⟩
        · have hle : w.heap.size ≤ B0 := by have := HAE.out; have := HAB.out; omega
          have hl := HLE.out
          have hl3 := HLE3.out
          refine ⟨G1, G2, G3, by rw [HME.out], by omega, by omega, by omega, ?_, ?_, ?_, by rw [List.length_replicate, HME.out]⟩
          · exact blk_grown HG11.out (blk_kinds HG11.out HA1.out (Ne.symm tab_str)) hG9.out
          · rw [HME.out]; exact blk_grown HG21.out (blk_kinds HG21.out HA1.out (Ne.symm tab_row)) hG9.out
          · have := blk_grown HG31.out (blk_kinds HG31.out HA1.out (Ne.symm tab_trm)) hG9.out
            rw [HME.out] at this
            exact this
        · exact (HB0.out.trans (HB1.out.mono (by have := HAE.out; have := HAB.out; omega))).grown hG9.out (Nat.le_trans HB0.out.size (Nat.le_trans (Nat.le_refl _) HB1.out.size)) (fun j hj => by injection hj with hj; have := HAE.out; omega)

end Go.Proofs.YtkfemnjblbnclaaGreatDoor
