/- NumRefAdd, RGrpSum, put together. -/
import Derived.Test.YtdnfaoanaehjhaaGreatDoorH17
import Derived.Test.YtdnfaoanaehjhaaGreatDoorH18
import Derived.Test.YtdnfaoanaehjhaaGreatDoorH23
import Derived.Test.YtdnfaoanaehjhaaGreatDoorH24
import Derived.Test.YtdnfaoanaehjhaaGreatDoorH33

/- The document's own sums: what package number makes of two right numbers. -/
namespace Go.Proofs.YtdnfaoanaehjhaaGreatDoor.Nm
open Go.RowKit

set_option maxHeartbeats 2000000 in
theorem rReckon1 (v : Int) (s : Nat) (d : Bool) (v' : Int) (s' : Nat) (d' : Bool) (w : World) (hs : s ≤ 4) (h1 : -999999999 ≤ v) (h2 : v ≤ 999999999) (hs' : s' ≤ 4) (h1' : -999999999 ≤ v') (h2' : v' ≤ 999999999) :
    Calls Tryz.prog 77 #[.int .i64 1, .agg #[.int .i64 v, .int .i64 s, .bool d], .agg #[.int .i64 v', .int .i64 s', .bool d']] w fun e w' => e = .returned (NumL.ret (madeL (amt v s + amt v' s') 4 (decOf d d'))) ∧ Below w.heap.size w w' := by
  have hb := amt_bound v s h1 h2 hs
  have hb' := amt_bound v' s' h1' h2' hs'
  have hsp : ∀ W, Calls Tryz.prog 84 #[.agg #[.int .i64 v, .int .i64 s, .bool d]] W fun e w' => e = .returned (.int .i64 (amt v s)) ∧ Below W.heap.size W w' := fun W => rAmount_calls v s d W hs h1 h2
  have hsp' : ∀ W, Calls Tryz.prog 84 #[.agg #[.int .i64 v', .int .i64 s', .bool d']] W fun e w' => e = .returned (.int .i64 (amt v' s')) ∧ Below W.heap.size W w' := fun W => rAmount_calls v' s' d' W hs' h1' h2'
  have HS := Lib.hid hsp
  have HS' := Lib.hid hsp'
  have hre : ∀ W, Calls Tryz.prog 83 #[.int .i64 (amt v s + amt v' s'), .int .i64 4, .bool (decOf d d')] W fun e w' => e = .returned (NumL.ret (madeL (amt v s + amt v' s') 4 (decOf d d'))) ∧ Below W.heap.size W w' := fun W => rCut_calls (amt v s + amt v' s') 4 (decOf d d') W (by omega) (by omega) (by omega)
  have HM := Lib.hid hre
  clear hsp hsp' hre
  generalize amt v s = A at hb HS HM
  generalize amt v' s' = B at hb' HS' HM
  generalize madeL (A + B) 4 (decOf d d') = R at HM
  obtain ⟨⟨Rv, Rs, Rd⟩, Rb⟩ := R
  have n1 : ¬ w.heap.size = w.heap.size + 1 + 1 := by omega
  have n2 : ¬ w.heap.size + 1 + 1 = w.heap.size := by omega
  have hw0 : IntKind.i64.wrap (A + B) = A + B := IntWalk.i64_in _ (by omega)
  have hB : Below (boxed w 48 (.int .i64 v) (.int .i64 s) (.bool d) (.int .i64 v') (.int .i64 s') (.bool d') (.int .i64 0) (.int .i64 0) (.bool false)).heap.size (boxed w 48 (.int .i64 v) (.int .i64 s) (.bool d) (.int .i64 v') (.int .i64 s') (.bool d') (.int .i64 0) (.int .i64 0) (.bool false)) (boxed w 48 (.int .i64 v) (.int .i64 s) (.bool d) (.int .i64 v') (.int .i64 s') (.bool d') (.int .i64 0) (.int .i64 0) (.bool false)) := Below.refl _ _
  obtain ⟨c0, c1, c2, c3, c4, c5, ⟨c6, c7, c8⟩, c9⟩ := boxes hB
  cases d with
  | true =>
    have HO := Lib.hid (show decOf true d' = true from rfl)
    rw [HO.out] at HM
    go_enter Tryz.func77, Tryz.ntmps77
    go_wp2_with fail
    change Code.wp _ _ _ _ (boxed _ _ _ _ _ _ _ _ _ _ _)
    refine wp_region_held_drew (S := (fun W => W.cell? ⟨w.heap.size, 0, none⟩ = some (.int .i64 v) ∧ W.cell? ⟨w.heap.size, 1, none⟩ = some (.int .i64 s) ∧ W.cell? ⟨w.heap.size, 2, none⟩ = some (.bool true) ∧ W.cell? ⟨w.heap.size + 1, 0, none⟩ = some (.int .i64 v') ∧ W.cell? ⟨w.heap.size + 1, 1, none⟩ = some (.int .i64 s') ∧ W.cell? ⟨w.heap.size + 1, 2, none⟩ = some (.bool d'))) (by kernel_rfl) ?_ (fun hHeld => ?_)
    · (try dsimp only); go_keep
    refine wpAnyH_take (i := 0) (v := ?_) rfl (by kernel_rfl) (by kernel_rfl) (by kernel_rfl) (fun _ _ _ h => h) (Or.inl ⟨by rfl, ?_⟩) (by assumption) ?_
    rotate_left
    · (intro ww hSw; (try dsimp only at hSw); go_simp); (try with_reducible rfl)
    (try simp only [Act.put])
    refine wpAnyH_take (i := 2) (v := ?_) rfl (by kernel_rfl) (by kernel_rfl) (by kernel_rfl) (fun _ _ _ h => h) (Or.inl ⟨by rfl, ?_⟩) (by assumption) ?_
    rotate_left
    · (intro ww hSw; (try dsimp only at hSw); go_simp); (try with_reducible rfl)
    (try simp only [Act.put])
    refine wpAnyH_take (i := 5) (v := ?_) rfl (by kernel_rfl) (by kernel_rfl) (by kernel_rfl) (fun _ _ _ h => h) (Or.inl ⟨by rfl, ?_⟩) (by assumption) ?_
    rotate_left
    · (intro ww hSw; (try dsimp only at hSw); go_simp); (try with_reducible rfl)
    (try simp only [Act.put])
    refine wpAnyH_ready (rs := [1]) (by kernel_rfl) (by simp) ?_
    refine AllReadyH.cons rfl (fun K hK => ?_) AllReadyH.nil
    go_simp
    refine (HS.out _).mono ?_
    rintro e wn ⟨rfl, hbn⟩
    (first | replace hB := bnext hB hbn | replace hB := bnext hB.drew hbn)
    clear hbn c0 c1 c2 c3 c4 c5 c6 c7 c8 c9
    obtain ⟨c0, c1, c2, c3, c4, c5, ⟨c6, c7, c8⟩, c9⟩ := boxes hB
    go_wp2_with fail
    refine hK.out _ _ ?_ (fun hHeld => ?_)
    · (try dsimp only); go_keep
    clear hK K
    (try simp only [Act.put, List.setIfInBounds_toArray, List.set_cons_zero, List.set_cons_succ])
    refine wpAnyH_ready (rs := [3]) (by kernel_rfl) (by simp) ?_
    refine AllReadyH.cons rfl (fun K hK => ?_) AllReadyH.nil
    go_simp
    refine (HS'.out _).mono ?_
    rintro e wn ⟨rfl, hbn⟩
    (first | replace hB := bnext hB hbn | replace hB := bnext hB.drew hbn)
    clear hbn c0 c1 c2 c3 c4 c5 c6 c7 c8 c9
    obtain ⟨c0, c1, c2, c3, c4, c5, ⟨c6, c7, c8⟩, c9⟩ := boxes hB
    go_wp2_with fail
    refine hK.out _ _ ?_ (fun hHeld => ?_)
    · (try dsimp only); go_keep
    clear hK K
    (try simp only [Act.put, List.setIfInBounds_toArray, List.set_cons_zero, List.set_cons_succ])
    refine wpAnyH_take (i := 4) (v := ?_) rfl (by kernel_rfl) (by kernel_rfl) (by kernel_rfl) (fun _ _ _ h => h) (Or.inl ⟨by rfl, ?_⟩) (by assumption) ?_
    rotate_left
    · (intro ww hSw; (try dsimp only at hSw); go_simp); (try with_reducible rfl)
    (try simp only [Act.put])
    refine wpAnyH_ready (rs := [6]) (by kernel_rfl) (by simp) ?_
    refine AllReadyH.cons rfl (fun K hK => ?_) AllReadyH.nil
    go_simp
    refine (HM.out _).mono ?_
    rintro e wn ⟨rfl, hbn⟩
    (first | replace hB := bnext hB hbn | replace hB := bnext hB.drew hbn)
    clear hbn c0 c1 c2 c3 c4 c5 c6 c7 c8 c9
    obtain ⟨c0, c1, c2, c3, c4, c5, ⟨c6, c7, c8⟩, c9⟩ := boxes hB
    simp only [NumL.ret, NumL.val]
    go_wp2_with fail
    refine hK.out _ _ ?_ (fun hHeld => ?_)
    · (try dsimp only); go_keep
    clear hK K
    (try simp only [Act.put, List.setIfInBounds_toArray, List.set_cons_zero, List.set_cons_succ])
    refine wpAnyH_take (i := 7) (v := ?_) rfl (by kernel_rfl) (by kernel_rfl) (by kernel_rfl) (fun _ _ _ h => h) (Or.inl ⟨by rfl, ?_⟩) (by assumption) ?_
    rotate_left
    · (intro ww hSw; (try dsimp only at hSw); go_simp); (try with_reducible rfl)
    (try simp only [Act.put])
    refine wpAnyH_take (i := 8) (v := ?_) rfl (by kernel_rfl) (by kernel_rfl) (by kernel_rfl) (fun _ _ _ h => h) (Or.inl ⟨by rfl, ?_⟩) (by assumption) ?_
    rotate_left
    · (intro ww hSw; (try dsimp only at hSw); go_simp); (try with_reducible rfl)
    (try simp only [Act.put])
    refine wpAnyH_ready (rs := [9]) (by kernel_rfl) (by simp) ?_
    refine AllReadyH.cons rfl (fun K hK => ?_) AllReadyH.nil
    go_simp
    refine hK.out _ _ ?_ (fun hHeld => ?_)
    · (try dsimp only); go_keep
    clear hK K
    (try simp only [Act.put, List.setIfInBounds_toArray, List.set_cons_zero, List.set_cons_succ])
    refine wpAnyH_take (i := 10) (oi := ⟨some 7, _, _, _, _, _⟩) (v := ?_) rfl (by kernel_rfl) (by kernel_rfl) (by kernel_rfl) (fun _ _ _ h => h) (Or.inl ⟨by rfl, ?_⟩) (by assumption) ?_
    rotate_left
    · (intro ww hSw; (try dsimp only at hSw); go_simp); (try with_reducible rfl)
    (try simp only [Act.put])
    refine wpAnyH_done (by kernel_rfl) ?_ _
    go_wp2
    refine bodyPost_ret (v := .tuple #[.agg #[.int .i64 Rv, .int .i64 Rs, .bool Rd], .bool Rb]) (by simp [results, Tryz.results77, *, go_sem]) rfl ⟨rfl, ?_⟩
    exact ((((boxed_below hB)).setCell (by simp; omega) _).setCell (by simp; omega) _).setCell (by simp; omega) _
  | false =>
    have HO := Lib.hid (show decOf false d' = d' from rfl)
    rw [HO.out] at HM
    go_enter Tryz.func77, Tryz.ntmps77
    go_wp2_with fail
    change Code.wp _ _ _ _ (boxed _ _ _ _ _ _ _ _ _ _ _)
    refine wp_region_held_drew (S := (fun W => W.cell? ⟨w.heap.size, 0, none⟩ = some (.int .i64 v) ∧ W.cell? ⟨w.heap.size, 1, none⟩ = some (.int .i64 s) ∧ W.cell? ⟨w.heap.size, 2, none⟩ = some (.bool false) ∧ W.cell? ⟨w.heap.size + 1, 0, none⟩ = some (.int .i64 v') ∧ W.cell? ⟨w.heap.size + 1, 1, none⟩ = some (.int .i64 s') ∧ W.cell? ⟨w.heap.size + 1, 2, none⟩ = some (.bool d'))) (by kernel_rfl) ?_ (fun hHeld => ?_)
    · (try dsimp only); go_keep
    refine wpAnyH_take (i := 0) (v := ?_) rfl (by kernel_rfl) (by kernel_rfl) (by kernel_rfl) (fun _ _ _ h => h) (Or.inl ⟨by rfl, ?_⟩) (by assumption) ?_
    rotate_left
    · (intro ww hSw; (try dsimp only at hSw); go_simp); (try with_reducible rfl)
    (try simp only [Act.put])
    refine wpAnyH_take (i := 2) (v := ?_) rfl (by kernel_rfl) (by kernel_rfl) (by kernel_rfl) (fun _ _ _ h => h) (Or.inl ⟨by rfl, ?_⟩) (by assumption) ?_
    rotate_left
    · (intro ww hSw; (try dsimp only at hSw); go_simp); (try with_reducible rfl)
    (try simp only [Act.put])
    refine wpAnyH_take (i := 5) (v := ?_) rfl (by kernel_rfl) (by kernel_rfl) (by kernel_rfl) (fun _ _ _ h => h) (Or.inl ⟨by rfl, ?_⟩) (by assumption) ?_
    rotate_left
    · (intro ww hSw; (try dsimp only at hSw); go_simp); (try with_reducible rfl)
    (try simp only [Act.put])
    refine wpAnyH_ready (rs := [1]) (by kernel_rfl) (by simp) ?_
    refine AllReadyH.cons rfl (fun K hK => ?_) AllReadyH.nil
    go_simp
    refine (HS.out _).mono ?_
    rintro e wn ⟨rfl, hbn⟩
    (first | replace hB := bnext hB hbn | replace hB := bnext hB.drew hbn)
    clear hbn c0 c1 c2 c3 c4 c5 c6 c7 c8 c9
    obtain ⟨c0, c1, c2, c3, c4, c5, ⟨c6, c7, c8⟩, c9⟩ := boxes hB
    go_wp2_with fail
    refine hK.out _ _ ?_ (fun hHeld => ?_)
    · (try dsimp only); go_keep
    clear hK K
    (try simp only [Act.put, List.setIfInBounds_toArray, List.set_cons_zero, List.set_cons_succ])
    refine wpAnyH_ready (rs := [3]) (by kernel_rfl) (by simp) ?_
    refine AllReadyH.cons rfl (fun K hK => ?_) AllReadyH.nil
    go_simp
    refine (HS'.out _).mono ?_
    rintro e wn ⟨rfl, hbn⟩
    (first | replace hB := bnext hB hbn | replace hB := bnext hB.drew hbn)
    clear hbn c0 c1 c2 c3 c4 c5 c6 c7 c8 c9
    obtain ⟨c0, c1, c2, c3, c4, c5, ⟨c6, c7, c8⟩, c9⟩ := boxes hB
    go_wp2_with fail
    refine hK.out _ _ ?_ (fun hHeld => ?_)
    · (try dsimp only); go_keep
    clear hK K
    (try simp only [Act.put, List.setIfInBounds_toArray, List.set_cons_zero, List.set_cons_succ])
    refine wpAnyH_take (i := 4) (v := ?_) rfl (by kernel_rfl) (by kernel_rfl) (by kernel_rfl) (fun _ _ _ h => h) (Or.inl ⟨by rfl, ?_⟩) (by assumption) ?_
    rotate_left
    · (intro ww hSw; (try dsimp only at hSw); go_simp); (try with_reducible rfl)
    (try simp only [Act.put])
    refine wpAnyH_ready (rs := [6]) (by kernel_rfl) (by simp) ?_
    refine AllReadyH.cons rfl (fun K hK => ?_) AllReadyH.nil
    go_simp
    refine (HM.out _).mono ?_
    rintro e wn ⟨rfl, hbn⟩
    (first | replace hB := bnext hB hbn | replace hB := bnext hB.drew hbn)
    clear hbn c0 c1 c2 c3 c4 c5 c6 c7 c8 c9
    obtain ⟨c0, c1, c2, c3, c4, c5, ⟨c6, c7, c8⟩, c9⟩ := boxes hB
    simp only [NumL.ret, NumL.val]
    go_wp2_with fail
    refine hK.out _ _ ?_ (fun hHeld => ?_)
    · (try dsimp only); go_keep
    clear hK K
    (try simp only [Act.put, List.setIfInBounds_toArray, List.set_cons_zero, List.set_cons_succ])
    refine wpAnyH_take (i := 7) (v := ?_) rfl (by kernel_rfl) (by kernel_rfl) (by kernel_rfl) (fun _ _ _ h => h) (Or.inl ⟨by rfl, ?_⟩) (by assumption) ?_
    rotate_left
    · (intro ww hSw; (try dsimp only at hSw); go_simp); (try with_reducible rfl)
    (try simp only [Act.put])
    refine wpAnyH_take (i := 8) (v := ?_) rfl (by kernel_rfl) (by kernel_rfl) (by kernel_rfl) (fun _ _ _ h => h) (Or.inl ⟨by rfl, ?_⟩) (by assumption) ?_
    rotate_left
    · (intro ww hSw; (try dsimp only at hSw); go_simp); (try with_reducible rfl)
    (try simp only [Act.put])
    refine wpAnyH_ready (rs := [9]) (by kernel_rfl) (by simp) ?_
    refine AllReadyH.cons rfl (fun K hK => ?_) AllReadyH.nil
    go_simp
    refine hK.out _ _ ?_ (fun hHeld => ?_)
    · (try dsimp only); go_keep
    clear hK K
    (try simp only [Act.put, List.setIfInBounds_toArray, List.set_cons_zero, List.set_cons_succ])
    refine wpAnyH_take (i := 10) (oi := ⟨some 7, _, _, _, _, _⟩) (v := ?_) rfl (by kernel_rfl) (by kernel_rfl) (by kernel_rfl) (fun _ _ _ h => h) (Or.inl ⟨by rfl, ?_⟩) (by assumption) ?_
    rotate_left
    · (intro ww hSw; (try dsimp only at hSw); go_simp); (try with_reducible rfl)
    (try simp only [Act.put])
    refine wpAnyH_done (by kernel_rfl) ?_ _
    go_wp2
    refine bodyPost_ret (v := .tuple #[.agg #[.int .i64 Rv, .int .i64 Rs, .bool Rd], .bool Rb]) (by simp [results, Tryz.results77, *, go_sem]) rfl ⟨rfl, ?_⟩
    exact ((((boxed_below hB)).setCell (by simp; omega) _).setCell (by simp; omega) _).setCell (by simp; omega) _

end Go.Proofs.YtdnfaoanaehjhaaGreatDoor.Nm

/- The sum of terms as a term: the document's sum (written by gen/mkrend13.py). -/
namespace Go.Proofs.YtdnfaoanaehjhaaGreatDoor
open Go.RowKit

def RSumR (A : Nat) (w : World) (l : List TermL) (k : Nat) (wr : World) : Prop :=
  ∃ m, sumP (l.take k) = some m ∧ Blk wr A 37 #[.int .i64 0, .string ⟨#[]⟩, .string ⟨#[]⟩, .string ⟨#[]⟩] ∧ Blk wr (A + 1) 48 (cellsN m) ∧ Below w.heap.size w wr

set_option maxRecDepth 100000 in
set_option maxHeartbeats 8000000 in
theorem rSum_calls (l : List TermL) (hl : ∀ t ∈ l, t.ok) (a : Option Addr) (n c : Nat) (w : World) (h : TrmA w a n c l) : Calls Tryz.prog 49 #[.slice a n c] w fun e w' => e = .returned (sumT l).v ∧ Below w.heap.size w w' := by
  have HIN := Lib.hid h
  have HOK := Lib.hid hl
  have HL := Lib.hid h.len
  have hcp := h.cap
  have hms := h.most
  unfold maxLen at hms
  obtain ⟨A, hA⟩ : ∃ A, w.heap.size = A := ⟨_, rfl⟩
  obtain ⟨W0, hW0⟩ : ∃ W0, (w.alloc (.cells #[.int .i64 0, .string ⟨#[]⟩, .string ⟨#[]⟩, .string ⟨#[]⟩] 37)).alloc (.cells #[.int .i64 0, .int .i64 0, .bool false] 48) = W0 := ⟨_, rfl⟩
  have HS0 := Lib.hid (show RSumR A w l 0 W0 from by
    refine ⟨Nm.noNum, by rw [List.take_zero]; rfl, ?_, ?_, by rw [← hW0]; exact two_alloc _ _ _⟩
    · rw [← hW0, ← hA]; exact blk_alloc (blk_new _ _ _) _
    · rw [← hW0]
      have := blk_new (w.alloc (.cells #[.int .i64 0, .string ⟨#[]⟩, .string ⟨#[]⟩, .string ⟨#[]⟩] 37)) 48 #[.int .i64 0, .int .i64 0, .bool false]
      rw [World.size_alloc, hA] at this
      exact this)
  have HAE := Lib.hid hA
  have HW0 := Lib.hid hW0
  clear hA hW0 h hl
  go_enter Tryz.func49, Tryz.ntmps49
  go_wp2
  rw [HW0.out, HAE.out]
  go_loopg [4, 5, 6, 7, 8] n (fun g i _ _ _ _ wr => ∃ k : Nat, i = .int .i64 k ∧ k + g = n ∧ Hid (RSumR A w l k wr))
  case atStart => exact ⟨0, rfl, by omega, HS0⟩
  case round =>
    obtain ⟨W1, rfl⟩ : ∃ W1, W1 = wr := ⟨_, rfl⟩
    obtain ⟨k, rfl, hkg, HRD⟩ := hrel
    obtain ⟨m, hm, hA1, hX1, hB1⟩ := HRD.out
    have HM := Lib.hid hm
    have HA1 := Lib.hid hA1
    have HX1 := Lib.hid hX1
    have HB1 := Lib.hid hB1
    clear hm hA1 hX1 hB1 HRD
    have k0 : (0 : Int) ≤ (k : Int) := by omega
    by_cases hk : k < n
    · obtain ⟨gg, rfl⟩ : ∃ gg, gk = gg + 1 := ⟨gk - 1, by omega⟩
      have hkL : k < l.length := by rw [HL.out]; exact hk
      obtain ⟨g, o, ha, hgw, hcells⟩ := HIN.out.cells (by omega)
      subst ha
      have hgW : g < W1.heap.size := Nat.lt_of_lt_of_le hgw HB1.out.size
      obtain ⟨c0, c1, c2, c3⟩ := (hcells k hkL).on HB1.out hgw
      have HNX := Lib.hid (sum_next hkL)
      have HSN := Lib.hid (fun (q : sumP (l.take (k + 1)) = none) => sumT_none (sum_none q))
      have HC := Lib.hid (rOf_calls l[k] (HOK.out _ (List.getElem_mem hkL)) W1)
      have HON := Lib.hid (@of_numR l[k])
      have HMR := Lib.hid (sum_right HM.out)
      rw [HM.out, add_is] at HNX
      clear hcells
      generalize l[k] = y at c0 c1 c2 c3 HNX HC HON
      generalize ofP y = p at HNX HC HON
      obtain ⟨⟨nv, ns, nd⟩, b⟩ := p
      simp only [Nm.NumL.ret, Nm.NumL.val] at HC
      dsimp only at HNX HON
      obtain ⟨yk, yx, yy, yz⟩ := y
      simp only [TermL.v] at HC
      dsimp only at c0 c1 c2 c3
      have k1 : (k : Int) < (n : Int) := by omega
      cases b with
      | false =>
        have HE := Lib.hid (HSN.out (by rw [HNX.out]; rfl))
        clear HNX HSN HON HMR HM
        go_wp2_with fail
        refine HC.out.mono ?_
        rintro e w2 ⟨rfl, hb2⟩
        have HA2 := Lib.hid (blk_on HA1.out hb2 (blk_lt HA1.out))
        have HB2 := Lib.hid (fb2 HB1.out hb2 (Nat.le_refl _))
        clear hb2
        go_wp2_with (refine whole_abs 37 (.tmp 2) (.tmp 26) ⟨rfl, rfl⟩ A #[.int .i64 0, .string ⟨#[]⟩, .string ⟨#[]⟩, .string ⟨#[]⟩] rfl rfl 37 #[.int .i64 0, .string ⟨#[]⟩, .string ⟨#[]⟩, .string ⟨#[]⟩] (blk_alloc HA2.out _) (by kernel_rfl) rfl (by kernel_rfl) ?_; intro w9 hA9 hG9)
        have f0 : w9.cell? ⟨A, 0, none⟩ = some (.int .i64 0) := (blk_cell hA9.out 0).trans rfl
        have f1 : w9.cell? ⟨A, 1, none⟩ = some (.string ⟨#[]⟩) := (blk_cell hA9.out 1).trans rfl
        have f2 : w9.cell? ⟨A, 2, none⟩ = some (.string ⟨#[]⟩) := (blk_cell hA9.out 2).trans rfl
        have f3 : w9.cell? ⟨A, 3, none⟩ = some (.string ⟨#[]⟩) := (blk_cell hA9.out 3).trans rfl
        refine bodyPost_ret (v := .agg #[.int .i64 0, .string ⟨#[]⟩, .string ⟨#[]⟩, .string ⟨#[]⟩]) (by simp [results, Tryz.results49, f0, f1, f2, f3, go_sem]) rfl ⟨by rw [HE.out]; rfl, ?_⟩
        exact (fb2 HB2.out (box_below _ _) (Nat.le_refl _)).grown hG9.out (Nat.le_trans HB2.out.size (by simp)) (fun j hj => by injection hj with hj; have := HAE.out; omega)
      | true =>
        have hn := HON.out rfl
        obtain ⟨s, e1, hs4⟩ := HMR.out.s
        obtain ⟨s', e2, hs4'⟩ := hn.s
        dsimp only at e2
        subst e2
        have HK := Lib.hid (fun W => Nm.rReckon1 m.v s m.d nv s' nd W hs4 HMR.out.lo HMR.out.hi hs4' hn.lo hn.hi)
        rw [← reck_is (n := ⟨nv, (s' : Int), nd⟩) e1 rfl] at HK
        have HN2 := Lib.hid (HNX.out.trans (if_pos rfl))
        clear HNX HON hn
        generalize reckP 1 m ⟨nv, (s' : Int), nd⟩ = p at HK HN2
        obtain ⟨⟨qv, qs, qd⟩, b⟩ := p
        simp only [Nm.NumL.ret, Nm.NumL.val] at HK
        dsimp only at HN2
        go_wp2_with fail
        refine HC.out.mono ?_
        rintro e w2 ⟨rfl, hb2⟩
        obtain ⟨W3, hW3⟩ : ∃ W3, w2.alloc (.cells #[.int .i64 nv, .int .i64 s', .bool nd] 48) = W3 := ⟨_, rfl⟩
        obtain ⟨Y, hY⟩ : ∃ Y, w2.heap.size = Y := ⟨_, rfl⟩
        have HB13 := Lib.hid (show Below W1.heap.size W1 W3 by rw [← hW3]; exact fb2 hb2 (box_below _ _) (Nat.le_refl _))
        have HA3 := Lib.hid (blk_on HA1.out HB13.out (blk_lt HA1.out))
        have HX3 := Lib.hid (blk_on HX1.out HB13.out (blk_lt HX1.out))
        have HB3 := Lib.hid (fb2 HB1.out HB13.out (Nat.le_refl _))
        have HY3 := Lib.hid (show Blk W3 Y 48 #[.int .i64 nv, .int .i64 s', .bool nd] by rw [← hW3, ← hY]; exact blk_new _ _ _)
        have HW3 := Lib.hid hW3
        have HYE := Lib.hid hY
        have x0 : W3.cell? ⟨A + 1, 0, none⟩ = some (.int .i64 m.v) := (blk_cell HX3.out 0).trans rfl
        have x1 : W3.cell? ⟨A + 1, 1, none⟩ = some (.int .i64 s) := (blk_cell HX3.out 1).trans (by show some (Value.int .i64 m.s) = _; rw [e1])
        have x2 : W3.cell? ⟨A + 1, 2, none⟩ = some (.bool m.d) := (blk_cell HX3.out 2).trans rfl
        have x3 : w2.cell? ⟨A + 1, 0, none⟩ = some (.int .i64 m.v) := (blk_cell (blk_on HX1.out hb2 (blk_lt HX1.out)) 0).trans rfl
        have x4 : w2.cell? ⟨A + 1, 1, none⟩ = some (.int .i64 s) := (blk_cell (blk_on HX1.out hb2 (blk_lt HX1.out)) 1).trans (by show some (Value.int .i64 m.s) = _; rw [e1])
        have x5 : w2.cell? ⟨A + 1, 2, none⟩ = some (.bool m.d) := (blk_cell (blk_on HX1.out hb2 (blk_lt HX1.out)) 2).trans rfl
        have x6 : A + 1 < w2.heap.size := by have h1 := blk_lt HX1.out; have h2 := hb2.size; omega
        have x7 : ¬ A + 1 = w2.heap.size := by omega
        clear hb2 hW3 hY e1
        go_wp2_with fail
        rw [HW3.out]
        refine (HK.out _).mono ?_
        rintro e w4 ⟨rfl, hb4⟩
        clear x0 x1 x2 x3 x4 x5 x6 x7
        obtain ⟨W5, hW5⟩ : ∃ W5, w4.alloc (.cells #[.int .i64 qv, .int .i64 qs, .bool qd] 48) = W5 := ⟨_, rfl⟩
        have HB35 := Lib.hid (show Below W3.heap.size W3 W5 by rw [← hW5]; exact fb2 hb4 (box_below _ _) (Nat.le_refl _))
        have HA5 := Lib.hid (blk_on HA3.out HB35.out (blk_lt HA3.out))
        have HX5 := Lib.hid (blk_on HX3.out HB35.out (blk_lt HX3.out))
        have HB5 := Lib.hid (fb2 HB3.out HB35.out (Nat.le_refl _))
        have HW5 := Lib.hid hW5
        clear hb4 hW5
        cases b with
        | false =>
          have HE := Lib.hid (HSN.out (by rw [HN2.out]; rfl))
          clear HN2 HSN
          go_wp2_with (refine whole_abs 37 (.tmp 2) (.tmp 35) ⟨rfl, rfl⟩ A #[.int .i64 0, .string ⟨#[]⟩, .string ⟨#[]⟩, .string ⟨#[]⟩] rfl rfl 37 #[.int .i64 0, .string ⟨#[]⟩, .string ⟨#[]⟩, .string ⟨#[]⟩] (by rw [HW5.out]; exact HA5.out) (by kernel_rfl) rfl (by kernel_rfl) ?_; intro w9 hA9 hG9)
          have f0 : w9.cell? ⟨A, 0, none⟩ = some (.int .i64 0) := (blk_cell hA9.out 0).trans rfl
          have f1 : w9.cell? ⟨A, 1, none⟩ = some (.string ⟨#[]⟩) := (blk_cell hA9.out 1).trans rfl
          have f2 : w9.cell? ⟨A, 2, none⟩ = some (.string ⟨#[]⟩) := (blk_cell hA9.out 2).trans rfl
          have f3 : w9.cell? ⟨A, 3, none⟩ = some (.string ⟨#[]⟩) := (blk_cell hA9.out 3).trans rfl
          refine bodyPost_ret (v := .agg #[.int .i64 0, .string ⟨#[]⟩, .string ⟨#[]⟩, .string ⟨#[]⟩]) (by simp [results, Tryz.results49, f0, f1, f2, f3, go_sem]) rfl ⟨by rw [HE.out]; rfl, ?_⟩
          have hg9 := hG9.out
          rw [HW5.out] at hg9
          exact HB5.out.grown hg9 HB5.out.size (fun j hj => by injection hj with hj; have := HAE.out; omega)
        | true =>
          have HN3 := Lib.hid (HN2.out.trans (if_pos rfl))
          clear HN2 HSN
          go_wp2_with (refine whole_abs 48 (.tmp 3) (.tmp 36) ⟨rfl, rfl⟩ (A + 1) #[.int .i64 qv, .int .i64 qs, .bool qd] rfl rfl 48 (cellsN m) (by rw [HW5.out]; exact HX5.out) (by kernel_rfl) rfl (by kernel_rfl) ?_; intro w8 hA8 hG8; rw [HW5.out] at hG8; have HX8 := Lib.hid (show Blk w8 (A + 1) 48 (cellsN ⟨qv, qs, qd⟩) from hA8.out); have HA8 := Lib.hid (blk_grown HA5.out (by omega) hG8.out); have HB8 := Lib.hid (HB5.out.grown hG8.out HB5.out.size (fun j hj => by injection hj with hj; have := HAE.out; omega)); clear hA8 hG8)
          go_roundg gg
          case measure => omega
          case rel => exact ⟨k + 1, by go_num, by omega, Lib.hid ⟨_, HN3.out, HA8.out, HX8.out, HB8.out⟩⟩
    · have k1 : ¬ (k : Int) < (n : Int) := by omega
      have ht : l.take k = l := List.take_of_length_le (by rw [HL.out]; omega)
      rw [ht] at HM
      have HMR := Lib.hid (sum_right HM.out)
      obtain ⟨s, e1, hs4⟩ := HMR.out.s
      have HT := Lib.hid (fun W => Nm.rTerm_calls m.v s m.d W hs4 HMR.out.lo HMR.out.hi)
      rw [term_num e1] at HT
      have HE := Lib.hid (sumT_some HM.out)
      have x0 : W1.cell? ⟨A + 1, 0, none⟩ = some (.int .i64 m.v) := (blk_cell HX1.out 0).trans rfl
      have x1 : W1.cell? ⟨A + 1, 1, none⟩ = some (.int .i64 s) := (blk_cell HX1.out 1).trans (by show some (Value.int .i64 m.s) = _; rw [e1])
      have x2 : W1.cell? ⟨A + 1, 2, none⟩ = some (.bool m.d) := (blk_cell HX1.out 2).trans rfl
      generalize termN m = z at HT HE
      obtain ⟨zk, zx, zy, zz⟩ := z
      simp only [TermL.v] at HT
      clear e1 HM HMR
      go_wp2_with fail
      refine (HT.out _).mono ?_
      rintro e w4 ⟨rfl, hb4⟩
      have HA4 := Lib.hid (blk_on HA1.out hb4 (blk_lt HA1.out))
      have HB4 := Lib.hid (fb2 HB1.out hb4 (Nat.le_refl _))
      clear hb4 x0 x1 x2
      go_wp2_with (refine whole_abs 37 (.tmp 2) (.tmp 38) ⟨rfl, rfl⟩ A #[.int .i64 zk, .string (bs zx), .string (bs zy), .string (bs zz)] rfl rfl 37 #[.int .i64 0, .string ⟨#[]⟩, .string ⟨#[]⟩, .string ⟨#[]⟩] HA4.out (by kernel_rfl) rfl (by kernel_rfl) ?_; intro w9 hA9 hG9)
      have f0 : w9.cell? ⟨A, 0, none⟩ = some (.int .i64 zk) := (blk_cell hA9.out 0).trans rfl
      have f1 : w9.cell? ⟨A, 1, none⟩ = some (.string (bs zx)) := (blk_cell hA9.out 1).trans rfl
      have f2 : w9.cell? ⟨A, 2, none⟩ = some (.string (bs zy)) := (blk_cell hA9.out 2).trans rfl
      have f3 : w9.cell? ⟨A, 3, none⟩ = some (.string (bs zz)) := (blk_cell hA9.out 3).trans rfl
      refine bodyPost_ret (v := .agg #[.int .i64 zk, .string (bs zx), .string (bs zy), .string (bs zz)]) (by simp [results, Tryz.results49, f0, f1, f2, f3, go_sem]) rfl ⟨by rw [HE.out]; rfl, ?_⟩
      exact HB4.out.grown hG9.out HB4.out.size (fun j hj => by injection hj with hj; have := HAE.out; omega)

end Go.Proofs.YtdnfaoanaehjhaaGreatDoor
