/- What any aggregate comes to in all rows of any table: the walk of the statement's function (written by gen/mklaw13.py). -/
import Derived.Test.YtdnfaoanaehjhaaGreatDoorH27
import Derived.Test.YtdnfaoanaehjhaaGreatDoorGrpOf
import Derived.Test.YtdnfaoanaehjhaaGreatDoorH29
import Derived.Test.YtdnfaoanaehjhaaGreatDoorRGrpComes
import Derived.Test.YtdnfaoanaehjhaaGreatDoorH13
namespace Go.Proofs.YtdnfaoanaehjhaaGreatDoor
open Go.RowKit Go.Maps Go.Sort

set_option maxRecDepth 100000 in
set_option maxHeartbeats 8000000 in
theorem groupOfs_calls (V : List (List UInt8)) (R : List RowL) (a : AggL) (hx : okV V) (hr : okR R) (ha : a.ok) (tv : Value) (w : World) (hg : Nm.Good w) (ht : TabA w tv V R) :
    Calls Tryz.prog 5 #[tv, a.v] w fun e w' => e = .returned (.bool true) ∧ Below w.heap.size w w' := by
  obtain ⟨va, n, vc, ra, m, rc, rfl, hV, hR⟩ := ht
  obtain ⟨A, hA⟩ : ∃ A, w.heap.size = A := ⟨_, rfl⟩
  obtain ⟨W0, hW0⟩ : ∃ W0, (w.alloc (.cells #[.slice va n vc, .slice ra m rc] 25)).alloc (.cells #[.int .i64 a.k, .string (bs a.o), .string (bs a.m)] 41) = W0 := ⟨_, rfl⟩
  have HB0 := Lib.hid (show Below w.heap.size w W0 by rw [← hW0]; exact two_alloc _ _ _)
  have HA0 := Lib.hid (show Blk W0 A 25 #[.slice va n vc, .slice ra m rc] by rw [← hW0, ← hA]; exact blk_alloc (blk_new _ _ _) _)
  have HG0 := Lib.hid (show Blk W0 (A + 1) 41 #[.int .i64 a.k, .string (bs a.o), .string (bs a.m)] by
    rw [← hW0]
    have := blk_new (w.alloc (.cells #[.slice va n vc, .slice ra m rc] 25)) 41 #[.int .i64 a.k, .string (bs a.o), .string (bs a.m)]
    rw [World.size_alloc, hA] at this
    exact this)
  have HG := Lib.hid hg
  have hTB : ∀ W, Below w.heap.size w W → TabA W (.agg #[.slice va n vc, .slice ra m rc]) V R := fun W hb => ⟨va, n, vc, ra, m, rc, rfl, hV.on hb, hR.on hb⟩
  have HLI := Lib.hid (light_calls V R _ W0 (hTB W0 HB0.out))
  have HAW := Lib.hid (fun W hW => awake_calls W hW)
  have HOF := Lib.hid (fun W (hW : Below w.heap.size w W) => gOf_calls V R a hx hr ha _ W (hg.on hW) (hTB W hW))
  have HRK : Hid (∀ W g, Below w.heap.size w W → Blk W g 41 #[.int .i64 a.k, .string (bs a.o), .string (bs a.m)] → Calls Tryz.prog 12 #[.agg #[.slice va n vc, .slice ra m rc], .slice none 0 0, .slice (some ⟨g, 0, none⟩) 1 1] W fun e w' => e = .returned (.int .i64 (checkG V R [] [a])) ∧ Below W.heap.size W w') := Lib.hid fun W g hW hB => rGCheck_calls V R [] [a] hx hr (fun _ h => absurd h List.not_mem_nil) (fun g h => by rw [List.mem_singleton] at h; subst h; exact ha) _ none 0 0 (some ⟨g, 0, none⟩) 1 1 W (hTB W hW) (txts_none _) (aggs_one hB) (by omega)
  have HRC : Hid (checkG V R [] [a] = 0 → ∀ W, Below w.heap.size w W → Calls Tryz.prog 18 #[.agg #[.slice va n vc, .slice ra m rc], a.v] W fun e w' => e = .returned (comesP V R a).v ∧ Below W.heap.size W w') := Lib.hid fun h W hW => by
    have hmay := check_zero h
    have h1 := agg_is (hmay.form a (List.mem_singleton.2 rfl))
    exact rComes_calls V R a hr h1.1 h1.2 (right_nodup hmay.right).2.2.1 _ W (hTB W hW)
  have HO1 : Hid (checkG V R [] [a] = 0 → ofG V R a = comesP V R a) := Lib.hid fun h => by unfold ofG; rw [if_pos h]
  have HO2 : Hid (checkG V R [] [a] ≠ 0 → ofG V R a = nilT) := Lib.hid fun h => by unfold ofG; rw [if_neg h]
  have HAE := Lib.hid hA
  have HW0 := Lib.hid hW0
  clear hTB hV hR hg hA hW0 hx hr ha
  generalize checkG V R [] [a] = z at HOF HRK HRC HO1 HO2
  obtain ⟨x, hx⟩ : ∃ x, ofG V R a = x := ⟨_, rfl⟩
  rw [hx] at HOF HO1 HO2
  clear hx
  generalize comesP V R a = cm at HRC HO1
  obtain ⟨ak, ao, am⟩ := a
  simp only [AggL.v] at HOF HRC ⊢
  dsimp only at HG0 HW0 HRK
  cases hli : lightB V R with
  | false =>
    rw [hli] at HLI
    go_enter Tryz.func5, Tryz.ntmps5
    go_wp2_with fail
    rw [HW0.out, HAE.out]
    refine HLI.out.mono ?_
    rintro e w1 ⟨rfl, hb1⟩
    have HB1 := Lib.hid (fb2 HB0.out hb1 (Nat.le_refl _))
    clear hb1
    go_wp2_with fail
    refine (HAW.out _ (HG.out.on HB1.out)).mono ?_
    rintro e w2 ⟨rfl, hb2⟩
    have HBz := Lib.hid (fb2 HB1.out hb2 (Nat.le_refl _))
    clear hb2
    go_wp2
    go_ret
    exact ⟨rfl, HBz.out⟩
  | true =>
    rw [hli] at HLI
    clear hli
    go_enter Tryz.func5, Tryz.ntmps5
    go_wp2_with fail
    rw [HW0.out, HAE.out]
    refine HLI.out.mono ?_
    rintro e w1 ⟨rfl, hb1⟩
    have HB1 := Lib.hid (fb2 HB0.out hb1 (Nat.le_refl _))
    have HA1 := Lib.hid (blk_on HA0.out hb1 (blk_lt HA0.out))
    have HG1 := Lib.hid (blk_on HG0.out hb1 (blk_lt HG0.out))
    clear hb1
    have q0 : w1.cell? ⟨A, 0, none⟩ = some (.slice va n vc) := (blk_cell HA1.out 0).trans rfl
    have q1 : w1.cell? ⟨A, 1, none⟩ = some (.slice ra m rc) := (blk_cell HA1.out 1).trans rfl
    have p0 : w1.cell? ⟨A + 1, 0, none⟩ = some (.int .i64 ak) := (blk_cell HG1.out 0).trans rfl
    have p1 : w1.cell? ⟨A + 1, 1, none⟩ = some (.string (bs ao)) := (blk_cell HG1.out 1).trans rfl
    have p2 : w1.cell? ⟨A + 1, 2, none⟩ = some (.string (bs am)) := (blk_cell HG1.out 2).trans rfl
    go_wp2_with fail
    refine (HOF.out _ HB1.out).mono ?_
    rintro e w2 ⟨rfl, hb2⟩
    clear q0 q1 p0 p1 p2
    obtain ⟨xk, xx, xy, xz⟩ := x
    simp only [TermL.v]
    obtain ⟨X, hX⟩ : ∃ X, w2.heap.size = X := ⟨_, rfl⟩
    obtain ⟨W3, hW3⟩ : ∃ W3, (w2.alloc (.cells #[.int .i64 xk, .string (bs xx), .string (bs xy), .string (bs xz)] 37)).alloc (.cells #[.int .i64 ak, .string (bs ao), .string (bs am)] 41) = W3 := ⟨_, rfl⟩
    have HB13 := Lib.hid (show Below w1.heap.size w1 W3 by rw [← hW3]; exact fb2 (fb2 hb2 (box_below _ _) (Nat.le_refl _)) (box_below _ _) (Nat.le_refl _))
    have HB3 := Lib.hid (fb2 HB1.out HB13.out (Nat.le_refl _))
    have HA3 := Lib.hid (blk_on HA1.out HB13.out (blk_lt HA1.out))
    have HG3 := Lib.hid (blk_on HG1.out HB13.out (blk_lt HG1.out))
    have HX3 := Lib.hid (show Blk W3 X 37 #[.int .i64 xk, .string (bs xx), .string (bs xy), .string (bs xz)] by rw [← hW3, ← hX]; exact blk_alloc (blk_new _ _ _) _)
    have HL3 := Lib.hid (show Blk W3 (X + 1) 41 #[.int .i64 ak, .string (bs ao), .string (bs am)] by
      rw [← hW3]
      have := blk_new (w2.alloc (.cells #[.int .i64 xk, .string (bs xx), .string (bs xy), .string (bs xz)] 37)) 41 #[.int .i64 ak, .string (bs ao), .string (bs am)]
      rw [World.size_alloc, hX] at this
      exact this)
    have q0 : w2.cell? ⟨A, 0, none⟩ = some (.slice va n vc) := (blk_cell (blk_on HA1.out hb2 (blk_lt HA1.out)) 0).trans rfl
    have q1 : w2.cell? ⟨A, 1, none⟩ = some (.slice ra m rc) := (blk_cell (blk_on HA1.out hb2 (blk_lt HA1.out)) 1).trans rfl
    have p0 : w2.cell? ⟨A + 1, 0, none⟩ = some (.int .i64 ak) := (blk_cell (blk_on HG1.out hb2 (blk_lt HG1.out)) 0).trans rfl
    have p1 : w2.cell? ⟨A + 1, 1, none⟩ = some (.string (bs ao)) := (blk_cell (blk_on HG1.out hb2 (blk_lt HG1.out)) 1).trans rfl
    have p2 : w2.cell? ⟨A + 1, 2, none⟩ = some (.string (bs am)) := (blk_cell (blk_on HG1.out hb2 (blk_lt HG1.out)) 2).trans rfl
    have hl1 : A + 1 < w2.heap.size := by have h1 := blk_lt HG1.out; have h2 := hb2.size; omega
    have hl2 : ¬ A = w2.heap.size := by omega
    have hl3 : ¬ A + 1 = w2.heap.size := by omega
    have hl4 : A < w2.heap.size := by omega
    have HX := Lib.hid hX
    have HW3 := Lib.hid hW3
    clear hb2 hW3 hX
    go_wp2_with fail
    rw [HW3.out, HX.out]
    refine (HRK.out W3 (X + 1) HB3.out HL3.out).mono ?_
    rintro e w4 ⟨rfl, hb4⟩
    have HB4 := Lib.hid (fb2 HB3.out hb4 (Nat.le_refl _))
    have HA4 := Lib.hid (blk_on HA3.out hb4 (blk_lt HA3.out))
    have HG4 := Lib.hid (blk_on HG3.out hb4 (blk_lt HG3.out))
    have HX4 := Lib.hid (blk_on HX3.out hb4 (blk_lt HX3.out))
    clear hb4 q0 q1 p0 p1 p2 hl1 hl2 hl3 hl4
    have gzz : (z != z) = false := bne_self_eq_false z
    have x0 : w4.cell? ⟨X, 0, none⟩ = some (.int .i64 xk) := (blk_cell HX4.out 0).trans rfl
    have x1 : w4.cell? ⟨X, 1, none⟩ = some (.string (bs xx)) := (blk_cell HX4.out 1).trans rfl
    have x2 : w4.cell? ⟨X, 2, none⟩ = some (.string (bs xy)) := (blk_cell HX4.out 2).trans rfl
    have x3 : w4.cell? ⟨X, 3, none⟩ = some (.string (bs xz)) := (blk_cell HX4.out 3).trans rfl
    have hlX := blk_lt HX4.out
    by_cases hz : z = 0
    · have gz : (z != 0) = false := by rw [hz]; rfl
      have hcm := HO1.out hz
      have HC := Lib.hid (HRC.out hz)
      subst hcm
      clear HO1 HO2 HRC hz
      simp only [TermL.v] at HC
      have HEQ : ∀ W, (binOp .eql 37 (.agg #[.int .i64 xk, .string (bs xx), .string (bs xy), .string (bs xz)]) (.agg #[.int .i64 xk, .string (bs xx), .string (bs xy), .string (bs xz)])).run Tryz.prog W = .ok (.bool true) W := fun W => by
        have := eq_terms ⟨xk, xx, xy, xz⟩ ⟨xk, xx, xy, xz⟩ W
        rw [decide_eq_true rfl] at this
        exact this
      have q0 : w4.cell? ⟨A, 0, none⟩ = some (.slice va n vc) := (blk_cell HA4.out 0).trans rfl
      have q1 : w4.cell? ⟨A, 1, none⟩ = some (.slice ra m rc) := (blk_cell HA4.out 1).trans rfl
      have p0 : w4.cell? ⟨A + 1, 0, none⟩ = some (.int .i64 ak) := (blk_cell HG4.out 0).trans rfl
      have p1 : w4.cell? ⟨A + 1, 1, none⟩ = some (.string (bs ao)) := (blk_cell HG4.out 1).trans rfl
      have p2 : w4.cell? ⟨A + 1, 2, none⟩ = some (.string (bs am)) := (blk_cell HG4.out 2).trans rfl
      have hlA := blk_lt HA4.out
      have hlG := blk_lt HG4.out
      go_wp2_with fail
      refine wp_region_held_drew (S := (fun W => Below w4.heap.size w4 W)) (by kernel_rfl) ?_ (fun hHeld => ?_)
      · (try dsimp only); exact (Below.refl _ _).drew
      obtain ⟨Wd, hWd⟩ : ∃ Wd, w4.drew = Wd := ⟨_, rfl⟩
      rw [hWd] at hHeld ⊢
      have HBS := Lib.hid (show Below w4.heap.size w4 Wd by rw [← hWd]; exact (Below.refl _ _).drew)
      clear hWd
      refine wpAnyH_take (i := 0) (oi := ⟨some 33, _, _, _, _, _⟩) (v := ?_) rfl (by kernel_rfl) (by kernel_rfl) (by kernel_rfl) (fun _ _ _ h => h) (Or.inl ⟨by kernel_rfl, ?_⟩) (by assumption) ?_
      rotate_left
      · (intro ww hSw; (try dsimp only at hSw); have e0 := keptC x0 hSw hlX; have e1 := keptC x1 hSw hlX; have e2 := keptC x2 hSw hlX; have e3 := keptC x3 hSw hlX; go_simp); (try with_reducible rfl)
      (try simp only [Act.put, List.setIfInBounds_toArray, List.set_cons_zero, List.set_cons_succ])
      refine wpAnyH_take (i := 1) (oi := ⟨some 34, _, _, _, _, _⟩) (v := ?_) rfl (by kernel_rfl) (by kernel_rfl) (by kernel_rfl) (fun _ _ _ h => h) (Or.inl ⟨by kernel_rfl, ?_⟩) (by assumption) ?_
      rotate_left
      · (intro ww hSw; (try dsimp only at hSw); have e0 := keptC q0 hSw hlA; have e1 := keptC q1 hSw hlA; go_simp); (try with_reducible rfl)
      (try simp only [Act.put, List.setIfInBounds_toArray, List.set_cons_zero, List.set_cons_succ])
      refine wpAnyH_take (i := 2) (oi := ⟨some 35, _, _, _, _, _⟩) (v := ?_) rfl (by kernel_rfl) (by kernel_rfl) (by kernel_rfl) (fun _ _ _ h => h) (Or.inl ⟨by kernel_rfl, ?_⟩) (by assumption) ?_
      rotate_left
      · (intro ww hSw; (try dsimp only at hSw); have e0 := keptC p0 hSw hlG; have e1 := keptC p1 hSw hlG; have e2 := keptC p2 hSw hlG; go_simp); (try with_reducible rfl)
      (try simp only [Act.put, List.setIfInBounds_toArray, List.set_cons_zero, List.set_cons_succ])
      refine wpAnyH_ready (rs := [3]) (by kernel_rfl) (by simp) ?_
      refine AllReadyH.cons rfl (fun K hK => ?_) AllReadyH.nil
      go_simp
      refine (HC.out Wd (fb2 HB4.out HBS.out (Nat.le_refl _))).mono ?_
      rintro e W100 ⟨rfl, hb⟩
      have hbx : Below Wd.heap.size Wd W100 := hb
      clear hb
      replace HBS := Lib.hid (fb2 HBS.out hbx (Nat.le_refl _))
      clear hbx
      go_wp2_with fail
      refine hK.out _ _ ?_ (fun hHeld => ?_)
      · (try dsimp only); exact HBS.out
      clear hK K
      (try simp only [Act.put, List.setIfInBounds_toArray, List.set_cons_zero, List.set_cons_succ])
      refine wpAnyH_take (i := 4) (oi := ⟨some 37, _, _, _, _, _⟩) (v := ?_) rfl (by kernel_rfl) (by kernel_rfl) (by kernel_rfl) (fun _ _ _ h => h) (Or.inl ⟨by kernel_rfl, ?_⟩) (by assumption) ?_
      rotate_left
      · (intro ww hSw; (try dsimp only at hSw); have e0 := HEQ ww; go_simp); (try with_reducible rfl)
      (try simp only [Act.put, List.setIfInBounds_toArray, List.set_cons_zero, List.set_cons_succ])
      refine wpAnyH_take (i := 5) (oi := ⟨some 38, _, _, _, _, _⟩) (v := ?_) rfl (by kernel_rfl) (by kernel_rfl) (by kernel_rfl) (fun _ _ _ h => h) (Or.inl ⟨by kernel_rfl, ?_⟩) (by assumption) ?_
      rotate_left
      · (intro ww hSw; (try dsimp only at hSw); go_simp); (try with_reducible rfl)
      (try simp only [Act.put, List.setIfInBounds_toArray, List.set_cons_zero, List.set_cons_succ])
      refine wpAnyH_ready (rs := [6]) (by kernel_rfl) (by simp) ?_
      refine AllReadyH.cons rfl (fun K hK => ?_) AllReadyH.nil
      go_simp
      refine (HAW.out W100 (HG.out.on (fb2 HB4.out HBS.out (Nat.le_refl _)))).mono ?_
      rintro e W101 ⟨rfl, hb⟩
      have hbx : Below W100.heap.size W100 W101 := hb
      clear hb
      replace HBS := Lib.hid (fb2 HBS.out hbx (Nat.le_refl _))
      clear hbx
      go_wp2_with fail
      refine hK.out _ _ ?_ (fun hHeld => ?_)
      · (try dsimp only); exact HBS.out
      clear hK K
      (try simp only [Act.put, List.setIfInBounds_toArray, List.set_cons_zero, List.set_cons_succ])
      refine wpAnyH_take (i := 7) (oi := ⟨some 40, _, _, _, _, _⟩) (v := ?_) rfl (by kernel_rfl) (by kernel_rfl) (by kernel_rfl) (fun _ _ _ h => h) (Or.inl ⟨by kernel_rfl, ?_⟩) (by assumption) ?_
      rotate_left
      · (intro ww hSw; (try dsimp only at hSw); go_simp); (try with_reducible rfl)
      (try simp only [Act.put, List.setIfInBounds_toArray, List.set_cons_zero, List.set_cons_succ])
      refine wpAnyH_take (i := 8) (oi := ⟨some 4, _, _, _, _, _⟩) (v := ?_) rfl (by kernel_rfl) (by kernel_rfl) (by kernel_rfl) (fun _ _ _ h => h) (Or.inl ⟨by kernel_rfl, ?_⟩) (by assumption) ?_
      rotate_left
      · (intro ww hSw; (try dsimp only at hSw); go_simp); (try with_reducible rfl)
      (try simp only [Act.put, List.setIfInBounds_toArray, List.set_cons_zero, List.set_cons_succ])
      refine wpAnyH_done (by kernel_rfl) ?_ _
      go_wp2
      go_ret
      exact ⟨rfl, fb2 HB4.out HBS.out (Nat.le_refl _)⟩
    · have gz : (z != 0) = true := bne_iff_ne.2 hz
      have hnil := HO2.out hz
      have e1 : xk = 0 := congrArg TermL.k hnil
      have e2 : xx = [] := congrArg TermL.x hnil
      have e3 : xy = [] := congrArg TermL.y hnil
      have e4 : xz = [] := congrArg TermL.z hnil
      subst e1 e2 e3 e4
      clear HO1 HO2 HRC hz hnil
      have HEQ : ∀ W, (binOp .eql 37 (.agg #[.int .i64 0, .string (bs []), .string (bs []), .string (bs [])]) (.agg #[.int .i64 0, .string ⟨#[]⟩, .string ⟨#[]⟩, .string ⟨#[]⟩])).run Tryz.prog W = .ok (.bool true) W := fun W => by
        have := eq_terms nilT nilT W
        rw [decide_eq_true rfl] at this
        exact this
      go_wp2_with fail
      refine (HAW.out _ (HG.out.on HB4.out)).mono ?_
      rintro e w5 ⟨rfl, hb5⟩
      have HBz := Lib.hid (fb2 HB4.out hb5 (Nat.le_refl _))
      clear hb5
      go_wp2
      go_ret
      exact ⟨rfl, HBz.out⟩

end Go.Proofs.YtdnfaoanaehjhaaGreatDoor
