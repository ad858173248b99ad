/- What an aggregate comes to in all rows: package group's Of (written by gen/mkof13.py). -/
import Derived.Test.YtdnfaoanaehjhaaGreatDoorGrpCheck
import Derived.Test.YtdnfaoanaehjhaaGreatDoorH25
namespace Go.Proofs.YtdnfaoanaehjhaaGreatDoor
open Go.RowKit Go.Maps

theorem aggs_one {W : World} {g : Nat} {a : AggL} {T : TypeId} (h : Blk W g T #[.int .i64 a.k, .string (bs a.o), .string (bs a.m)]) : AgA W (some ⟨g, 0, none⟩) 1 1 [a] := agA_blk (G := [a]) (by simpa using h) rfl (by decide)
theorem txts_none (w : World) : TxtA w none 0 0 [] := ⟨rfl, Nat.le_refl _, Nat.zero_le _, fun h => absurd h (Nat.lt_irrefl _)⟩
def ofG (V : List (List UInt8)) (R : List RowL) (a : AggL) : TermL := if checkG V R [] [a] = 0 then comesP V R a else nilT

set_option maxRecDepth 100000 in
set_option maxHeartbeats 8000000 in
theorem gOf_calls (V : List (List UInt8)) (R : List RowL) (a : AggL) (hx : okV V) (hr : okR R) (ha : a.ok) (tv : Value) (w : World) (hg : Nm.Good w) (ht : TabA w tv V R) :
    Calls Tryz.prog 17 #[tv, a.v] w fun e w' => e = .returned (.tuple #[(ofG V R a).v, .int .i64 (checkG V R [] [a])]) ∧ Below w.heap.size w w' := by
  obtain ⟨va, n, vc, ra, m, rc, rfl, hV, hR⟩ := ht
  obtain ⟨A, hA⟩ : ∃ A, w.heap.size = A := ⟨_, rfl⟩
  obtain ⟨W0, hW0⟩ : ∃ W0, (((w.alloc (.cells #[.slice va n vc, .slice ra m rc] 25)).alloc (.cells #[.int .i64 a.k, .string (bs a.o), .string (bs a.m)] 41)).alloc (.cells #[.int .i64 0, .string ⟨#[]⟩, .string ⟨#[]⟩, .string ⟨#[]⟩] 37)).alloc (.cells #[.int .i64 a.k, .string (bs a.o), .string (bs a.m)] 41) = W0 := ⟨_, rfl⟩
  have HB0 := Lib.hid (show Below w.heap.size w W0 by rw [← hW0]; exact fb2 (fb2 (two_alloc _ _ _) (box_below _ _) (Nat.le_refl _)) (box_below _ _) (Nat.le_refl _))
  have HA0 := Lib.hid (show Blk W0 A 25 #[.slice va n vc, .slice ra m rc] by rw [← hW0, ← hA]; exact blk_alloc (blk_alloc (blk_alloc (blk_new _ _ _) _) _) _)
  have HG0 := Lib.hid (show Blk W0 (A + 1) 41 #[.int .i64 a.k, .string (bs a.o), .string (bs a.m)] by
    rw [← hW0]
    have := blk_alloc (blk_alloc (blk_new (w.alloc (.cells #[.slice va n vc, .slice ra m rc] 25)) 41 #[.int .i64 a.k, .string (bs a.o), .string (bs a.m)]) (.cells #[.int .i64 0, .string ⟨#[]⟩, .string ⟨#[]⟩, .string ⟨#[]⟩] 37)) (.cells #[.int .i64 a.k, .string (bs a.o), .string (bs a.m)] 41)
    rw [World.size_alloc, hA] at this
    exact this)
  have HE0 := Lib.hid (show Blk W0 (A + 2) 37 #[.int .i64 0, .string ⟨#[]⟩, .string ⟨#[]⟩, .string ⟨#[]⟩] by
    rw [← hW0]
    have := blk_alloc (blk_new ((w.alloc (.cells #[.slice va n vc, .slice ra m rc] 25)).alloc (.cells #[.int .i64 a.k, .string (bs a.o), .string (bs a.m)] 41)) 37 #[.int .i64 0, .string ⟨#[]⟩, .string ⟨#[]⟩, .string ⟨#[]⟩]) (.cells #[.int .i64 a.k, .string (bs a.o), .string (bs a.m)] 41)
    rw [World.size_alloc, World.size_alloc, hA] at this
    exact this)
  have HL0 := Lib.hid (show Blk W0 (A + 3) 41 #[.int .i64 a.k, .string (bs a.o), .string (bs a.m)] by
    rw [← hW0]
    have := blk_new (((w.alloc (.cells #[.slice va n vc, .slice ra m rc] 25)).alloc (.cells #[.int .i64 a.k, .string (bs a.o), .string (bs a.m)] 41)).alloc (.cells #[.int .i64 0, .string ⟨#[]⟩, .string ⟨#[]⟩, .string ⟨#[]⟩] 37)) 41 #[.int .i64 a.k, .string (bs a.o), .string (bs a.m)]
    rw [World.size_alloc, World.size_alloc, World.size_alloc, hA] at this
    exact this)
  have HCK := Lib.hid (gCheck_calls V R [] [a] hx hr (fun _ h => absurd h List.not_mem_nil) (fun g h => by rw [List.mem_singleton] at h; subst h; exact ha) (.agg #[.slice va n vc, .slice ra m rc]) none 0 0 (some ⟨A + 3, 0, none⟩) 1 1 W0 ⟨va, n, vc, ra, m, rc, rfl, hV.on HB0.out, hR.on HB0.out⟩ (txts_none _) (aggs_one HL0.out) (by omega))
  have HV := Lib.hid hV
  have HR := Lib.hid hR
  have HXV := Lib.hid hx
  have HOR := Lib.hid hr
  have HG := Lib.hid hg
  have HOA := Lib.hid ha.1
  have HAE := Lib.hid hA
  have HW0 := Lib.hid hW0
  have e3 : w.heap.size + 1 + 1 + 1 = A + 3 := by omega
  have HZ3 := Lib.hid e3
  have HM : Hid (checkG V R [] [a] = 0 → MayG V R [] [a]) := Lib.hid check_zero
  have HO1 : Hid (checkG V R [] [a] = 0 → ofG V R a = comesP V R a) := Lib.hid fun h => by unfold ofG; rw [if_pos h]
  have HO2 : Hid (checkG V R [] [a] ≠ 0 → ofG V R a = nilT) := Lib.hid fun h => by unfold ofG; rw [if_neg h]
  have HCP : Hid (checkG V R [] [a] = 0 → ∀ b W, Below w.heap.size w W → MapS W b (cntL V) (colF V) → Calls Tryz.prog 42 #[a.v, .map (some b), .slice ra m rc] W fun e w' => e = .returned (comesP V R a).v ∧ Below W.heap.size W w') := Lib.hid fun h b W hb hM => by
    have hmay := check_zero h
    obtain ⟨hvn, hv32, hr4, _, hrow⟩ := right_nodup hmay.right
    have h1 := agg_is (hmay.form a (List.mem_singleton.2 rfl))
    exact comesTo_calls V R a hvn h1.1 h1.2 (hmay.over a (List.mem_singleton.2 rfl)) ha.1 (fun r hr' => (hrow r hr').1) hr b ra m rc W (hg.on hb) hM (hR.on hb) (by rw [← hR.len]; exact hr4)
  clear hW0 hA hV hR hx hr hg ha e3
  generalize ofG V R a = F at HO1 HO2 ⊢
  generalize comesP V R a = C at HO1 HCP
  generalize checkG V R [] [a] = z at HCK HM HO1 HO2 HCP ⊢
  obtain ⟨ak, ao, am⟩ := a
  simp only [AggL.v] at HCP ⊢
  go_enter Tryz.func17, Tryz.ntmps17
  go_wp2_with fail
  rw [HW0.out, HZ3.out, HAE.out]
  refine (HCK.out).mono ?_
  rintro e w1 ⟨rfl, hb1⟩
  have HE1 := Lib.hid (blk_on HE0.out hb1 (blk_lt HE0.out))
  have HA1 := Lib.hid (blk_on HA0.out hb1 (blk_lt HA0.out))
  have HG1 := Lib.hid (blk_on HG0.out hb1 (blk_lt HG0.out))
  have HB1 := Lib.hid (fb2 HB0.out hb1 (Nat.le_refl _))
  have HV1 := Lib.hid (HV.out.on HB1.out)
  clear hb1 HCK HA0 HG0 HE0 HL0
  by_cases hz : z = 0
  · have HF := Lib.hid (HO1.out hz)
    have HC2 := Lib.hid (HCP.out hz)
    have gz : (z != 0) = false := by rw [hz]; rfl
    subst hz
    clear HO1 HO2 HCP HM
    have q0 : w1.cell? ⟨A, 0, none⟩ = some (.slice va n vc) := (blk_cell HA1.out 0).trans rfl
    have q1 : w1.cell? ⟨A, 1, none⟩ = some (.slice ra m rc) := (blk_cell HA1.out 1).trans rfl
    have p0 : w1.cell? ⟨A + 1, 0, none⟩ = some (.int .i64 ak) := (blk_cell HG1.out 0).trans rfl
    have p1 : w1.cell? ⟨A + 1, 1, none⟩ = some (.string (bs ao)) := (blk_cell HG1.out 1).trans rfl
    have p2 : w1.cell? ⟨A + 1, 2, none⟩ = some (.string (bs am)) := (blk_cell HG1.out 2).trans rfl
    have HLT := Lib.hid (show A + 2 ≤ w1.heap.size by have := blk_lt HE1.out; omega)
    have hl0 : A < A + 2 := by omega
    have hl1 : A + 1 < A + 2 := by omega
    go_wp2_with fail
    refine wp_region_held_drew (S := (fun W => Below (A + 2) w1 W)) (by kernel_rfl) ?_ (fun hHeld => ?_)
    · (try dsimp only); exact (Below.refl _ _).drew
    obtain ⟨Wd, hWd⟩ : ∃ Wd, w1.drew = Wd := ⟨_, rfl⟩
    rw [hWd] at hHeld ⊢
    have HBS := Lib.hid (show Below w1.heap.size w1 Wd by rw [← hWd]; exact (Below.refl _ _).drew)
    clear hWd
    refine wpAnyH_take (i := 0) (oi := ⟨some 15, _, _, _, _, _⟩) (v := ?_) rfl (by kernel_rfl) (by kernel_rfl) (by kernel_rfl) (fun _ _ _ h => h) (Or.inl ⟨by kernel_rfl, ?_⟩) (by assumption) ?_
    rotate_left
    · (intro ww hSw; (try dsimp only at hSw); have e0 := keptC p0 hSw hl1; have e1 := keptC p1 hSw hl1; have e2 := keptC p2 hSw hl1; go_simp); (try with_reducible rfl)
    (try simp only [Act.put, List.setIfInBounds_toArray, List.set_cons_zero, List.set_cons_succ])
    refine wpAnyH_take (i := 1) (oi := ⟨some 16, _, _, _, _, _⟩) (v := ?_) rfl (by kernel_rfl) (by kernel_rfl) (by kernel_rfl) (fun _ _ _ h => h) (Or.inl ⟨by kernel_rfl, ?_⟩) (by assumption) ?_
    rotate_left
    · (intro ww hSw; (try dsimp only at hSw); go_simp); (try with_reducible rfl)
    (try simp only [Act.put, List.setIfInBounds_toArray, List.set_cons_zero, List.set_cons_succ])
    refine wpAnyH_take (i := 2) (oi := ⟨some 17, _, _, _, _, _⟩) (v := ?_) rfl (by kernel_rfl) (by kernel_rfl) (by kernel_rfl) (fun _ _ _ h => h) (Or.inl ⟨by kernel_rfl, ?_⟩) (by assumption) ?_
    rotate_left
    · (intro ww hSw; (try dsimp only at hSw); have e0 := keptC q0 hSw hl0; go_simp); (try with_reducible rfl)
    (try simp only [Act.put, List.setIfInBounds_toArray, List.set_cons_zero, List.set_cons_succ])
    refine wpAnyH_take (i := 4) (oi := ⟨some 19, _, _, _, _, _⟩) (v := ?_) rfl (by kernel_rfl) (by kernel_rfl) (by kernel_rfl) (fun _ _ _ h => h) (Or.inl ⟨by kernel_rfl, ?_⟩) (by assumption) ?_
    rotate_left
    · (intro ww hSw; (try dsimp only at hSw); go_simp); (try with_reducible rfl)
    (try simp only [Act.put, List.setIfInBounds_toArray, List.set_cons_zero, List.set_cons_succ])
    refine wpAnyH_take (i := 5) (oi := ⟨some 20, _, _, _, _, _⟩) (v := ?_) rfl (by kernel_rfl) (by kernel_rfl) (by kernel_rfl) (fun _ _ _ h => h) (Or.inl ⟨by kernel_rfl, ?_⟩) (by assumption) ?_
    rotate_left
    · (intro ww hSw; (try dsimp only at hSw); have e0 := keptC q1 hSw hl0; go_simp); (try with_reducible rfl)
    (try simp only [Act.put, List.setIfInBounds_toArray, List.set_cons_zero, List.set_cons_succ])
    refine wpAnyH_ready (rs := [3]) (by kernel_rfl) (by simp) ?_
    refine AllReadyH.cons rfl (fun K hK => ?_) AllReadyH.nil
    go_simp
    refine (gcols_calls V HXV.out va n vc Wd (HV1.out.on HBS.out)).mono ?_
    rintro e W100 ⟨b, rfl, hbe, hM, hb⟩
    have hbx : Below Wd.heap.size Wd W100 := hb
    clear hb
    have HMM := Lib.hid hM
    clear hM hbe
    replace HBS := Lib.hid (fb2 HBS.out hbx (Nat.le_refl _))
    clear hbx
    go_wp2_with fail
    refine hK.out _ _ ?_ (fun hHeld => ?_)
    · (try dsimp only); first | exact HSS.out | exact HBS.out.mono HLT.out
    clear hK K
    (try simp only [Act.put, List.setIfInBounds_toArray, List.set_cons_zero, List.set_cons_succ])
    refine wpAnyH_ready (rs := [6]) (by kernel_rfl) (by simp) ?_
    refine AllReadyH.cons rfl (fun K hK => ?_) AllReadyH.nil
    go_simp
    refine (HC2.out b W100 (fb2 HB1.out HBS.out (Nat.le_refl _)) HMM.out).mono ?_
    rintro e W101 ⟨rfl, hb⟩
    have hbx : Below W100.heap.size W100 W101 := hb
    clear hb
    replace HBS := Lib.hid (fb2 HBS.out hbx (Nat.le_refl _))
    clear hbx
    go_wp2_with fail
    refine hK.out _ _ ?_ (fun hHeld => ?_)
    · (try dsimp only); first | exact HSS.out | exact HBS.out.mono HLT.out
    clear hK K
    (try simp only [Act.put, List.setIfInBounds_toArray, List.set_cons_zero, List.set_cons_succ])
    refine wpAnyH_ready (rs := [7]) (by kernel_rfl) (by simp) ?_
    refine AllReadyH.cons rfl (fun K hK => ?_) AllReadyH.nil
    refine wp_whole_abs 37 (.tmp 4) (.tmp 21) rfl (A + 2) #[.int .i64 C.k, .string (bs C.x), .string (bs C.y), .string (bs C.z)] rfl rfl 37 #[.int .i64 0, .string ⟨#[]⟩, .string ⟨#[]⟩, .string ⟨#[]⟩] (blk_on HE1.out HBS.out (blk_lt HE1.out)) (by kernel_rfl) rfl (by simp [Value.oneCell']) ?_
    intro W102 hXs hgs
    have HSS := Lib.hid (show Below (A + 2) w1 W102 from (HBS.out.mono HLT.out).grown hgs (Nat.le_trans HLT.out HBS.out.size) (fun j hj => by injection hj with hj; omega))
    have HEN := Lib.hid hXs
    clear hXs hgs HBS
    refine hK.out _ _ ?_ (fun hHeld => ?_)
    · (try dsimp only); first | exact HSS.out | exact HBS.out.mono HLT.out
    clear hK K
    (try simp only [Act.put, List.setIfInBounds_toArray])
    refine wpAnyH_take (i := 8) (oi := ⟨some 5, _, _, _, _, _⟩) (v := ?_) rfl (by kernel_rfl) (by kernel_rfl) (by kernel_rfl) (fun _ _ _ h => h) (Or.inl ⟨by kernel_rfl, ?_⟩) (by assumption) ?_
    rotate_left
    · (intro ww hSw; (try dsimp only at hSw); go_simp); (try with_reducible rfl)
    (try simp only [Act.put])
    refine wpAnyH_done (by kernel_rfl) ?_ _
    have f0 : W102.cell? ⟨A + 2, 0, none⟩ = some (.int .i64 C.k) := (blk_cell HEN.out 0).trans rfl
    have f1 : W102.cell? ⟨A + 2, 1, none⟩ = some (.string (bs C.x)) := (blk_cell HEN.out 1).trans rfl
    have f2 : W102.cell? ⟨A + 2, 2, none⟩ = some (.string (bs C.y)) := (blk_cell HEN.out 2).trans rfl
    have f3 : W102.cell? ⟨A + 2, 3, none⟩ = some (.string (bs C.z)) := (blk_cell HEN.out 3).trans rfl
    have HBF := Lib.hid (show Below w.heap.size w W102 from HB1.out.trans (HSS.out.mono (by have := HAE.out; omega)))
    go_wp2
    refine bodyPost_ret (v := .tuple #[C.v, .int .i64 0]) (by simp [results, Tryz.results17, f0, f1, f2, f3, TermL.v, go_sem]) rfl ⟨by rw [HF.out], HBF.out⟩
  · have HF := Lib.hid (HO2.out hz)
    have gz : (z != 0) = true := bne_iff_ne.2 hz
    clear HO1 HO2 HCP HM
    go_wp2_with (refine whole_abs 37 (.tmp 4) (.tmp 13) ⟨rfl, rfl⟩ (A + 2) #[.int .i64 0, .string ⟨#[]⟩, .string ⟨#[]⟩, .string ⟨#[]⟩] rfl rfl 37 #[.int .i64 0, .string ⟨#[]⟩, .string ⟨#[]⟩, .string ⟨#[]⟩] HE1.out (by kernel_rfl) rfl (by kernel_rfl) ?_; intro w9 hA9 hG9)
    have f0 : w9.cell? ⟨A + 2, 0, none⟩ = some (.int .i64 0) := (blk_cell hA9.out 0).trans rfl
    have f1 : w9.cell? ⟨A + 2, 1, none⟩ = some (.string ⟨#[]⟩) := (blk_cell hA9.out 1).trans rfl
    have f2 : w9.cell? ⟨A + 2, 2, none⟩ = some (.string ⟨#[]⟩) := (blk_cell hA9.out 2).trans rfl
    have f3 : w9.cell? ⟨A + 2, 3, none⟩ = some (.string ⟨#[]⟩) := (blk_cell hA9.out 3).trans rfl
    refine bodyPost_ret (v := .tuple #[.agg #[.int .i64 0, .string ⟨#[]⟩, .string ⟨#[]⟩, .string ⟨#[]⟩], .int .i64 z]) (by simp [results, Tryz.results17, f0, f1, f2, f3, go_sem]) rfl ⟨by rw [HF.out]; rfl, ?_⟩
    exact HB1.out.grown hG9.out HB1.out.size (fun j hj => by injection hj with hj; have := HAE.out; omega)

end Go.Proofs.YtdnfaoanaehjhaaGreatDoor
