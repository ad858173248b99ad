/- A row with what aggregates come to in a group: the document's with (written by gen/mkrwith13.py). -/
import Derived.Test.YtdnfaoanaehjhaaGreatDoorRGrpComes
import Derived.Test.YtdnfaoanaehjhaaGreatDoorH25
import Derived.Test.YtdnfaoanaehjhaaGreatDoorH10
namespace Go.Proofs.YtdnfaoanaehjhaaGreatDoor
open Go.RowKit Go.Maps Go.Sort

structure WithR (A : Nat) (W0 : World) (v : Value) (l : List TermL) (wr : World) : Prop where
  own : wr.ownsRow (A + 1) 37 4 v l.length (cellsT l)
  below : Below (A + 1) W0 wr
  size : A + 1 ≤ wr.heap.size

set_option maxRecDepth 100000 in
set_option maxHeartbeats 8000000 in
theorem rWith_calls (V : List (List UInt8)) (R : List RowL) (row : RowL) (L : List AggL) (hok : okR R) (hL : ∀ a ∈ L, aggB a = true) (h4096 : R.length ≤ 4096) (hq : row.length + L.length ≤ 1000000) (xa : Option Addr) (q qc : Nat) (tv : Value) (la : Option Addr) (ln lc : Nat) (w : World) (hx : TrmA w xa q qc row) (ht : TabA w tv V R) (hl : AgA w la ln lc L) :
    Calls Tryz.prog 44 #[.slice xa q qc, tv, .slice la ln lc] w fun e w' => ∃ v, e = .returned v ∧ w'.ownsRow (w.heap.size + 1) 37 4 v (q + ln) (cellsT (row ++ L.map (comesP V R))) ∧ Below w.heap.size w w' := by
  obtain ⟨j0, hj, hj0, hj1, hj2⟩ := info_parts info_term
  obtain ⟨va, n, vc, ra, m, rc, rfl, hV, hR⟩ := ht
  obtain ⟨A, hA⟩ : ∃ A, w.heap.size = A := ⟨_, rfl⟩
  obtain ⟨W0, hW0⟩ : ∃ W0, (w.alloc (.cells #[.slice va n vc, .slice ra m rc] 25)).alloc (.cells #[] 37) = W0 := ⟨_, rfl⟩
  have HB0 := Lib.hid (show Below w.heap.size w W0 by rw [← hW0]; exact two_alloc _ _ _)
  have HA0 := Lib.hid (show Blk W0 A 25 #[.slice va n vc, .slice ra m rc] by rw [← hW0, ← hA]; exact blk_alloc (blk_new _ _ _) _)
  have HO0 := Lib.hid (show W0.ownsRow (A + 1) 37 4 (.slice (some ⟨A + 1, 0, none⟩) 0 0) 0 (cellsT []) from by
    have := World.ownsRow_lit (base := A + 1) (e := 37) (size := 4) (w.alloc (.cells #[.slice va n vc, .slice ra m rc] 25)) #[] 0 (by rw [World.size_alloc, hA]; exact Nat.le_refl _) (by unfold maxLen; omega) rfl
    rw [hW0, World.size_alloc, hA] at this
    exact this)
  have HZ0 := Lib.hid (show A + 2 = W0.heap.size by rw [← hW0, World.size_alloc, World.size_alloc, hA])
  have HX := Lib.hid ((hx.on HB0.out).news)
  have HXL := Lib.hid (show (cellsT row).length = q * 4 by rw [cellsT_length, hx.len])
  have HXN := Lib.hid hx.len
  have HLN := Lib.hid hl.len
  have hql : q + ln ≤ 1000000 := by rw [← hx.len, ← hl.len]; exact hq
  have HM0 := Lib.hid (show 0 + q ≤ maxLen by unfold maxLen; omega)
  have hlc := hl.cap
  have hlm := hl.most
  unfold maxLen at hlm
  have HLA := Lib.hid hl
  have HCM := Lib.hid (fun W a (h : a ∈ L) (hW : Below w.heap.size w W) => rComes_calls V R a hok (agg_is (hL a h)).1 (agg_is (hL a h)).2 h4096 (.agg #[.slice va n vc, .slice ra m rc]) W ⟨va, n, vc, ra, m, rc, rfl, hV.on hW, hR.on hW⟩)
  have HAE := Lib.hid hA
  have HW0 := Lib.hid hW0
  clear hA hW0 hV hR hx hl hok hL hq h4096
  go_enter Tryz.func44, Tryz.ntmps44
  go_wp2_with (at_builtin; rw [HW0.out, HAE.out]; refine append_any (.tmp 9) (.tmp 10) 35 ⟨rfl, rfl⟩ (A + 1) 37 j0 nilT.v 4 56 Tryz.underlying35 hj hj0 hj1 hj2 rfl (by decide) _ 0 _ rfl HO0.out xa q qc (cellsT row) rfl HXL.out HX.out cellsT_cell HM0.out (by omega) (by have := HZ0.out; omega) ?_; intro v8 w8 ho8 hg8 _; have HS8 := Lib.hid (show WithR A W0 v8 (row ++ (L.map (comesP V R)).take 0) w8 from ⟨by have := ho8.out; rw [Nat.zero_add] at this; rw [List.take_zero, List.append_nil, HXN.out]; exact this, (Below.refl _ _).grown hg8.out (by have := HZ0.out; omega) (fun b hb => by have e : A + 1 = b := Option.some.inj hb; omega), Nat.le_trans (by have := HZ0.out; omega) hg8.out.size⟩); clear ho8 hg8)
  go_loopg [7, 8] ln (fun g v i wr => ∃ k : Nat, i = .int .i64 k ∧ k + g = ln ∧ Hid (WithR A W0 v (row ++ (L.map (comesP V R)).take k) wr))
  case atStart => exact ⟨0, rfl, by omega, HS8⟩
  case round =>
    obtain ⟨W1, rfl⟩ : ∃ W1, W1 = wr := ⟨_, rfl⟩
    obtain ⟨k, rfl, hkg, HRD⟩ := hrel
    have k0 : (0 : Int) ≤ (k : Int) := by omega
    have HBW := Lib.hid (show Below w.heap.size w W1 from HB0.out.trans (HRD.out.below.mono (by have := HAE.out; omega)))
    have HMPL := Lib.hid (show (L.map (comesP V R)).length = ln by rw [List.length_map, HLN.out])
    by_cases hk : k < ln
    · obtain ⟨gg, rfl⟩ : ∃ gg, gk = gg + 1 := ⟨gk - 1, by omega⟩
      have HA1 := Lib.hid (blk_on HA0.out HRD.out.below (by omega))
      have hsz := HRD.out.size
      have hkL : k < L.length := by rw [HLN.out]; exact hk
      obtain ⟨g, o, ha, hgw, hcells⟩ := HLA.out.cells (by omega)
      subst ha
      obtain ⟨c0, c1, c2⟩ := (hcells k hkL).on HBW.out hgw
      have HNX := Lib.hid (show row ++ (L.map (comesP V R)).take (k + 1) = (row ++ (L.map (comesP V R)).take k) ++ [comesP V R L[k]] by
        have hkm : k < (L.map (comesP V R)).length := by rw [List.length_map]; exact hkL
        rw [List.take_succ_eq_append_getElem hkm, List.getElem_map, List.append_assoc])
      have HPL := Lib.hid (show (row ++ (L.map (comesP V R)).take k).length = q + k by rw [List.length_append, HXN.out, List.length_take, HMPL.out]; omega)
      have hO := HRD.out.own
      rw [HPL.out] at hO
      have HO1 := Lib.hid hO
      have HC := Lib.hid (fun W (h : Below W1.heap.size W1 W) => HCM.out W L[k] (List.getElem_mem hkL) (fb2 HBW.out h (Nat.le_refl _)))
      clear hcells hO
      generalize row ++ (L.map (comesP V R)).take k = P at HRD HO1 HNX HPL
      generalize comesP V R L[k] = t at HC HNX
      generalize L[k] = y at c0 c1 c2 HC
      obtain ⟨yk, yo, ym⟩ := y
      obtain ⟨tk, tx, ty, tz⟩ := t
      simp only [AggL.v, TermL.v] at HC
      dsimp only at c0 c1 c2
      have q0 : W1.cell? ⟨A, 0, none⟩ = some (.slice va n vc) := (blk_cell HA1.out 0).trans rfl
      have q1 : W1.cell? ⟨A, 1, none⟩ = some (.slice ra m rc) := (blk_cell HA1.out 1).trans rfl
      have hlg : g < A + 1 := by have := HAE.out; omega
      have hlA : A < A + 1 := by omega
      have HLT := Lib.hid hsz
      have HOB : Hid (∀ e, Value.ownBlock u7 = some e → A + 1 ≤ e) := Lib.hid (fun e he => (HO1.out.lt e he).1)
      have k1 : (k : Int) < (ln : Int) := by omega
      go_wp2_with fail
      refine wp_region_held_drew (S := (fun W => Below (A + 1) W1 W)) (by kernel_rfl) ?_ (fun hHeld => ?_)
      · (try dsimp only); exact (Below.refl _ _).drew
      obtain ⟨Wd, hWd⟩ : ∃ Wd, W1.drew = Wd := ⟨_, rfl⟩
      rw [hWd] at hHeld ⊢
      have HBS := Lib.hid (show Below W1.heap.size W1 Wd by rw [← hWd]; exact (Below.refl _ _).drew)
      clear hWd
      refine wpAnyH_take (i := 0) (oi := ⟨some 18, _, _, _, _, _⟩) (v := ?_) rfl (by kernel_rfl) (by kernel_rfl) (by kernel_rfl) (fun _ _ _ h => h) (Or.inl ⟨by kernel_rfl, ?_⟩) (by assumption) ?_
      rotate_left
      · (intro ww hSw; (try dsimp only at hSw); go_simp); (try with_reducible rfl)
      (try simp only [Act.put, List.setIfInBounds_toArray, List.set_cons_zero, List.set_cons_succ])
      refine wpAnyH_take (i := 1) (oi := ⟨some 19, _, _, _, _, _⟩) (v := ?_) rfl (by kernel_rfl) (by kernel_rfl) (by kernel_rfl) (fun _ _ _ h => h) (Or.inl ⟨by kernel_rfl, ?_⟩) (by assumption) ?_
      rotate_left
      · (intro ww hSw; (try dsimp only at hSw); have e0 := keptC q0 hSw hlA; have e1 := keptC q1 hSw hlA; go_simp); (try with_reducible rfl)
      (try simp only [Act.put, List.setIfInBounds_toArray, List.set_cons_zero, List.set_cons_succ])
      refine wpAnyH_take (i := 2) (oi := ⟨some 20, _, _, _, _, _⟩) (v := ?_) rfl (by kernel_rfl) (by kernel_rfl) (by kernel_rfl) (fun _ _ _ h => h) (Or.inl ⟨by kernel_rfl, ?_⟩) (by assumption) ?_
      rotate_left
      · (intro ww hSw; (try dsimp only at hSw); go_simp); (try with_reducible rfl)
      (try simp only [Act.put, List.setIfInBounds_toArray, List.set_cons_zero, List.set_cons_succ])
      refine wpAnyH_take (i := 3) (oi := ⟨some 21, _, _, _, _, _⟩) (v := ?_) rfl (by kernel_rfl) (by kernel_rfl) (by kernel_rfl) (fun _ _ _ h => h) (Or.inl ⟨by kernel_rfl, ?_⟩) (by assumption) ?_
      rotate_left
      · (intro ww hSw; (try dsimp only at hSw); go_simp); (try with_reducible rfl)
      (try simp only [Act.put, List.setIfInBounds_toArray, List.set_cons_zero, List.set_cons_succ])
      refine wpAnyH_take (i := 4) (oi := ⟨some 22, _, _, _, _, _⟩) (v := ?_) rfl (by kernel_rfl) (by kernel_rfl) (by kernel_rfl) (fun _ _ _ h => h) (Or.inl ⟨by kernel_rfl, ?_⟩) (by assumption) ?_
      rotate_left
      · (intro ww hSw; (try dsimp only at hSw); go_simp); (try with_reducible rfl)
      (try simp only [Act.put, List.setIfInBounds_toArray, List.set_cons_zero, List.set_cons_succ])
      refine wpAnyH_take (i := 5) (oi := ⟨some 23, _, _, _, _, _⟩) (v := ?_) rfl (by kernel_rfl) (by kernel_rfl) (by kernel_rfl) (fun _ _ _ h => h) (Or.inl ⟨by kernel_rfl, ?_⟩) (by assumption) ?_
      rotate_left
      · (intro ww hSw; (try dsimp only at hSw); have e0 := keptC c0 hSw hlg; have e1 := keptC c1 hSw hlg; have e2 := keptC c2 hSw hlg; go_simp); (try with_reducible rfl)
      (try simp only [Act.put, List.setIfInBounds_toArray, List.set_cons_zero, List.set_cons_succ])
      refine wpAnyH_ready (rs := [6]) (by kernel_rfl) (by simp) ?_
      refine AllReadyH.cons rfl (fun K hK => ?_) AllReadyH.nil
      go_simp
      refine (HC.out Wd HBS.out).mono ?_
      rintro e W100 ⟨rfl, hb⟩
      have hbx : Below Wd.heap.size Wd W100 := hb
      clear hb
      replace HBS := Lib.hid (fb2 HBS.out hbx (Nat.le_refl _))
      clear hbx
      go_wp2_with fail
      refine hK.out _ _ ?_ (fun hHeld => ?_)
      · (try dsimp only); first | exact HSS.out | exact HBS.out.mono HLT.out
      clear hK K
      (try simp only [Act.put, List.setIfInBounds_toArray, List.set_cons_zero, List.set_cons_succ])
      refine wpAnyH_ready (rs := [7]) (by kernel_rfl) (by simp) ?_
      refine AllReadyH.cons rfl (fun K hK => ?_) AllReadyH.nil
      go_simp
      obtain ⟨W101, hWn⟩ : ∃ W101, W100.alloc (.cells #[.int .i64 tk, .string (bs tx), .string (bs ty), .string (bs tz)] 37) = W101 := ⟨_, rfl⟩
      obtain ⟨G, hG⟩ : ∃ G, W100.heap.size = G := ⟨_, rfl⟩
      have HBG := Lib.hid (show Blk W101 G 37 #[.int .i64 tk, .string (bs tx), .string (bs ty), .string (bs tz)] by rw [← hWn, ← hG]; exact blk_new _ _ _)
      have hbx : Below W100.heap.size W100 W101 := by rw [← hWn]; exact box_below _ _
      have HGEG := Lib.hid (show W100.heap.size = G from hG)
      rw [hWn, hG]
      clear hWn hG
      replace HBS := Lib.hid (fb2 HBS.out hbx (Nat.le_refl _))
      clear hbx
      refine hK.out _ _ ?_ (fun hHeld => ?_)
      · (try dsimp only); first | exact HSS.out | exact HBS.out.mono HLT.out
      clear hK K
      (try simp only [Act.put, List.setIfInBounds_toArray, List.set_cons_zero, List.set_cons_succ])
      refine wpAnyH_ready (rs := [8]) (by kernel_rfl) (by simp) ?_
      refine AllReadyH.cons rfl (fun K hK => ?_) AllReadyH.nil
      refine wp_append_own (.tmp 18) (.tmp 25) 35 rfl (A + 1) 37 j0 nilT.v 4 56 Tryz.underlying35 hj hj0 hj1 hj2 rfl (by decide) u7 (q + k) _ rfl (HO1.out.kept (row := none) ⟨HBS.out.os, HBS.out.tape, HBS.out.output, HBS.out.size, fun b hb _ => HBS.out.block b hb⟩ (by
        cases hq : u7.ownBlock with
        | none => exact .inl rfl
        | some x => exact .inr (by simp))) ⟨G, 0, none⟩ 1 1 [.int .i64 tk, .string (bs tx), .string (bs ty), .string (bs tz)] rfl rfl (fun j u hj => ?_) (fun u hu => ?_) (by unfold maxLen; omega) (by omega) (Nat.le_trans HLT.out HBS.out.size) ?_
      · rw [add_at, blk_cell HBG.out, Nat.zero_add]
        simpa using hj
      · simp only [List.mem_cons, List.not_mem_nil, or_false] at hu
        rcases hu with rfl | rfl | rfl | rfl <;> rfl
      intro v5 W102 ho5 hg5 _
      have HSS := Lib.hid (show Below (A + 1) W1 W102 from (HBS.out.mono HLT.out).grown hg5 (Nat.le_trans HLT.out HBS.out.size) (fun b hb => HOB.out _ hb))
      have HI5 := Lib.hid (show WithR A W0 v5 (row ++ (L.map (comesP V R)).take (k + 1)) W102 from by
        rw [HNX.out]
        refine ⟨?_, HRD.out.below.trans HSS.out, Nat.le_trans HLT.out HSS.out.size⟩
        have e : (P ++ ([⟨tk, tx, ty, tz⟩] : List TermL)).length = q + k + 1 := by rw [List.length_append, HPL.out]; rfl
        rw [e, cellsT_append, cellsT_one]
        exact ho5)
      clear ho5 hg5 HBS
      refine hK.out _ _ ?_ (fun hHeld => ?_)
      · (try dsimp only); first | exact HSS.out | exact HBS.out.mono HLT.out
      clear hK K
      (try simp only [Act.put, List.setIfInBounds_toArray])
      refine wpAnyH_take (i := 9) (oi := ⟨some 7, _, _, _, _, _⟩) (v := ?_) rfl (by kernel_rfl) (by kernel_rfl) (by kernel_rfl) (fun _ _ _ h => h) (Or.inl ⟨by kernel_rfl, ?_⟩) (by assumption) ?_
      rotate_left
      · (intro ww hSw; (try dsimp only at hSw); go_simp); (try with_reducible rfl)
      (try simp only [Act.put])
      refine wpAnyH_done (by kernel_rfl) ?_ _
      go_wp2
      go_roundg gg
      case measure => omega
      case rel => exact ⟨k + 1, by go_num, by omega, HI5⟩
    · have k1 : ¬ (k : Int) < (ln : Int) := by omega
      have ht : (L.map (comesP V R)).take k = L.map (comesP V R) := List.take_of_length_le (by rw [HMPL.out]; omega)
      rw [ht] at HRD
      have ho := HRD.out.own
      rw [List.length_append, HXN.out, HMPL.out] at ho
      have HO := Lib.hid ho
      clear ho ht
      go_wp2
      go_ret
      exact ⟨u7, rfl, by rw [HAE.out]; exact HO.out, HBW.out⟩

end Go.Proofs.YtdnfaoanaehjhaaGreatDoor
