/- What an aggregate comes to in a group: the document's Comes (written by gen/mkrcomes13.py). -/
import Derived.Test.YtdnfaoanaehjhaaGreatDoorH34
import Derived.Test.YtdnfaoanaehjhaaGreatDoorH35
import Derived.Test.YtdnfaoanaehjhaaGreatDoorH29
namespace Go.Proofs.YtdnfaoanaehjhaaGreatDoor
open Go.RowKit Go.Sort

structure RComR (A : Nat) (W0 : World) (v : Value) (l : List TermL) (wr : World) : Prop where
  own : wr.ownsRow (A + 3) 37 4 v l.length (cellsT l)
  below : Below (A + 3) W0 wr
  size : A + 3 ≤ wr.heap.size

set_option maxRecDepth 100000 in
set_option maxHeartbeats 8000000 in
theorem rComes_calls (V : List (List UInt8)) (R : List RowL) (a : AggL) (hok : okR R) (hk : 1 ≤ a.k ∧ a.k ≤ 4) (hk0 : a.o = [] → a.k = 1) (h4096 : R.length ≤ 4096) (tv : Value) (w : World) (ht : TabA w tv V R) :
    Calls Tryz.prog 18 #[tv, a.v] w fun e w' => e = .returned (comesP V R a).v ∧ Below w.heap.size w w' := by
  obtain ⟨j0, hj, hj0, hj1, hj2⟩ := info_parts info_term
  obtain ⟨va, n, vc, ra, m, rc, rfl, hV, hR⟩ := ht
  have HV := Lib.hid hV
  have HR := Lib.hid hR
  have HL := Lib.hid hR.len
  have hm4 : m ≤ 4096 := by rw [← hR.len]; exact h4096
  have hrc := hR.cap
  have hrm := hR.most
  unfold maxLen at hrm
  have HC1 := Lib.hid (fun h ho => comes_count (V := V) (R := R) (a := a) h ho)
  have HC2 := Lib.hid (fun h ho => comes_bound (V := V) (R := R) (a := a) h ho)
  have HC3 := Lib.hid (fun h => comes_sum (V := V) (R := R) (a := a) h)
  have HC4 := Lib.hid (fun h1 h2 => comes_end (V := V) (R := R) (a := a) h1 h2)
  have HBO := Lib.hid (boundC_ok (V := V) hok a.o)
  have HBL := Lib.hid (boundC_len V R a.o)
  have HZ := empty_is a.o
  obtain ⟨A, hA⟩ : ∃ A, w.heap.size = A := ⟨_, rfl⟩
  obtain ⟨W0, hW0⟩ : ∃ W0, (((w.alloc (.cells #[.slice va n vc, .slice ra m rc] 25)).alloc (.cells #[.int .i64 a.k, .string (bs a.o), .string (bs a.m)] 41)).alloc (.cells #[.int .i64 0, .string ⟨#[]⟩, .string ⟨#[]⟩, .string ⟨#[]⟩] 37)).alloc (.cells #[] 37) = W0 := ⟨_, rfl⟩
  have HB0 := Lib.hid (show Below w.heap.size w W0 by rw [← hW0]; exact fb2 (fb2 (two_alloc _ _ _) (box_below _ _) (Nat.le_refl _)) (box_below _ _) (Nat.le_refl _))
  have HA0 := Lib.hid (show Blk W0 A 25 #[.slice va n vc, .slice ra m rc] by rw [← hW0, ← hA]; exact blk_alloc (blk_alloc (blk_alloc (blk_new _ _ _) _) _) _)
  have HG0 := Lib.hid (show Blk W0 (A + 1) 41 #[.int .i64 a.k, .string (bs a.o), .string (bs a.m)] by
    rw [← hW0]
    have := blk_alloc (blk_alloc (blk_new (w.alloc (.cells #[.slice va n vc, .slice ra m rc] 25)) 41 #[.int .i64 a.k, .string (bs a.o), .string (bs a.m)]) (.cells #[.int .i64 0, .string ⟨#[]⟩, .string ⟨#[]⟩, .string ⟨#[]⟩] 37)) (.cells #[] 37)
    rw [World.size_alloc, hA] at this
    exact this)
  have HE0 := Lib.hid (show Blk W0 (A + 2) 37 #[.int .i64 0, .string ⟨#[]⟩, .string ⟨#[]⟩, .string ⟨#[]⟩] by
    rw [← hW0]
    have := blk_alloc (blk_new ((w.alloc (.cells #[.slice va n vc, .slice ra m rc] 25)).alloc (.cells #[.int .i64 a.k, .string (bs a.o), .string (bs a.m)] 41)) 37 #[.int .i64 0, .string ⟨#[]⟩, .string ⟨#[]⟩, .string ⟨#[]⟩]) (.cells #[] 37)
    rw [World.size_alloc, World.size_alloc, hA] at this
    exact this)
  have hz3 : (((w.alloc (.cells #[.slice va n vc, .slice ra m rc] 25)).alloc (.cells #[.int .i64 a.k, .string (bs a.o), .string (bs a.m)] 41)).alloc (.cells #[.int .i64 0, .string ⟨#[]⟩, .string ⟨#[]⟩, .string ⟨#[]⟩] 37)).heap.size = A + 3 := by rw [World.size_alloc, World.size_alloc, World.size_alloc, hA]
  have HS0 := Lib.hid (show RComR A W0 (.slice (some ⟨A + 3, 0, none⟩) 0 0) (boundC V (R.take 0) a.o) W0 from by
    refine ⟨?_, Below.refl _ _, by rw [← hW0, World.size_alloc, hz3]; omega⟩
    have := World.ownsRow_lit (base := A + 3) (e := 37) (size := 4) (((w.alloc (.cells #[.slice va n vc, .slice ra m rc] 25)).alloc (.cells #[.int .i64 a.k, .string (bs a.o), .string (bs a.m)] 41)).alloc (.cells #[.int .i64 0, .string ⟨#[]⟩, .string ⟨#[]⟩, .string ⟨#[]⟩] 37)) #[] 0 (by rw [hz3]; exact Nat.le_refl _) (by unfold maxLen; omega) rfl
    rw [hW0, hz3] at this
    rw [List.take_zero]
    exact this)
  have HAE := Lib.hid hA
  have HW0 := Lib.hid hW0
  have HZ3 := Lib.hid (show w.heap.size + 1 + 1 + 1 = A + 3 by omega)
  have HBC := Lib.hid (fun W r a' q c' (h1 : Below w.heap.size w W) (h2 : TrmA W a' q c' r) => bound_calls a.o V r va n vc a' q c' W (hV.on h1) h2)
  have HSN := Lib.hid (fun (k : Nat) (h : k < R.length) => show boundC V (R.take (k + 1)) a.o = if (boundP V R[k] a.o).k = 0 then boundC V (R.take k) a.o else boundC V (R.take k) a.o ++ [boundP V R[k] a.o] by rw [List.take_succ_eq_append_getElem h]; exact boundC_snoc V (R.take k) R[k] a.o)
  have HLE := Lib.hid (fun (k : Nat) => boundC_len V (R.take k) a.o)
  clear hW0 hA hV hR hok h4096 hz3
  obtain ⟨ak, ao, am⟩ := a
  dsimp only at HC1 HC2 HC3 HC4 HBO HBL HZ hk hk0 HG0 HS0 HW0 HBC HSN HLE
  simp only [AggL.v]
  go_enter Tryz.func18, Tryz.ntmps18
  go_wp2
  rw [HW0.out, HZ3.out, HAE.out]
  go_loopg [5, 6, 7] m (fun g v i _ wr => ∃ k : Nat, i = .int .i64 k ∧ k + g = m ∧ Hid (RComR A W0 v (boundC V (R.take k) ao) wr))
  case atStart => exact ⟨0, rfl, by omega, HS0⟩
  case round =>
    obtain ⟨W1, rfl⟩ : ∃ W1, W1 = wr := ⟨_, rfl⟩
    obtain ⟨k, rfl, hkg, HRD⟩ := hrel
    have k0 : (0 : Int) ≤ (k : Int) := by omega
    have HBW := Lib.hid (show Below w.heap.size w W1 from HB0.out.trans (HRD.out.below.mono (by have := HAE.out; omega)))
    have HA1 := Lib.hid (blk_on HA0.out HRD.out.below (by omega))
    have HG1 := Lib.hid (blk_on HG0.out HRD.out.below (by omega))
    have HE1 := Lib.hid (blk_on HE0.out HRD.out.below (by omega))
    have HSZ := Lib.hid HRD.out.size
    have hsz := HRD.out.size
    have q0 : W1.cell? ⟨A, 0, none⟩ = some (.slice va n vc) := (blk_cell HA1.out 0).trans rfl
    have q1 : W1.cell? ⟨A, 1, none⟩ = some (.slice ra m rc) := (blk_cell HA1.out 1).trans rfl
    have p0 : W1.cell? ⟨A + 1, 0, none⟩ = some (.int .i64 ak) := (blk_cell HG1.out 0).trans rfl
    have p1 : W1.cell? ⟨A + 1, 1, none⟩ = some (.string (bs ao)) := (blk_cell HG1.out 1).trans rfl
    by_cases hkm : k < m
    · obtain ⟨gg, rfl⟩ : ∃ gg, gk = gg + 1 := ⟨gk - 1, by omega⟩
      have hkL : k < R.length := by rw [HL.out]; exact hkm
      obtain ⟨g, o, ha, hgw, hcells⟩ := HR.out.cells (by omega)
      subst ha
      obtain ⟨a', c', hcell, htrm⟩ := hcells k hkL
      have c0 := keptC hcell HBW.out hgw
      have hgW : g < W1.heap.size := Nat.lt_of_lt_of_le hgw HBW.out.size
      have hAW : A < W1.heap.size := by omega
      have hGW : A + 1 < W1.heap.size := by omega
      have HTM := Lib.hid (htrm.on HBW.out)
      have HS1 := Lib.hid (HSN.out k hkL)
      have hle := HLE.out k
      rw [List.length_take] at hle
      obtain ⟨l0, hl0⟩ : ∃ l0, (boundC V (R.take k) ao).length = l0 := ⟨_, rfl⟩
      rw [hl0] at hle
      have hO := HRD.out.own
      rw [hl0] at hO
      have HO1 := Lib.hid hO
      have HL0 := Lib.hid hl0
      clear hcells hcell htrm hO hl0
      generalize R[k] = y at c0 HTM HS1
      generalize hyn : y.length = yn at c0 HTM
      have HB1 := Lib.hid (fun W (hb : Below W1.heap.size W1 W) => HBC.out W y a' yn c' (fb2 HBW.out hb (Nat.le_refl _)) (HTM.out.on hb))
      generalize boundP V y ao = t at HB1 HS1
      obtain ⟨tk, tx, ty, tz⟩ := t
      simp only [TermL.v] at HB1
      dsimp only at HS1
      clear hyn
      have k1 : (k : Int) < (m : Int) := by omega
      go_wp2_with fail
      refine wp_region_held_drew (S := (fun W => Below W1.heap.size W1 W)) (by kernel_rfl) ?_ (fun hHeld => ?_)
      · (try dsimp only); exact (Below.refl _ _).drew
      obtain ⟨Wd, hWd⟩ : ∃ Wd, W1.drew = Wd := ⟨_, rfl⟩
      rw [hWd] at hHeld ⊢
      have HBS := Lib.hid (show Below W1.heap.size W1 Wd by rw [← hWd]; exact (Below.refl _ _).drew)
      clear hWd
      refine wpAnyH_take (i := 0) (oi := ⟨some 16, _, _, _, _, _⟩) (v := ?_) rfl (by kernel_rfl) (by kernel_rfl) (by kernel_rfl) (fun _ _ _ h => h) (Or.inl ⟨by kernel_rfl, ?_⟩) (by assumption) ?_
      rotate_left
      · (intro ww hSw; (try dsimp only at hSw); go_simp); (try with_reducible rfl)
      (try simp only [Act.put, List.setIfInBounds_toArray, List.set_cons_zero, List.set_cons_succ])
      refine wpAnyH_take (i := 1) (oi := ⟨some 17, _, _, _, _, _⟩) (v := ?_) rfl (by kernel_rfl) (by kernel_rfl) (by kernel_rfl) (fun _ _ _ h => h) (Or.inl ⟨by kernel_rfl, ?_⟩) (by assumption) ?_
      rotate_left
      · (intro ww hSw; (try dsimp only at hSw); have e0 := keptC p1 hSw hGW; go_simp); (try with_reducible rfl)
      (try simp only [Act.put, List.setIfInBounds_toArray, List.set_cons_zero, List.set_cons_succ])
      refine wpAnyH_take (i := 2) (oi := ⟨some 18, _, _, _, _, _⟩) (v := ?_) rfl (by kernel_rfl) (by kernel_rfl) (by kernel_rfl) (fun _ _ _ h => h) (Or.inl ⟨by kernel_rfl, ?_⟩) (by assumption) ?_
      rotate_left
      · (intro ww hSw; (try dsimp only at hSw); go_simp); (try with_reducible rfl)
      (try simp only [Act.put, List.setIfInBounds_toArray, List.set_cons_zero, List.set_cons_succ])
      refine wpAnyH_take (i := 3) (oi := ⟨some 19, _, _, _, _, _⟩) (v := ?_) rfl (by kernel_rfl) (by kernel_rfl) (by kernel_rfl) (fun _ _ _ h => h) (Or.inl ⟨by kernel_rfl, ?_⟩) (by assumption) ?_
      rotate_left
      · (intro ww hSw; (try dsimp only at hSw); have e0 := keptC q0 hSw hAW; go_simp); (try with_reducible rfl)
      (try simp only [Act.put, List.setIfInBounds_toArray, List.set_cons_zero, List.set_cons_succ])
      refine wpAnyH_take (i := 4) (oi := ⟨some 20, _, _, _, _, _⟩) (v := ?_) rfl (by kernel_rfl) (by kernel_rfl) (by kernel_rfl) (fun _ _ _ h => h) (Or.inl ⟨by kernel_rfl, ?_⟩) (by assumption) ?_
      rotate_left
      · (intro ww hSw; (try dsimp only at hSw); go_simp); (try with_reducible rfl)
      (try simp only [Act.put, List.setIfInBounds_toArray, List.set_cons_zero, List.set_cons_succ])
      refine wpAnyH_take (i := 5) (oi := ⟨some 21, _, _, _, _, _⟩) (v := ?_) rfl (by kernel_rfl) (by kernel_rfl) (by kernel_rfl) (fun _ _ _ h => h) (Or.inl ⟨by kernel_rfl, ?_⟩) (by assumption) ?_
      rotate_left
      · (intro ww hSw; (try dsimp only at hSw); have e0 := keptC q1 hSw hAW; go_simp); (try with_reducible rfl)
      (try simp only [Act.put, List.setIfInBounds_toArray, List.set_cons_zero, List.set_cons_succ])
      refine wpAnyH_take (i := 6) (oi := ⟨some 22, _, _, _, _, _⟩) (v := ?_) rfl (by kernel_rfl) (by kernel_rfl) (by kernel_rfl) (fun _ _ _ h => h) (Or.inl ⟨by kernel_rfl, ?_⟩) (by assumption) ?_
      rotate_left
      · (intro ww hSw; (try dsimp only at hSw); go_simp); (try with_reducible rfl)
      (try simp only [Act.put, List.setIfInBounds_toArray, List.set_cons_zero, List.set_cons_succ])
      refine wpAnyH_take (i := 7) (oi := ⟨some 23, _, _, _, _, _⟩) (v := ?_) rfl (by kernel_rfl) (by kernel_rfl) (by kernel_rfl) (fun _ _ _ h => h) (Or.inl ⟨by kernel_rfl, ?_⟩) (by assumption) ?_
      rotate_left
      · (intro ww hSw; (try dsimp only at hSw); go_simp); (try with_reducible rfl)
      (try simp only [Act.put, List.setIfInBounds_toArray, List.set_cons_zero, List.set_cons_succ])
      refine wpAnyH_take (i := 8) (oi := ⟨some 24, _, _, _, _, _⟩) (v := ?_) rfl (by kernel_rfl) (by kernel_rfl) (by kernel_rfl) (fun _ _ _ h => h) (Or.inl ⟨by kernel_rfl, ?_⟩) (by assumption) ?_
      rotate_left
      · (intro ww hSw; (try dsimp only at hSw); have e0 := keptC c0 hSw hgW; go_simp); (try with_reducible rfl)
      (try simp only [Act.put, List.setIfInBounds_toArray, List.set_cons_zero, List.set_cons_succ])
      refine wpAnyH_ready (rs := [9, 10]) (by kernel_rfl) (by simp) ?_
      refine AllReadyH.cons rfl (fun K hK => ?_) (AllReadyH.cons rfl (fun K hK => ?_) AllReadyH.nil)
      · go_simp
        refine (HB1.out Wd HBS.out).mono ?_
        rintro e W100 ⟨rfl, hb⟩
        have hbx : Below Wd.heap.size Wd W100 := hb
        clear hb
        replace HBS := Lib.hid (fb2 HBS.out hbx (Nat.le_refl _))
        clear hbx
        go_wp2_with fail
        refine hK.out _ _ ?_ (fun hHeld => ?_)
        · (try dsimp only); exact HBS.out
        clear hK K
        (try simp only [Act.put, List.setIfInBounds_toArray, List.set_cons_zero, List.set_cons_succ])
        refine wpAnyH_ready (rs := [10]) (by kernel_rfl) (by simp) ?_
        refine AllReadyH.cons rfl (fun K hK => ?_) AllReadyH.nil
        go_simp
        obtain ⟨W101, hWn⟩ : ∃ W101, W100.alloc (.cells #[.int .i64 0, .string ⟨#[]⟩, .string ⟨#[]⟩, .string ⟨#[]⟩] 37) = W101 := ⟨_, rfl⟩
        obtain ⟨G, hG⟩ : ∃ G, W100.heap.size = G := ⟨_, rfl⟩
        have HBG := Lib.hid (show Blk W101 G 37 #[.int .i64 0, .string ⟨#[]⟩, .string ⟨#[]⟩, .string ⟨#[]⟩] by rw [← hWn, ← hG]; exact blk_new _ _ _)
        have hbx : Below W100.heap.size W100 W101 := by rw [← hWn]; exact box_below _ _
        have HGEG := Lib.hid (show W100.heap.size = G from hG)
        rw [hWn, hG]
        clear hWn hG
        replace HGEG := Lib.hid (show W1.heap.size ≤ G by have h1 := HBS.out.size; have h2 := HGEG.out; omega)
        replace HBS := Lib.hid (fb2 HBS.out hbx (Nat.le_refl _))
        clear hbx
        refine hK.out _ _ ?_ (fun hHeld => ?_)
        · (try dsimp only); exact HBS.out
        clear hK K
        (try simp only [Act.put, List.setIfInBounds_toArray, List.set_cons_zero, List.set_cons_succ])
        refine wpAnyH_ready (rs := [11]) (by kernel_rfl) (by simp) ?_
        refine AllReadyH.cons rfl (fun K hK => ?_) AllReadyH.nil
        refine wp_whole_abs 37 (.tmp 7) (.tmp 25) rfl G #[.int .i64 tk, .string (bs tx), .string (bs ty), .string (bs tz)] rfl rfl 37 #[.int .i64 0, .string ⟨#[]⟩, .string ⟨#[]⟩, .string ⟨#[]⟩] HBG.out (by kernel_rfl) rfl (by simp [Value.oneCell']) ?_
        intro W102 hXs hgs
        replace HBS := Lib.hid (HBS.out.grown hgs HBS.out.size (fun j hj => by injection hj with hj; have := HGEG.out; omega))
        replace HBG := Lib.hid (show Blk W102 G 37 #[.int .i64 tk, .string (bs tx), .string (bs ty), .string (bs tz)] from hXs)
        clear hXs hgs
        refine hK.out _ _ ?_ (fun hHeld => ?_)
        · (try dsimp only); exact HBS.out
        clear hK K
        (try simp only [Act.put, List.setIfInBounds_toArray])
        refine wpAnyH_done (by kernel_rfl) ?_ _
        obtain ⟨W2, hW2⟩ : ∃ W2, W2 = W102 := ⟨_, rfl⟩
        rw [← hW2] at HBG HBS ⊢
        clear hW2
        have x0 : W2.cell? ⟨G, 0, none⟩ = some (.int .i64 tk) := (blk_cell HBG.out 0).trans rfl
        have x1 : W2.cell? ⟨G, 1, none⟩ = some (.string (bs tx)) := (blk_cell HBG.out 1).trans rfl
        have x2 : W2.cell? ⟨G, 2, none⟩ = some (.string (bs ty)) := (blk_cell HBG.out 2).trans rfl
        have x3 : W2.cell? ⟨G, 3, none⟩ = some (.string (bs tz)) := (blk_cell HBG.out 3).trans rfl
        have HN2 := Lib.hid (show Below (A + 3) W0 W2 from HRD.out.below.trans (HBS.out.mono HSZ.out))
        have HZ2 := Lib.hid (show A + 3 ≤ W2.heap.size from Nat.le_trans HSZ.out HBS.out.size)
        have HO2 := Lib.hid (HO1.out.kept (row := none) ⟨HBS.out.os, HBS.out.tape, HBS.out.output, HBS.out.size, fun b hb _ => HBS.out.block b hb⟩ (by
          cases hq : u5.ownBlock with
          | none => exact .inl rfl
          | some x => exact .inr (by simp)))
        clear HBS HBG HRD HGEG HB1 HA1 HG1 HE1
        by_cases he : tk = 0
        · have HE := Lib.hid (HS1.out.trans (if_pos he))
          have g1 : (tk != 0) = false := by rw [he]; rfl
          clear he HS1
          go_wp2
          go_roundg gg
          case measure => omega
          case rel => exact ⟨k + 1, by go_num, by omega, Lib.hid ⟨by rw [HE.out, HL0.out]; exact HO2.out, HN2.out, HZ2.out⟩⟩
        · have HE := Lib.hid (HS1.out.trans (if_neg he))
          have g1 : (tk != 0) = true := bne_iff_ne.2 he
          have HM1 := Lib.hid (show l0 + 1 ≤ maxLen by unfold maxLen; omega)
          have HM2 := Lib.hid (show (l0 + 1) * 56 ≤ 140737488355328 by omega)
          clear he HS1
          go_wp2_with (at_builtin; (refine wpList_append_own_at _ rfl (.tmp 29) (.tmp 31) 35 rfl (A + 3) 37 j0 nilT.v 4 56 Tryz.underlying35 hj hj0 hj1 hj2 rfl (by decide) u5 _ _ rfl (HO2.out.alloc _) ⟨W2.heap.size, 0, none⟩ 1 1 (TermL.cs ⟨tk, tx, ty, tz⟩) rfl rfl (news_gen _ _ _ (by simp)) (cs_cell _) HM1.out HM2.out (Nat.le_trans HZ2.out (by simp)) ?_; intro v4 w4 ho4 hg4 _ _; have HO4 := Lib.hid ho4; have HG4 := Lib.hid hg4; clear ho4 hg4))
          go_roundg gg
          case measure => omega
          case rel => exact ⟨k + 1, by go_num, by omega, Lib.hid ⟨by rw [HE.out, List.length_append, HL0.out, cellsT_append, cellsT_one]; exact HO4.out, HN2.out.trans (((box_below W2 _).mono HZ2.out).grown HG4.out (Nat.le_trans HZ2.out (by simp)) (fun q hq => (HO2.out.lt q hq).1)), Nat.le_trans HZ2.out (Nat.le_trans (by simp) HG4.out.size)⟩⟩
      · go_simp
        obtain ⟨W100, hWn⟩ : ∃ W100, Wd.alloc (.cells #[.int .i64 0, .string ⟨#[]⟩, .string ⟨#[]⟩, .string ⟨#[]⟩] 37) = W100 := ⟨_, rfl⟩
        obtain ⟨G, hG⟩ : ∃ G, Wd.heap.size = G := ⟨_, rfl⟩
        have HBG := Lib.hid (show Blk W100 G 37 #[.int .i64 0, .string ⟨#[]⟩, .string ⟨#[]⟩, .string ⟨#[]⟩] by rw [← hWn, ← hG]; exact blk_new _ _ _)
        have hbx : Below Wd.heap.size Wd W100 := by rw [← hWn]; exact box_below _ _
        have HGEG := Lib.hid (show Wd.heap.size = G from hG)
        rw [hWn, hG]
        clear hWn hG
        replace HGEG := Lib.hid (show W1.heap.size ≤ G by have h1 := HBS.out.size; have h2 := HGEG.out; omega)
        replace HBS := Lib.hid (fb2 HBS.out hbx (Nat.le_refl _))
        clear hbx
        refine hK.out _ _ ?_ (fun hHeld => ?_)
        · (try dsimp only); exact HBS.out
        clear hK K
        (try simp only [Act.put, List.setIfInBounds_toArray, List.set_cons_zero, List.set_cons_succ])
        refine wpAnyH_ready (rs := [9]) (by kernel_rfl) (by simp) ?_
        refine AllReadyH.cons rfl (fun K hK => ?_) AllReadyH.nil
        go_simp
        refine (HB1.out W100 HBS.out).mono ?_
        rintro e W101 ⟨rfl, hb⟩
        have hbx : Below W100.heap.size W100 W101 := hb
        clear hb
        replace HBG := Lib.hid (blk_on HBG.out hbx (blk_lt HBG.out))
        replace HBS := Lib.hid (fb2 HBS.out hbx (Nat.le_refl _))
        clear hbx
        go_wp2_with fail
        refine hK.out _ _ ?_ (fun hHeld => ?_)
        · (try dsimp only); exact HBS.out
        clear hK K
        (try simp only [Act.put, List.setIfInBounds_toArray, List.set_cons_zero, List.set_cons_succ])
        refine wpAnyH_ready (rs := [11]) (by kernel_rfl) (by simp) ?_
        refine AllReadyH.cons rfl (fun K hK => ?_) AllReadyH.nil
        refine wp_whole_abs 37 (.tmp 7) (.tmp 25) rfl G #[.int .i64 tk, .string (bs tx), .string (bs ty), .string (bs tz)] rfl rfl 37 #[.int .i64 0, .string ⟨#[]⟩, .string ⟨#[]⟩, .string ⟨#[]⟩] HBG.out (by kernel_rfl) rfl (by simp [Value.oneCell']) ?_
        intro W102 hXs hgs
        replace HBS := Lib.hid (HBS.out.grown hgs HBS.out.size (fun j hj => by injection hj with hj; have := HGEG.out; omega))
        replace HBG := Lib.hid (show Blk W102 G 37 #[.int .i64 tk, .string (bs tx), .string (bs ty), .string (bs tz)] from hXs)
        clear hXs hgs
        refine hK.out _ _ ?_ (fun hHeld => ?_)
        · (try dsimp only); exact HBS.out
        clear hK K
        (try simp only [Act.put, List.setIfInBounds_toArray])
        refine wpAnyH_done (by kernel_rfl) ?_ _
        obtain ⟨W2, hW2⟩ : ∃ W2, W2 = W102 := ⟨_, rfl⟩
        rw [← hW2] at HBG HBS ⊢
        clear hW2
        have x0 : W2.cell? ⟨G, 0, none⟩ = some (.int .i64 tk) := (blk_cell HBG.out 0).trans rfl
        have x1 : W2.cell? ⟨G, 1, none⟩ = some (.string (bs tx)) := (blk_cell HBG.out 1).trans rfl
        have x2 : W2.cell? ⟨G, 2, none⟩ = some (.string (bs ty)) := (blk_cell HBG.out 2).trans rfl
        have x3 : W2.cell? ⟨G, 3, none⟩ = some (.string (bs tz)) := (blk_cell HBG.out 3).trans rfl
        have HN2 := Lib.hid (show Below (A + 3) W0 W2 from HRD.out.below.trans (HBS.out.mono HSZ.out))
        have HZ2 := Lib.hid (show A + 3 ≤ W2.heap.size from Nat.le_trans HSZ.out HBS.out.size)
        have HO2 := Lib.hid (HO1.out.kept (row := none) ⟨HBS.out.os, HBS.out.tape, HBS.out.output, HBS.out.size, fun b hb _ => HBS.out.block b hb⟩ (by
          cases hq : u5.ownBlock with
          | none => exact .inl rfl
          | some x => exact .inr (by simp)))
        clear HBS HBG HRD HGEG HB1 HA1 HG1 HE1
        by_cases he : tk = 0
        · have HE := Lib.hid (HS1.out.trans (if_pos he))
          have g1 : (tk != 0) = false := by rw [he]; rfl
          clear he HS1
          go_wp2
          go_roundg gg
          case measure => omega
          case rel => exact ⟨k + 1, by go_num, by omega, Lib.hid ⟨by rw [HE.out, HL0.out]; exact HO2.out, HN2.out, HZ2.out⟩⟩
        · have HE := Lib.hid (HS1.out.trans (if_neg he))
          have g1 : (tk != 0) = true := bne_iff_ne.2 he
          have HM1 := Lib.hid (show l0 + 1 ≤ maxLen by unfold maxLen; omega)
          have HM2 := Lib.hid (show (l0 + 1) * 56 ≤ 140737488355328 by omega)
          clear he HS1
          go_wp2_with (at_builtin; (refine wpList_append_own_at _ rfl (.tmp 29) (.tmp 31) 35 rfl (A + 3) 37 j0 nilT.v 4 56 Tryz.underlying35 hj hj0 hj1 hj2 rfl (by decide) u5 _ _ rfl (HO2.out.alloc _) ⟨W2.heap.size, 0, none⟩ 1 1 (TermL.cs ⟨tk, tx, ty, tz⟩) rfl rfl (news_gen _ _ _ (by simp)) (cs_cell _) HM1.out HM2.out (Nat.le_trans HZ2.out (by simp)) ?_; intro v4 w4 ho4 hg4 _ _; have HO4 := Lib.hid ho4; have HG4 := Lib.hid hg4; clear ho4 hg4))
          go_roundg gg
          case measure => omega
          case rel => exact ⟨k + 1, by go_num, by omega, Lib.hid ⟨by rw [HE.out, List.length_append, HL0.out, cellsT_append, cellsT_one]; exact HO4.out, HN2.out.trans (((box_below W2 _).mono HZ2.out).grown HG4.out (Nat.le_trans HZ2.out (by simp)) (fun q hq => (HO2.out.lt q hq).1)), Nat.le_trans HZ2.out (Nat.le_trans (by simp) HG4.out.size)⟩⟩
    · have k1 : ¬ (k : Int) < (m : Int) := by omega
      have ht : R.take k = R := List.take_of_length_le (by rw [HL.out]; omega)
      rw [ht] at HRD
      have ho := HRD.out.own
      obtain ⟨ta, tc, rfl, hT⟩ := own_trms ho
      have HT := Lib.hid hT.a
      have HBL1 := Lib.hid (show (boundC V R ao).length ≤ 4096 from Nat.le_trans HBL.out (by rw [HL.out]; exact hm4))
      obtain ⟨b0, hb0⟩ : ∃ b0, (boundC V R ao).length = b0 := ⟨_, rfl⟩
      have HB0L := Lib.hid hb0
      rw [hb0] at HT HBL1
      have hb4k := HBL1.out
      rw [hb0]
      clear ho hT ht hkg
      by_cases h1 : ak = 1
      · have g1 : (ak == 1) = true := beq_iff_eq.2 h1
        by_cases hz : ao = []
        · rw [decide_eq_true hz] at HZ
          have HE := Lib.hid (HC1.out h1 hz)
          have HC := Lib.hid ((show Calls Tryz.prog 48 #[.int .i64 m] W1 fun e w' => e = .returned (countT R.length).v ∧ Below W1.heap.size W1 w' by rw [HL.out]; exact gCount_calls m (by omega) W1))
          try clear hz
          generalize countT R.length = z at HE HC
          obtain ⟨zk, zx, zy, zz⟩ := z
          simp only [TermL.v] at HC
          clear HC1 HC2 HC3 HC4 HBO HBC HSN HLE HRD
          go_wp2_with fail
          refine (HC.out).mono ?_
          rintro e w4 ⟨rfl, hb4⟩
          have HE4 := Lib.hid (blk_on HE1.out hb4 (blk_lt HE1.out))
          have HB4 := Lib.hid (fb2 HBW.out hb4 (Nat.le_refl _))
          clear hb4 q0 q1 p0 p1
          go_wp2_with (refine whole_abs 37 (.tmp 4) (.tmp 43) ⟨rfl, rfl⟩ (A + 2) #[.int .i64 zk, .string (bs zx), .string (bs zy), .string (bs zz)] rfl rfl 37 #[.int .i64 0, .string ⟨#[]⟩, .string ⟨#[]⟩, .string ⟨#[]⟩] HE4.out (by kernel_rfl) rfl (by kernel_rfl) ?_; intro w9 hA9 hG9)
          have f0 : w9.cell? ⟨A + 2, 0, none⟩ = some (.int .i64 zk) := (blk_cell hA9.out 0).trans rfl
          have f1 : w9.cell? ⟨A + 2, 1, none⟩ = some (.string (bs zx)) := (blk_cell hA9.out 1).trans rfl
          have f2 : w9.cell? ⟨A + 2, 2, none⟩ = some (.string (bs zy)) := (blk_cell hA9.out 2).trans rfl
          have f3 : w9.cell? ⟨A + 2, 3, none⟩ = some (.string (bs zz)) := (blk_cell hA9.out 3).trans rfl
          refine bodyPost_ret (v := .agg #[.int .i64 zk, .string (bs zx), .string (bs zy), .string (bs zz)]) (by simp [results, Tryz.results18, f0, f1, f2, f3, go_sem]) rfl ⟨by rw [HE.out]; rfl, ?_⟩
          exact HB4.out.grown hG9.out HB4.out.size (fun j hj => by injection hj with hj; have := HAE.out; omega)
        · rw [decide_eq_false hz] at HZ
          have HE := Lib.hid (HC2.out h1 hz)
          have HC := Lib.hid ((show Calls Tryz.prog 48 #[.int .i64 b0] W1 fun e w' => e = .returned (countT (boundC V R ao).length).v ∧ Below W1.heap.size W1 w' by rw [HB0L.out]; exact gCount_calls b0 (by omega) W1))
          try clear hz
          generalize countT (boundC V R ao).length = z at HE HC
          obtain ⟨zk, zx, zy, zz⟩ := z
          simp only [TermL.v] at HC
          clear HC1 HC2 HC3 HC4 HBO HBC HSN HLE HRD
          go_wp2_with fail
          refine (HC.out).mono ?_
          rintro e w4 ⟨rfl, hb4⟩
          have HE4 := Lib.hid (blk_on HE1.out hb4 (blk_lt HE1.out))
          have HB4 := Lib.hid (fb2 HBW.out hb4 (Nat.le_refl _))
          clear hb4 q0 q1 p0 p1
          go_wp2_with (refine whole_abs 37 (.tmp 4) (.tmp 46) ⟨rfl, rfl⟩ (A + 2) #[.int .i64 zk, .string (bs zx), .string (bs zy), .string (bs zz)] rfl rfl 37 #[.int .i64 0, .string ⟨#[]⟩, .string ⟨#[]⟩, .string ⟨#[]⟩] HE4.out (by kernel_rfl) rfl (by kernel_rfl) ?_; intro w9 hA9 hG9)
          have f0 : w9.cell? ⟨A + 2, 0, none⟩ = some (.int .i64 zk) := (blk_cell hA9.out 0).trans rfl
          have f1 : w9.cell? ⟨A + 2, 1, none⟩ = some (.string (bs zx)) := (blk_cell hA9.out 1).trans rfl
          have f2 : w9.cell? ⟨A + 2, 2, none⟩ = some (.string (bs zy)) := (blk_cell hA9.out 2).trans rfl
          have f3 : w9.cell? ⟨A + 2, 3, none⟩ = some (.string (bs zz)) := (blk_cell hA9.out 3).trans rfl
          refine bodyPost_ret (v := .agg #[.int .i64 zk, .string (bs zx), .string (bs zy), .string (bs zz)]) (by simp [results, Tryz.results18, f0, f1, f2, f3, go_sem]) rfl ⟨by rw [HE.out]; rfl, ?_⟩
          exact HB4.out.grown hG9.out HB4.out.size (fun j hj => by injection hj with hj; have := HAE.out; omega)
      · have g1 : (ak == 1) = false := beq_eq_false_iff_ne.2 h1
        by_cases h2 : ak = 2
        · have g2 : (ak == 2) = true := beq_iff_eq.2 h2
          have HE := Lib.hid (HC3.out h2)
          have HC := Lib.hid (rSum_calls (boundC V R ao) HBO.out ta b0 tc W1 HT.out)
          try clear hz
          generalize sumT (boundC V R ao) = z at HE HC
          obtain ⟨zk, zx, zy, zz⟩ := z
          simp only [TermL.v] at HC
          clear HC1 HC2 HC3 HC4 HBO HBC HSN HLE HRD
          go_wp2_with fail
          refine (HC.out).mono ?_
          rintro e w4 ⟨rfl, hb4⟩
          have HE4 := Lib.hid (blk_on HE1.out hb4 (blk_lt HE1.out))
          have HB4 := Lib.hid (fb2 HBW.out hb4 (Nat.le_refl _))
          clear hb4 q0 q1 p0 p1
          go_wp2_with (refine whole_abs 37 (.tmp 4) (.tmp 50) ⟨rfl, rfl⟩ (A + 2) #[.int .i64 zk, .string (bs zx), .string (bs zy), .string (bs zz)] rfl rfl 37 #[.int .i64 0, .string ⟨#[]⟩, .string ⟨#[]⟩, .string ⟨#[]⟩] HE4.out (by kernel_rfl) rfl (by kernel_rfl) ?_; intro w9 hA9 hG9)
          have f0 : w9.cell? ⟨A + 2, 0, none⟩ = some (.int .i64 zk) := (blk_cell hA9.out 0).trans rfl
          have f1 : w9.cell? ⟨A + 2, 1, none⟩ = some (.string (bs zx)) := (blk_cell hA9.out 1).trans rfl
          have f2 : w9.cell? ⟨A + 2, 2, none⟩ = some (.string (bs zy)) := (blk_cell hA9.out 2).trans rfl
          have f3 : w9.cell? ⟨A + 2, 3, none⟩ = some (.string (bs zz)) := (blk_cell hA9.out 3).trans rfl
          refine bodyPost_ret (v := .agg #[.int .i64 zk, .string (bs zx), .string (bs zy), .string (bs zz)]) (by simp [results, Tryz.results18, f0, f1, f2, f3, go_sem]) rfl ⟨by rw [HE.out]; rfl, ?_⟩
          exact HB4.out.grown hG9.out HB4.out.size (fun j hj => by injection hj with hj; have := HAE.out; omega)
        · have g2 : (ak == 2) = false := beq_eq_false_iff_ne.2 h2
          have g4 : (ak == 4) = decide (ak = 4) := by by_cases h : ak = 4 <;> simp [h]
          have HE := Lib.hid (HC4.out h1 h2)
          have HC := Lib.hid (rEnd_calls (boundC V R ao) (decide (ak = 4)) HBO.out ta b0 tc W1 HT.out)
          try clear hz
          generalize endT (decide (ak = 4)) (boundC V R ao) = z at HE HC
          obtain ⟨zk, zx, zy, zz⟩ := z
          simp only [TermL.v] at HC
          clear HC1 HC2 HC3 HC4 HBO HBC HSN HLE HRD
          go_wp2_with fail
          refine (HC.out).mono ?_
          rintro e w4 ⟨rfl, hb4⟩
          have HE4 := Lib.hid (blk_on HE1.out hb4 (blk_lt HE1.out))
          have HB4 := Lib.hid (fb2 HBW.out hb4 (Nat.le_refl _))
          clear hb4 q0 q1 p0 p1
          go_wp2_with (refine whole_abs 37 (.tmp 4) (.tmp 55) ⟨rfl, rfl⟩ (A + 2) #[.int .i64 zk, .string (bs zx), .string (bs zy), .string (bs zz)] rfl rfl 37 #[.int .i64 0, .string ⟨#[]⟩, .string ⟨#[]⟩, .string ⟨#[]⟩] HE4.out (by kernel_rfl) rfl (by kernel_rfl) ?_; intro w9 hA9 hG9)
          have f0 : w9.cell? ⟨A + 2, 0, none⟩ = some (.int .i64 zk) := (blk_cell hA9.out 0).trans rfl
          have f1 : w9.cell? ⟨A + 2, 1, none⟩ = some (.string (bs zx)) := (blk_cell hA9.out 1).trans rfl
          have f2 : w9.cell? ⟨A + 2, 2, none⟩ = some (.string (bs zy)) := (blk_cell hA9.out 2).trans rfl
          have f3 : w9.cell? ⟨A + 2, 3, none⟩ = some (.string (bs zz)) := (blk_cell hA9.out 3).trans rfl
          refine bodyPost_ret (v := .agg #[.int .i64 zk, .string (bs zx), .string (bs zy), .string (bs zz)]) (by simp [results, Tryz.results18, f0, f1, f2, f3, go_sem]) rfl ⟨by rw [HE.out]; rfl, ?_⟩
          exact HB4.out.grown hG9.out HB4.out.size (fun j hj => by injection hj with hj; have := HAE.out; omega)

end Go.Proofs.YtdnfaoanaehjhaaGreatDoor
