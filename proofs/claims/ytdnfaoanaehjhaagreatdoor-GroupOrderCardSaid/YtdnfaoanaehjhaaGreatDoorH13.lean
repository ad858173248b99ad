/- GrpGather, ShpRefTab, put together. -/
import Derived.Test.YtdnfaoanaehjhaaGreatDoorH12
import Derived.Test.YtdnfaoanaehjhaaGreatDoorH8
import Derived.Lib.QuietBelow

/- Rows gathered into groups: package group's gathered, for every rows and columns (written by gen/mkgather13b.py). -/
namespace Go.Proofs.YtdnfaoanaehjhaaGreatDoor
open Go.RowKit Go.Maps

theorem gth_old2 {f : RowL → RowL} {R : List RowL} {k : Nat} (hk : k < R.length) {F : List UInt8 → Option Int} (h : Spot (R.map f) k F) {G : List (List RowL)} (hG : gatherP f (R.take k) = G) {v : Int} (hv : F (txtN (idsP (R.map f) (k + 1)).1 (f R[k])) = some v) :
    ∃ j : Nat, v = j ∧ ∃ hj : j < G.length, gatherP f (R.take (k + 1)) = G.set j (G[j] ++ [R[k]]) ∧ distP ((R.map f).take (k + 1)) = distP ((R.map f).take k) ∧ Spot (R.map f) (k + 1) F := by
  subst hG
  exact gth_old hk h hv
theorem grp_rows {w W : World} {B : Nat} {v : Value} {vs : List Value} {G : List (List RowL)} (h : W.ownsRow B 23 1 v G.length vs) (hg : Grps w W B vs G) (hb : Below w.heap.size w W) : ∃ a c, v = .slice a G.length c ∧ GrpJ (fun b => B ≤ b) (fun _ => True) W a G.length c G := by
  rcases h.2 with ⟨rfl, h0⟩ | ⟨g, cap, cur, rfl, hgb, hblk, h1, h2, h3, h4⟩
  · have e : G = [] := List.eq_nil_of_length_eq_zero h0
    subst e
    exact ⟨_, _, rfl, rfl, Nat.le_refl _, Nat.zero_le _, fun h0 => absurd h0 (Nat.lt_irrefl _)⟩
  · refine ⟨_, _, rfl, rfl, h1, h2, fun h0 => ⟨g, 0, rfl, (Array.getElem?_eq_some_iff.1 hblk).1, hgb, fun j hj => ?_⟩⟩
    obtain ⟨u, cs, e1, e2, e3⟩ := hg.2.1 j hj
    obtain ⟨a, c, hvf, hr⟩ := own_rowsJ e2 (row_j (H := fun _ => True) e3 hb (fun _ => trivial)) rfl
    subst hvf
    replace hr := hr.mono (H' := fun b => B ≤ b) (fun _ _ k => k.1) (fun _ _ k => k)
    refine ⟨a, c, ?_, hr⟩
    rw [Nat.zero_add, h.cellAt j (by omega)]
    exact e1
set_option maxRecDepth 100000 in
set_option maxHeartbeats 8000000 in
theorem gathered_calls (K : List Nat) (R : List RowL) (hr : okRT R) (hKr : ∀ r ∈ R, ∀ i ∈ K, i < r.length) (h32 : K.length ≤ 32) (h4 : R.length ≤ 4096) (ra : Option Addr) (m rc : Nat) (ka : Option Addr) (kn kc : Nat) (w : World) (hg : Nm.Good w) (H0 : Nat → Prop) (hRJ : RowJ H0 (fun _ => True) w ra m rc R) (hK : IntA w ka kn kc K) :
    Calls Tryz.prog 41 #[.slice ra m rc, .slice ka kn kc] w fun e w' => ∃ ga gn gc, e = .returned (.slice ga gn gc) ∧ GrpJ (fun b => w.heap.size ≤ b ∨ H0 b) (fun _ => True) w' ga gn gc (if K = [] then [R] else gatherP (keyK K) R) ∧ Below w.heap.size w w' := by
  obtain ⟨i0, hi, hz0, hz1, hz2⟩ := info_parts info_rows
  obtain ⟨i1, h1i, h1z, h1s, h1b⟩ := info_parts info_row
  have hR := hRJ.a
  have HRJ := Lib.hid hRJ
  clear hRJ
  have HR := Lib.hid hR
  have HK := Lib.hid hK
  have HRL := Lib.hid hR.len
  have HKL := Lib.hid hK.len
  have hcp := hR.cap
  have hms := hR.most
  unfold maxLen at hms
  by_cases h0 : kn = 0
  · subst h0
    have HK0 := Lib.hid (show K = [] from List.eq_nil_of_length_eq_zero HKL.out)
    clear hr hKr hR hK hg h32 h4
    go_enter Tryz.func41, Tryz.ntmps41
    go_wp2
    go_ret
    refine ⟨_, _, _, rfl, ?_, box_below _ _⟩
    try rw [if_pos HK0.out]
    have hb := blk_new w 23 #[.slice ra m rc]
    refine ⟨rfl, Nat.le_refl _, by unfold maxLen; omega, fun _ => ⟨w.heap.size, 0, rfl, blk_lt hb, .inl (Nat.le_refl _), fun j hj => ?_⟩⟩
    have e : j = 0 := by simp at hj; exact hj
    subst e
    refine ⟨ra, rc, ?_, ?_⟩
    · rw [blk_cell hb]
      show some (Value.slice ra m rc) = some (Value.slice ra R.length rc)
      rw [HRL.out]
    · show RowJ _ _ _ ra R.length rc R
      rw [HRL.out]
      exact (HRJ.out.on (stay_below (box_below _ _))).mono (fun i _ hi => .inr hi) (fun _ _ _ => trivial)
  have hkn : 0 < kn := Nat.pos_of_ne_zero h0
  have gk1 : ((kn : Int) == 0) = false := beq_eq_false_iff_ne.2 (by omega)
  have gk2 : (kn == 0) = false := beq_eq_false_iff_ne.2 h0
  have HKN := Lib.hid (show K ≠ [] from fun c => by rw [c] at hK; have := hK.len; simp at this; omega)
  have HOR := Lib.hid hr
  have HKR := Lib.hid hKr
  have HG := Lib.hid hg
  have hk32 : kn ≤ 32 := by rw [← HKL.out]; exact h32
  have hm4 : m ≤ 4096 := by rw [← HRL.out]; exact h4
  have HWD := Lib.hid (show ∀ r ∈ R.map (keyK K), r.length = kn by
    intro r hr'
    obtain ⟨y, _, rfl⟩ := List.mem_map.1 hr'
    rw [keyK_len, HKL.out])
  have HKRL := Lib.hid (show (R.map (keyK K)).length = m by rw [List.length_map, HRL.out])
  clear hr hKr hR hK hg h32 h4 h0
  have hmm := fun W => run_makeMapS W
  go_enter Tryz.func41, Tryz.ntmps41
  go_wp2_with fail
  refine (texts_calls ka kn kc w).mono ?_
  rintro e w1 ⟨P, Q, b, rfl, hP, hQ, hm1, hwb, hb1⟩
  obtain ⟨bm, hbm⟩ : ∃ bm, w1.heap.size = bm := ⟨_, rfl⟩
  obtain ⟨W0, hW0⟩ : ∃ W0, w1.alloc (.map #[] 0) = W0 := ⟨_, rfl⟩
  obtain ⟨B, hB⟩ : ∃ B, bm + 1 = B := ⟨_, rfl⟩
  have HBME := Lib.hid hbm
  have HW0 := Lib.hid hW0
  have HWB := Lib.hid hwb
  have HPB := Lib.hid (show P < B by rw [← hB, ← hbm]; have := blk_lt hP; omega)
  have HQB := Lib.hid (show Q < B by rw [← hB, ← hbm]; have := blk_lt hQ; omega)
  have HBB := Lib.hid (show b < B by rw [← hB, ← hbm]; have := hm1.lt; omega)
  have HBMB := Lib.hid (show bm < B by omega)
  have HBBM := Lib.hid (show b < bm by rw [← hbm]; exact hm1.lt)
  have HWSB := Lib.hid (show w.heap.size ≤ bm by rw [← hbm]; exact hb1.size)
  have HWB2 := Lib.hid (show w.heap.size ≤ B by have := HWSB.out; omega)
  have HS0 := Lib.hid (show GthR w K R P Q b bm B ka kn kc 0 (.slice none 0 0) W0 from by
    rw [← hW0]
    have hbx := box_below w1 (.map #[] 0)
    refine ⟨fb2 hb1 hbx (Nat.le_refl _), keptC ((blk_cell hP 0).trans rfl) hbx (blk_lt hP), keptC ((blk_cell hQ 0).trans rfl) hbx (blk_lt hQ), ?_, ⟨fun _ => none, ?_, spot_zero _⟩, ⟨[], ?_, ?_⟩, ?_⟩
    · rw [num_zero]; exact hm1.on hbx
    · rw [List.take_zero, gather_nil, ← hbm]
      exact map_made 9 okS (fun x => x) w1
    · rw [List.take_zero, gather_nil]; exact World.ownsRow_nil _ _ _ _
    · rw [List.take_zero, gather_nil]; exact grps_nil _ _ _
    · rw [World.size_alloc, hbm]; omega)
  have HBE := Lib.hid hB
  clear hP hQ hm1 hwb hb1 hbm hW0 hB
  go_wp2
  rw [HW0.out, HBME.out]
  clear hmm
  go_loopg [5, 9, 10, 11, 12, 23] m (fun g v _ _ _ _ i wr => ∃ k : Nat, i = .int .i64 k ∧ k + g = m ∧ Hid (GthR w K R P Q b bm B ka kn kc k v wr))
  case atStart => exact ⟨0, rfl, by omega, HS0⟩
  case round =>
    obtain ⟨W1, rfl⟩ : ∃ W1, W1 = wr := ⟨_, rfl⟩
    obtain ⟨k, rfl, hkg, HRD⟩ := hrel
    have k0 : (0 : Int) ≤ (k : Int) := by omega
    by_cases hk : k < m
    · obtain ⟨gg, rfl⟩ : ∃ gg, gk = gg + 1 := ⟨gk - 1, by omega⟩
      have hkR : k < R.length := by rw [HRL.out]; exact hk
      have hkK : k < (R.map (keyK K)).length := by rw [HKRL.out]; exact hk
      obtain ⟨g, o, ha, hgw, hcells⟩ := HR.out.cells (by omega)
      subst ha
      obtain ⟨a', c', hcell, htrm⟩ := hcells k hkR
      have HBW := Lib.hid HRD.out.below
      have e0 : (R.map (keyK K))[k] = keyK K R[k] := List.getElem_map _
      have hst := num_step hkK
      rw [e0] at hst
      have hnl := num_le HWD.out k (by rw [HKRL.out]; omega)
      have hkn2 : k * kn ≤ 4096 * 32 := Nat.mul_le_mul (by omega) hk32
      obtain ⟨yn, hyn⟩ : ∃ yn, R[k].length = yn := ⟨_, rfl⟩
      rw [hyn] at hcell htrm
      have htc := text1_calls (idsP (R.map (keyK K)) k) b K R[k] (HOR.out _ (List.getElem_mem hkR)) (HKR.out _ (List.getElem_mem hkR)) a' yn c' ka kn kc P Q W1 (HG.out.on HBW.out) HRD.out.num (num_at _ k).1 (htrm.on HBW.out) (HK.out.on HBW.out) HRD.out.pc HRD.out.qc (by omega) (by omega)
      rw [← hst] at htc
      obtain ⟨f, hS, hsp⟩ := HRD.out.spot
      obtain ⟨vs, hown, hgrp⟩ := HRD.out.grp
      have hlx := spot_len HWD.out hk32 (by rw [HKRL.out]; exact hm4) hkK
      rw [e0] at hlx
      have hnew := fun (hv : f (txtN (idsP (R.map (keyK K)) (k + 1)).1 (keyK K R[k])) = none) => gth_new hkR hsp hv
      have hgl := gth_len (keyK K) R k
      rw [hgl] at hnew
      have hgle := gather_le (keyK K) (R.take k)
      rw [List.length_take] at hgle
      obtain ⟨G, hGe⟩ : ∃ G, gatherP (keyK K) (R.take k) = G := ⟨_, rfl⟩
      have hold := fun v (hv : f (txtN (idsP (R.map (keyK K)) (k + 1)).1 (keyK K R[k])) = some v) => gth_old2 hkR hsp hGe hv
      obtain ⟨x, hxe⟩ : ∃ x, txtN (idsP (R.map (keyK K)) (k + 1)).1 (keyK K R[k]) = x := ⟨_, rfl⟩
      rw [hxe] at htc hlx hnew
      simp only [hxe] at hold
      rw [hGe] at hS hown hgrp hgle hnew
      have HOX := Lib.hid (show okS x by have e : (bs x).size = x.length := rfl; unfold okS maxLen; omega)
      have HTC := Lib.hid htc
      have c0 : W1.cell? ⟨g, o + k, none⟩ = some (.slice a' yn c') := keptC hcell HBW.out hgw
      have HYN := Lib.hid hyn
      have HTR := Lib.hid htrm
      have HOLD := Lib.hid hold
      have HNEW := Lib.hid hnew
      have HS := Lib.hid hS
      have HOWN := Lib.hid hown
      have HGRP := Lib.hid hgrp
      have HGLE := Lib.hid (show G.length ≤ 4096 by omega)
      have HOB : Hid (∀ e, Value.ownBlock u5 = some e → B ≤ e) := Lib.hid (fun e he => (hown.lt e he).1)
      have hnumS := HRD.out.num
      have HPC1 := Lib.hid HRD.out.pc
      have HQC1 := Lib.hid HRD.out.qc
      have HPb := Lib.hid (map_cell hnumS HRD.out.pc)
      have HQb := Lib.hid (map_cell hnumS HRD.out.qc)
      have HPm := Lib.hid (map_cell hS HRD.out.pc)
      have HQm := Lib.hid (map_cell hS HRD.out.qc)
      have HSZ1 := Lib.hid HRD.out.size
      generalize R[k] = y at HYN HTR HOLD HNEW
      clear hcells hcell htrm hyn hold hnew hS hown hgrp hgl hgle hlx hxe hGe htc hst e0 hnl hkn2 hnumS HRD
      have k1 : (k : Int) < (m : Int) := by omega
      go_wp2_with fail
      refine HTC.out.mono ?_
      rintro e w3 ⟨rfl, hm3, hg3⟩
      have HM3 := Lib.hid hm3
      have HB3 := Lib.hid (HBW.out.grown hg3 HBW.out.size (fun j hj => by injection hj with hj; have := HWB.out; omega))
      have HS3 := Lib.hid (HS.out.kept hg3 (fun e => by injection e with e; have := HBBM.out; omega))
      have HO3 := Lib.hid (HOWN.out.kept hg3 (.inr (fun e => by have h1 := HOB.out _ e; have h2 := HBB.out; omega)))
      have HG3 := Lib.hid (HGRP.out.grown hg3 HBB.out)
      have HP3 : Hid (w3.cell? ⟨P, 0, none⟩ = some (.slice ka kn kc)) := Lib.hid ((cell_same (hg3.block P (World.block_lt_of_cell? _ _ HPC1.out) (fun e => HPb.out (Option.some.inj e))) _).trans HPC1.out)
      have HQ3 : Hid (w3.cell? ⟨Q, 0, none⟩ = some (.map (some b))) := Lib.hid ((cell_same (hg3.block Q (World.block_lt_of_cell? _ _ HQC1.out) (fun e => HQb.out (Option.some.inj e))) _).trans HQC1.out)
      have HZ3 := Lib.hid (Nat.le_trans HSZ1.out hg3.size)
      clear hm3 hg3 HTC HS HOWN HGRP HPC1 HQC1 c0
      cases hq : f x with
      | some v =>
        obtain ⟨j, rfl, hj, hG', hdl, hsp'⟩ := HOLD.out v hq
        have HQ2 := Lib.hid hq
        have HG' := Lib.hid hG'
        have HSP := Lib.hid hsp'
        obtain ⟨u, cs, hu, hou, hrcs⟩ := HG3.out.2.1 j hj
        have HU := Lib.hid hu
        have HOU := Lib.hid hou
        have HRC := Lib.hid hrcs
        have hgj : G[j].length ≤ 4096 := by
          have := HG'.out
          have h2 : G[j] ++ [y] ∈ gatherP (keyK K) (R.take (k + 1)) := by rw [this]; exact List.mem_iff_getElem.2 ⟨j, by rw [List.length_set]; exact hj, by rw [List.getElem_set_self]⟩
          have h3 := groups_gather h2
          rw [List.length_append, List.length_take, List.length_singleton] at h3
          omega
        have HM1 := Lib.hid (show G[j].length + 1 ≤ maxLen by unfold maxLen; omega)
        have HM2 := Lib.hid (show (G[j].length + 1) * 24 ≤ 140737488355328 by omega)
        have HPOS := Lib.hid (show 0 < G.length by omega)
        clear hq hG' hdl hsp' hu hou hrcs HOLD HNEW hgj
        obtain ⟨l0, hl0⟩ : ∃ l0, G.length = l0 := ⟨_, rfl⟩
        have HL0 := Lib.hid hl0
        have hown3 := HO3.out
        rw [hl0] at hown3
        have HOW := Lib.hid hown3
        have hpos : 0 < l0 := by rw [← hl0]; exact HPOS.out
        have hjl : j < l0 := by rw [← hl0]; exact hj
        have hjn : (j : Int) < (l0 : Int) := by omega
        have hj0 : (0 : Int) ≤ (j : Int) := by omega
        clear hown3 hl0
        obtain ⟨gl, hgl⟩ : ∃ gl, G[j].length = gl := ⟨_, rfl⟩
        have HGL := Lib.hid hgl
        have hou2 := HOU.out
        rw [hgl] at hou2 HM1 HM2
        have HOU2 := Lib.hid hou2
        have HJ := Lib.hid hj
        clear hou2 hgl
        obtain ⟨g5, cap5, cur5, hv5, hg5, hb5, hc5, hm5, hl5, ht5⟩ := own_open HOW.out hpos; have HB5 := Lib.hid hb5; subst hv5; have c5 : w3.cell? ⟨g5, j, none⟩ = some u := own_at hb5 ht5 HU.out; have c6 : w3.cell? ⟨g5, 0 + j, none⟩ = some u := (by rw [Nat.zero_add]; exact c5); have hjc : j < cur5.length := (by omega); have hcm5 : cap5 ≤ 9223372036854775807 := hm5; have HC5 := Lib.hid (And.intro hg5 (And.intro hc5 (And.intro hm5 (And.intro hl5 ht5)))); have HJC := Lib.hid hjc; clear hb5 hg5 hm5 ht5 hjc hl5
        go_wp2_with (first
          | (at_lookup; refine wpList_look_g rfl _ _ 62 rfl keyS Tryz.underlying62 rfl HS3.out x HOX.out rfl ?_; rw [HQ2.out]; simp only [Option.getD_some, Option.isSome_some])
          | (at_builtin; (refine wpList_append_own_at _ rfl (.tmp 51) (.tmp 53) 23 rfl B 35 i1 (.slice none 0 0) 1 24 Tryz.underlying23 h1i h1z h1s h1b rfl (by decide) u _ _ rfl (HOU2.out.alloc _) ⟨w3.heap.size, 0, none⟩ 1 1 [.slice a' yn c'] rfl rfl (news_gen _ _ _ (by simp)) (by intro q hq; simp at hq; subst hq; rfl) HM1.out HM2.out (Nat.le_trans HZ3.out (by simp)) ?_; intro v8 w8 ho8 hg8 _ hn8; have HO8 := Lib.hid ho8; have HG8 := Lib.hid hg8; have HN8 := Lib.hid hn8; have HK8 : Hid (Blk w8 g5 23 cur5.toArray) := Lib.hid ((hg8.block g5 (blk_lt (blk_alloc HB5.out (.cells #[.slice a' yn c'] 35))) (fun e => own_other HOU2.out HB5.out (by decide) e.symm)).trans (blk_alloc HB5.out _)); clear ho8 hg8 hn8))
          | (refine one_abs 23 (.tmp 55) (.tmp 54) ⟨rfl, rfl⟩ g5 j v8 rfl rfl (own_cells HO8.out).1 (own_cells HO8.out).2 23 cur5 HK8.out (by kernel_rfl) HJC.out ?_; intro w9 h9 g9; have HK9 := Lib.hid h9.out; have HG9 := Lib.hid g9.out; clear h9 g9))
        have HFIN := Lib.hid (show GthR w K R P Q b bm B ka kn kc (k + 1) (.slice (some ⟨g5, 0, none⟩) l0 cap5) w9 from by
          have := gth_put (w := w) (W := w3) HPB.out HQB.out HBB.out HBMB.out HWB2.out HB3.out HP3.out HQ3.out HM3.out HS3.out HSP.out HG3.out HZ3.out HJ.out HU.out HOU.out HRC.out HYN.out HTR.out HC5.out.1 (by rw [HL0.out]; exact HC5.out.2.1) HC5.out.2.2.1 HC5.out.2.2.2.1 (by rw [HL0.out]; exact HC5.out.2.2.2.2) (by rw [HGL.out]; exact HO8.out) HG8.out HN8.out HK8.out HK9.out HG9.out HG'.out
          rwa [HL0.out] at this)
        clear HO8 HG8 HN8 HK8 HK9 HG9 HB5 HC5 c5 c6
        go_roundg gg
        case measure => omega
        case rel => exact ⟨k + 1, by go_num, by omega, HFIN⟩
      | none =>
        obtain ⟨hG', hdl, hsp'⟩ := HNEW.out hq
        have HQ2 := Lib.hid hq
        have HQS : Hid ((f x).isSome = false) := Lib.hid (by rw [hq]; rfl)
        have HG' := Lib.hid hG'
        have HSP := Lib.hid hsp'
        obtain ⟨l0, hl0⟩ : ∃ l0, G.length = l0 := ⟨_, rfl⟩
        have HL0 := Lib.hid hl0
        have hl4 : l0 ≤ 4096 := by rw [← hl0]; exact HGLE.out
        have hown3 := HO3.out
        have hs3 := HS3.out
        rw [hl0] at hown3 hs3
        obtain ⟨va, vcap, hvf, hvc1, hvc2⟩ := own_form hown3
        subst hvf
        have HOW := Lib.hid hown3
        have HS3' := Lib.hid hs3
        have HWF := Lib.hid (wf_nat (n := l0) (by omega))
        have HSM := Lib.hid (show l0 < maxLen by unfold maxLen; omega)
        have HA1 := Lib.hid (show l0 + 1 ≤ maxLen by unfold maxLen; omega)
        have HA2 := Lib.hid (show (l0 + 1) * 24 ≤ 140737488355328 by omega)
        have HM1 := Lib.hid (show 0 + 1 ≤ maxLen by unfold maxLen; omega)
        have HM2 := Lib.hid (show (0 + 1) * 24 ≤ 140737488355328 by omega)
        have hjn : (l0 : Int) < (l0 : Int) + 1 := by omega
        have hjn2 : (l0 : Int) < ((l0 + 1 : Nat) : Int) := by omega
        have hj0 : (0 : Int) ≤ (l0 : Int) := by omega
        clear hq hG' hdl hsp' HOLD HNEW hown3 hs3 hl0 HS3 HO3
        have HS3 := HS3'
        clear HS3'
        go_wp2_with (first
          | (at_lookup; refine wpList_look_g rfl _ _ 62 rfl keyS Tryz.underlying62 rfl HS3.out x HOX.out rfl ?_; rw [HQ2.out]; simp only [Option.getD_none, Option.isSome_none])
          | (at_mapUpdate; refine wpList_put_g rfl _ _ _ 62 rfl keyS Tryz.underlying62 rfl HS3.out HSM.out x HOX.out rfl (l0 : Int) rfl HWF.out ?_; intro w5 h5 gb5; rw [if_neg (by rw [HQS.out]; simp)] at h5; have HS5 := Lib.hid h5; have HGB := Lib.hid gb5; have HO5 := Lib.hid (HOW.out.kept gb5 (.inr (fun e => by have h1 := HOB.out _ e; have h2 := HBMB.out; omega))); have HG5 := Lib.hid (HG3.out.grown gb5 HBMB.out); clear h5 gb5)
          | (at_builtin; (refine wpList_append_own_at _ rfl (.tmp 43) (.tmp 44) 73 rfl B 23 i0 (.slice none 0 0) 1 24 Tryz.underlying73 hi hz0 hz1 hz2 rfl (by decide) (.slice va l0 vcap) _ _ rfl (HO5.out.alloc _) ⟨w5.heap.size, 0, none⟩ 1 1 [.slice none 0 0] rfl rfl (news_gen _ _ _ (by simp)) (by intro q hq; simp at hq; subst hq; rfl) HA1.out HA2.out (Nat.le_trans HZ3.out (Nat.le_trans HGB.out.size (by simp))) ?_; intro v6 w6 ho6 hg6 _ _; have HO6 := Lib.hid ho6; have HG6 := Lib.hid hg6; have HU6 : Hid ((vs ++ [Value.slice none 0 0])[l0]? = some (.slice none 0 0)) := Lib.hid (by rw [List.getElem?_append_right (by rw [HG3.out.1, HL0.out]; exact Nat.le_refl _), HG3.out.1, HL0.out, Nat.sub_self]; rfl); have HZ6 := Lib.hid (show B ≤ w6.heap.size from Nat.le_trans HZ3.out (Nat.le_trans HGB.out.size (Nat.le_trans (by simp) hg6.size))); have HNIL := Lib.hid (World.ownsRow_nil w6 B 35 1); have HP6 := Lib.hid (Nat.succ_pos l0); clear ho6 hg6; obtain ⟨g5, cap5, cur5, hv5, hg5, hb5, hc5, hm5, hl5, ht5⟩ := own_open HO6.out HP6.out; have HB5 := Lib.hid hb5; subst hv5; have c5 : w6.cell? ⟨g5, l0, none⟩ = some (.slice none 0 0) := own_at hb5 ht5 HU6.out; have c6 : w6.cell? ⟨g5, 0 + l0, none⟩ = some (.slice none 0 0) := (by rw [Nat.zero_add]; exact c5); have hjc : l0 < cur5.length := (by omega); have hcm5 : cap5 ≤ 9223372036854775807 := hm5; have HC5 := Lib.hid (And.intro hg5 (And.intro hc5 (And.intro hm5 (And.intro hl5 ht5)))); have HJC := Lib.hid hjc; clear hb5 hg5 hm5 ht5 hjc hl5))
          | (at_builtin; (refine wpList_append_own_at _ rfl (.tmp 51) (.tmp 53) 23 rfl B 35 i1 (.slice none 0 0) 1 24 Tryz.underlying23 h1i h1z h1s h1b rfl (by decide) (.slice none 0 0) _ _ rfl (HNIL.out.alloc _) ⟨w6.heap.size, 0, none⟩ 1 1 [.slice a' yn c'] rfl rfl (news_gen _ _ _ (by simp)) (by intro q hq; simp at hq; subst hq; rfl) HM1.out HM2.out (Nat.le_trans HZ6.out (by simp)) ?_; intro v8 w8 ho8 hg8 _ hn8; have HO8 := Lib.hid ho8; have HG8 := Lib.hid hg8; have HN8 := Lib.hid hn8; have HK8 : Hid (Blk w8 g5 23 cur5.toArray) := Lib.hid ((hg8.block g5 (blk_lt (blk_alloc HB5.out (.cells #[.slice a' yn c'] 35))) (fun e => own_other HNIL.out HB5.out (by decide) e.symm)).trans (blk_alloc HB5.out _)); clear ho8 hg8 hn8))
          | (refine one_abs 23 (.tmp 55) (.tmp 54) ⟨rfl, rfl⟩ g5 l0 v8 rfl rfl (own_cells HO8.out).1 (own_cells HO8.out).2 23 cur5 HK8.out (by kernel_rfl) HJC.out ?_; intro w9 h9 g9; have HK9 := Lib.hid h9.out; have HG9 := Lib.hid g9.out; clear h9 g9))
        have HFIN := Lib.hid (show GthR w K R P Q b bm B ka kn kc (k + 1) (.slice (some ⟨g5, 0, none⟩) (l0 + 1) cap5) w9 from by
          have hlg : (G ++ [[]]).length = l0 + 1 := by rw [List.length_append, HL0.out]; rfl
          have hj : l0 < (G ++ [[]]).length := by rw [hlg]; omega
          have hgj : (G ++ [[]])[l0] = [] := by rw [List.getElem_append_right (by rw [HL0.out]; exact Nat.le_refl _)]; simp
          have hset : G ++ [[y]] = (G ++ [[]]).set l0 ((G ++ [[]])[l0] ++ [y]) := by
            rw [hgj, List.set_append_right _ _ (by rw [HL0.out]; exact Nat.le_refl _), HL0.out, Nat.sub_self]; rfl
          have hz5 : B ≤ w5.heap.size := Nat.le_trans HZ3.out HGB.out.size
          have hb5x : Below B w5 w6 := ((box_below w5 _).mono hz5).grown HG6.out (Nat.le_trans hz5 (by simp)) (fun q hq => HOB.out q hq)
          have hp5 : w5.cell? ⟨P, 0, none⟩ = some (.slice ka kn kc) := (cell_same (HGB.out.block P (World.block_lt_of_cell? _ _ HP3.out) (fun e => HPm.out (Option.some.inj e))) _).trans HP3.out
          have hq5 : w5.cell? ⟨Q, 0, none⟩ = some (.map (some b)) := (cell_same (HGB.out.block Q (World.block_lt_of_cell? _ _ HQ3.out) (fun e => HQm.out (Option.some.inj e))) _).trans HQ3.out
          have hn5 := HM3.out.kept HGB.out (fun e => by injection e with e; have := HBBM.out; omega)
          have hbel5 := HB3.out.grown HGB.out HB3.out.size (fun q hq => by injection hq with hq; have := HWSB.out; omega)
          have hgr6 : Grps w w6 B vs G := (HG5.out.on (box_below w5 _)).app (HO5.out.alloc _) HG6.out
          have := gth_put (w := w) (W := w6) (j := l0) (G := G ++ [[]]) (cs := []) (u := .slice none 0 0) HPB.out HQB.out HBB.out HBMB.out HWB2.out (hbel5.trans (hb5x.mono HWB2.out)) (keptC hp5 hb5x HPB.out) (keptC hq5 hb5x HQB.out) (hn5.stay (stay_under hb5x) HBB.out) (by rw [hlg]; exact HS5.out.stay (stay_under hb5x) HBMB.out) (by have := HSP.out; rw [HL0.out] at this; exact this) hgr6.more HZ6.out hj HU6.out (by rw [hgj]; exact HNIL.out) (by rw [hgj]; exact rowC_nil _) HYN.out HTR.out HC5.out.1 (by rw [hlg]; exact HC5.out.2.1) HC5.out.2.2.1 HC5.out.2.2.2.1 (by rw [hlg]; exact HC5.out.2.2.2.2) (by rw [hgj]; exact HO8.out) HG8.out HN8.out HK8.out HK9.out HG9.out (by rw [← hset]; exact HG'.out)
          rwa [hlg] at this)
        clear HO8 HG8 HN8 HK8 HK9 HG9 HB5 HC5 c5 c6
        go_roundg gg
        case measure => omega
        case rel => exact ⟨k + 1, by go_num, by omega, HFIN⟩
    · have HE := Lib.hid (show R.take k = R from List.take_of_length_le (by rw [HRL.out]; omega))
      have k1 : ¬ (k : Int) < (m : Int) := by omega
      obtain ⟨vs, hown, hgrp⟩ := HRD.out.grp
      have HBW := Lib.hid HRD.out.below
      rw [HE.out] at hown hgrp
      have hgo := HBW.out
      obtain ⟨ga, gc, hvf, hGA⟩ := grp_rows hown hgrp hgo
      subst hvf
      have HGA := Lib.hid (hGA.mono (H' := fun b => w.heap.size ≤ b ∨ H0 b) (fun i _ hi => .inl (Nat.le_trans HWB2.out hi)) (fun _ _ k => k))
      clear hown hgrp hgo hGA HRD
      go_wp2
      go_ret
      exact ⟨ga, _, gc, rfl, by first | exact HGA.out | (rw [if_neg HKN.out]; exact HGA.out), HBW.out⟩

end Go.Proofs.YtdnfaoanaehjhaaGreatDoor

/- The document's SameTable, for any two tables; which tables are light; the statements' same. -/
namespace Go.Proofs.YtdnfaoanaehjhaaGreatDoor
open Go.RowKit Go.Sort

theorem regrown_cell {W : World} {g o : Nat} {v : Value} (h : W.cell? ⟨g, o, none⟩ = some v) : ∀ d os, (grow (redrawn W d) os).cell? ⟨g, o, none⟩ = some v := fun d os => cell_regrown h d os
structure Tabs2 (w : World) (A : Nat) (v1 r1 v2 r2 : Value) (wr : World) : Prop where
  one : Blk wr A 25 #[v1, r1]
  two : Blk wr (A + 1) 25 #[v2, r2]
  below : Below w.heap.size w wr
theorem Tabs2.on {w wr wr' : World} {A : Nat} {v1 r1 v2 r2 : Value} (h : Tabs2 w A v1 r1 v2 r2 wr) (hb : Below wr.heap.size wr wr') : Tabs2 w A v1 r1 v2 r2 wr' := ⟨blk_on h.one hb (blk_lt h.one), blk_on h.two hb (blk_lt h.two), fb2 h.below hb (Nat.le_refl _)⟩
theorem tabs2_new (w : World) (v1 r1 v2 r2 : Value) : Tabs2 w w.heap.size v1 r1 v2 r2 ((w.alloc (.cells #[v1, r1] 25)).alloc (.cells #[v2, r2] 25)) := by
  refine ⟨blk_alloc (blk_new _ _ _) _, ?_, two_alloc _ _ _⟩
  have := blk_new (w.alloc (.cells #[v1, r1] 25)) 25 #[v2, r2]
  rw [World.size_alloc] at this
  exact this

set_option maxRecDepth 100000 in
set_option maxHeartbeats 4000000 in
theorem tabSame_calls (V U : List (List UInt8)) (R S : List RowL) (t1 t2 : Value) (w : World) (h1 : TabA w t1 V R) (h2 : TabA w t2 U S) :
    Calls Tryz.prog 43 #[t1, t2] w fun e w' => e = .returned (.bool (decide (V = U ∧ R = S))) ∧ Below w.heap.size w w' := by
  obtain ⟨va, n, vc, ra, m, rc, rfl, hV, hR⟩ := h1
  obtain ⟨ua, n2, uc, sa, m2, sc, rfl, hU, hS⟩ := h2
  obtain ⟨Z, hZ⟩ : ∃ Z, decide (V = U ∧ R = S) = Z := ⟨_, rfl⟩
  rw [hZ]
  have HZ := Lib.hid hZ
  clear hZ
  obtain ⟨A, hA⟩ : ∃ A, w.heap.size = A := ⟨_, rfl⟩
  have h0 := tabs2_new w (.slice va n vc) (.slice ra m rc) (.slice ua n2 uc) (.slice sa m2 sc)
  obtain ⟨W0, hW0⟩ : ∃ W0, (w.alloc (.cells #[.slice va n vc, .slice ra m rc] 25)).alloc (.cells #[.slice ua n2 uc, .slice sa m2 sc] 25) = W0 := ⟨_, rfl⟩
  rw [hW0, hA] at h0
  have H0 := Lib.hid h0
  have HR := Lib.hid hR
  have HS := Lib.hid hS
  have HRL := Lib.hid hR.len
  have HSL := Lib.hid hS.len
  have hc1 := hR.cap
  have hc2 := hR.most
  have hc3 := hS.cap
  have hc4 := hS.most
  unfold maxLen at hc2 hc4
  have HSM := Lib.hid (sameA_calls V U va ua n n2 vc uc W0 (hV.on h0.below) (hU.on h0.below))
  have q0 : W0.cell? ⟨A, 0, none⟩ = some (.slice va n vc) := (blk_cell h0.one 0).trans rfl
  have q1 : W0.cell? ⟨A + 1, 0, none⟩ = some (.slice ua n2 uc) := (blk_cell h0.two 0).trans rfl
  have hA2 : A + 1 < W0.heap.size := blk_lt h0.two
  have HAE := Lib.hid hA
  have HW0 := Lib.hid hW0
  clear h0 hW0 hV hU hR hS hA
  by_cases hv : V = U
  · rw [decide_eq_true hv] at HSM
    go_enter Tryz.func43, Tryz.ntmps43
    go_wp2_with fail
    rw [HW0.out, HAE.out]
    refine HSM.out.mono ?_
    rintro e w1 ⟨rfl, hb1⟩
    have HT1 := Lib.hid (H0.out.on hb1)
    have q2 : w1.cell? ⟨A, 1, none⟩ = some (.slice ra m rc) := (blk_cell HT1.out.one 1).trans rfl
    have q3 : w1.cell? ⟨A + 1, 1, none⟩ = some (.slice sa m2 sc) := (blk_cell HT1.out.two 1).trans rfl
    clear hb1 q0 q1 hA2 H0 HSM
    by_cases hm : m = m2
    · subst hm
      go_wp2
      go_loopg [5] m (fun g i wr => ∃ k : Nat, i = .int .i64 k ∧ k + g = m ∧ Hid (SameR R S k) ∧ Hid (Tabs2 w A (.slice va n vc) (.slice ra m rc) (.slice ua n2 uc) (.slice sa m sc) wr))
      case atStart => exact ⟨0, rfl, by omega, Lib.hid rfl, HT1⟩
      case round =>
        obtain ⟨W1, rfl⟩ : ∃ W1, W1 = wr := ⟨_, rfl⟩
        obtain ⟨k, rfl, hkg, HSR, HTW⟩ := hrel
        have q4 : W1.cell? ⟨A, 1, none⟩ = some (.slice ra m rc) := (blk_cell HTW.out.one 1).trans rfl
        by_cases hk : k < m
        · obtain ⟨gg, rfl⟩ : ∃ gg, gk = gg + 1 := ⟨gk - 1, by omega⟩
          have hkR : k < R.length := by rw [HRL.out]; exact hk
          have hkS : k < S.length := by rw [HSL.out]; exact hk
          have HBW := Lib.hid HTW.out.below
          obtain ⟨g, o, ha, hgw, hcells⟩ := (HR.out.on HBW.out).cells (by omega)
          obtain ⟨g', o', ha', hgw', hcells'⟩ := (HS.out.on HBW.out).cells (by omega)
          subst ha ha'
          obtain ⟨x1, y1, e1, f1⟩ := hcells k hkR
          obtain ⟨x2, y2, e2, f2⟩ := hcells' k hkS
          have cR := fun d os => Calls.regrown_of (rowSame_calls R[k] S[k] x1 x2 R[k].length S[k].length y1 y2 (grow (redrawn W1 d) os) (f1.on (below_regrown W1 d os)) (f2.on (below_regrown W1 d os)))
          have HNX := Lib.hid (fun h => sameR_next HSR.out hkR hkS h)
          have HNE := Lib.hid (show R[k] ≠ S[k] → Z = false from fun h => HZ.out.symm.trans <| decide_eq_false (fun e => h (by obtain ⟨_, rfl⟩ := e; rfl)))
          generalize R[k].length = l1 at e1 cR
          generalize S[k].length = l2 at e2 cR
          have r0 := regrown_cell q4
          have r1 := regrown_cell (show W1.cell? ⟨A + 1, 1, none⟩ = some (.slice (some ⟨g', o', none⟩) m sc) from (blk_cell HTW.out.two 1).trans rfl)
          have r2 := regrown_cell e1
          have r3 := regrown_cell e2
          have k0 : (0 : Int) ≤ (k : Int) := by omega
          have k1 : (k : Int) < (m : Int) := by omega
          clear hcells hcells' e1 e2 f1 f2
          by_cases he : R[k] = S[k]
          · have HN2 := Lib.hid (HNX.out he)
            rw [decide_eq_true he] at cR
            clear HNX HNE he
            go_wp2_with fail
            refine wp_region_quiet_below (by kernel_rfl) (by kernel_rfl) ?_
            repeat (quiet_step (exact cR _ _))
            refine wpQuiet_nil ?_
            intro W2 hw'
            obtain ⟨⟨dq, osq⟩, hw''⟩ := hw'
            have HT2 := Lib.hid (HTW.out.on (show Below W1.heap.size W1 W2 by rw [hw'']; exact below_regrown W1 dq osq))
            clear hw'' r0 r1 r2 r3 cR q4
            go_wp2
            go_roundg gg
            case measure => omega
            case rel => exact ⟨k + 1, by go_num, by omega, HN2, HT2⟩
          · have HE := Lib.hid (HNE.out he)
            rw [decide_eq_false he] at cR
            clear HNX HNE he
            go_wp2_with fail
            refine wp_region_quiet_below (by kernel_rfl) (by kernel_rfl) ?_
            repeat (quiet_step (exact cR _ _))
            refine wpQuiet_nil ?_
            intro W2 hw'
            obtain ⟨⟨dq, osq⟩, hw''⟩ := hw'
            have HT2 := Lib.hid (HTW.out.on (show Below W1.heap.size W1 W2 by rw [hw'']; exact below_regrown W1 dq osq))
            clear hw'' r0 r1 r2 r3 cR q4
            go_wp2
            go_ret
            exact ⟨by rw [HE.out]; rfl, HT2.out.below⟩
        · have HE := Lib.hid (show Z = true from HZ.out.symm.trans <| decide_eq_true ⟨hv, sameR_end HSR.out (by rw [HRL.out]; omega) (by rw [HSL.out]; omega)⟩)
          have k1 : ¬ (k : Int) < (m : Int) := by omega
          go_wp2
          go_ret
          exact ⟨by rw [HE.out]; rfl, HTW.out.below⟩
    · have HE := Lib.hid (show Z = false from HZ.out.symm.trans <| decide_eq_false (fun e => hm (by rw [← HRL.out, ← HSL.out, e.2])))
      have hne : ((m : Int) != (m2 : Int)) = true := bne_iff_ne.2 (by omega)
      go_wp2
      go_ret
      exact ⟨by rw [HE.out]; rfl, HT1.out.below⟩
  · rw [decide_eq_false hv] at HSM
    have HE := Lib.hid (show Z = false from HZ.out.symm.trans <| decide_eq_false (fun e => hv e.1))
    go_enter Tryz.func43, Tryz.ntmps43
    go_wp2_with fail
    rw [HW0.out, HAE.out]
    refine HSM.out.mono ?_
    rintro e w1 ⟨rfl, hb1⟩
    have HT1 := Lib.hid (H0.out.on hb1)
    clear hb1
    go_wp2
    go_ret
    exact ⟨by rw [HE.out]; rfl, HT1.out.below⟩

def lightB (V : List (List UInt8)) (R : List RowL) : Bool := decide (R.length ≤ 40) && decide (V.length ≤ 33)
set_option maxRecDepth 100000 in
theorem light_calls (V : List (List UInt8)) (R : List RowL) (tv : Value) (w : World) (h : TabA w tv V R) : Calls Tryz.prog 9 #[tv] w fun e w' => e = .returned (.bool (lightB V R)) ∧ Below w.heap.size w w' := by
  obtain ⟨va, n, vc, ra, m, rc, rfl, hV, hR⟩ := h
  have HE := Lib.hid (show lightB V R = (decide (m ≤ 40) && decide (n ≤ 33)) by unfold lightB; rw [hV.len, hR.len])
  clear hV hR
  generalize lightB V R = b at HE ⊢
  by_cases h1 : m ≤ 40
  · have g1 : (m : Int) ≤ 40 := by omega
    by_cases h2 : n ≤ 33
    · have g2 : (n : Int) ≤ 33 := by omega
      rw [decide_eq_true h1, decide_eq_true h2] at HE
      go_enter Tryz.func9, Tryz.ntmps9
      go_wp2
      go_ret
      exact ⟨by rw [HE.out]; rfl, box_below _ _⟩
    · have g2 : ¬ (n : Int) ≤ 33 := by omega
      rw [decide_eq_true h1, decide_eq_false h2] at HE
      go_enter Tryz.func9, Tryz.ntmps9
      go_wp2
      go_ret
      exact ⟨by rw [HE.out]; rfl, box_below _ _⟩
  · have g1 : ¬ (m : Int) ≤ 40 := by omega
    rw [decide_eq_false h1, Bool.false_and] at HE
    go_enter Tryz.func9, Tryz.ntmps9
    go_wp2
    go_ret
    exact ⟨by rw [HE.out]; rfl, box_below _ _⟩

end Go.Proofs.YtdnfaoanaehjhaaGreatDoor
