/- The groups of any table: the walk of the statement's function (written by gen/mklaw13.py). -/
import Derived.Test.YtdnfaoanaehjhaaGreatDoorH27
import Derived.Test.YtdnfaoanaehjhaaGreatDoorGrpGroup
import Derived.Test.YtdnfaoanaehjhaaGreatDoorH29
import Derived.Test.YtdnfaoanaehjhaaGreatDoorRGrpGroup
import Derived.Test.YtdnfaoanaehjhaaGreatDoorH13
import Derived.Test.YtdnfaoanaehjhaaGreatDoorShpRefCopy
import Derived.Test.YtdnfaoanaehjhaaGreatDoorShpSpoil
import Derived.Test.YtdnfaoanaehjhaaGreatDoorH30
namespace Go.Proofs.YtdnfaoanaehjhaaGreatDoor
open Go.RowKit Go.Maps Go.Sort

structure SpoG (K : Nat → Prop) (w : World) (A : Nat) (vs rs : Value) (wr : World) : Prop where
  arg : Blk wr A 25 #[vs, rs]
  spo : Spoilt K w wr
theorem SpoG.next {K : Nat → Prop} {w W w' : World} {A g : Nat} {vs rs : Value} {cur ys : Array Value} (h : SpoG K w A vs rs W) (hA : A ≠ g) (hk : K g) (hW : Blk W g 37 cur) (h' : Blk w' g 37 ys) (hs : ys.size = cur.size) (hG : W.grownBy w' (some g)) : SpoG K w A vs rs w' := by
  refine ⟨blk_grown h.arg hA hG, ⟨hG.os.trans h.spo.os, hG.tape.trans h.spo.tape, hG.output.trans h.spo.output, Nat.le_trans h.spo.size hG.size, fun b hb hn => ?_, fun b c hb hc => ?_⟩⟩
  · exact (hG.block b (Nat.lt_of_lt_of_le hb h.spo.size) (fun e => by injection e with e; subst e; exact hn hk)).trans (h.spo.block b hb hn)
  · obtain ⟨c2, h1, h2⟩ := h.spo.terms b c hb hc
    by_cases e : b = g
    · subst e
      have e2 : c2 = cur := by
        unfold Blk at h1 hW
        rw [h1] at hW
        injection hW with hW
        injection hW with hW _ _
      exact ⟨ys, h', by rw [hs, ← e2, h2]⟩
    · exact ⟨c2, blk_grown h1 e hG, h2⟩
theorem rSame_calls (V U : List (List UInt8)) (R S : List RowL) (t1 t2 : Value) (w : World) (h1 : TabA w t1 V R) (h2 : TabA w t2 U S) (he : V = U) (hs : R = S) :
    Calls Tryz.prog 15 #[t1, t2] w fun e w' => e = .returned (.bool true) ∧ Below w.heap.size w w' := by
  obtain ⟨va, n, vc, ra, m, rc, rfl, hV, hR⟩ := h1
  obtain ⟨ua, n2, uc, sa, m2, sc, rfl, hU, hS⟩ := h2
  obtain ⟨A, hA⟩ : ∃ A, w.heap.size = A := ⟨_, rfl⟩
  have h0 := tabs2_new w (.slice va n vc) (.slice ra m rc) (.slice ua n2 uc) (.slice sa m2 sc)
  obtain ⟨W0, hW0⟩ : ∃ W0, (w.alloc (.cells #[.slice va n vc, .slice ra m rc] 25)).alloc (.cells #[.slice ua n2 uc, .slice sa m2 sc] 25) = W0 := ⟨_, rfl⟩
  rw [hW0, hA] at h0
  have HBW := Lib.hid h0.below
  have q0 : W0.cell? ⟨A, 0, none⟩ = some (.slice va n vc) := (blk_cell h0.one 0).trans rfl
  have q1 : W0.cell? ⟨A, 1, none⟩ = some (.slice ra m rc) := (blk_cell h0.one 1).trans rfl
  have q2 : W0.cell? ⟨A + 1, 0, none⟩ = some (.slice ua n2 uc) := (blk_cell h0.two 0).trans rfl
  have q3 : W0.cell? ⟨A + 1, 1, none⟩ = some (.slice sa m2 sc) := (blk_cell h0.two 1).trans rfl
  have hsm := tabSame_calls V U R S _ _ W0 ⟨va, n, vc, ra, m, rc, rfl, hV.on h0.below, hR.on h0.below⟩ ⟨ua, n2, uc, sa, m2, sc, rfl, hU.on h0.below, hS.on h0.below⟩
  rw [decide_eq_true (show V = U ∧ R = S from ⟨he, hs⟩)] at hsm
  have HSM := Lib.hid hsm
  have HAE := Lib.hid hA
  have HW0 := Lib.hid hW0
  clear h0 hW0 hV hU hR hS hA hsm he hs
  go_enter Tryz.func15, Tryz.ntmps15
  go_wp2_with fail
  rw [HW0.out, HAE.out]
  refine HSM.out.mono ?_
  rintro e w1 ⟨rfl, hb1⟩
  have HB1 := Lib.hid (fb2 HBW.out hb1 (Nat.le_refl _))
  clear hb1
  go_wp2
  go_ret
  exact ⟨rfl, HB1.out⟩
def onlyG {α : Type} (z : Int) (l : List α) : List α := if z = 0 then l else []

set_option maxRecDepth 100000 in
set_option maxHeartbeats 16000000 in
theorem groupGroups_calls (V : List (List UInt8)) (R : List RowL) (B : List (List UInt8)) (L : List AggL) (hx : okV V) (hr : okRT R) (hB : okV B) (hL : ∀ g ∈ L, g.ok) (hre : ∀ r ∈ R, r.length * 56 ≤ 140737488355328) (tv : Value) (ba : Option Addr) (bn bc : Nat) (la : Option Addr) (ln lc : Nat) (w : World) (hg : Nm.Good w) (ht : TabA w tv V R) (hb : TxtA w ba bn bc B) (hl : AgA w la ln lc L) :
    Calls Tryz.prog 4 #[tv, .slice ba bn bc, .slice la ln lc] w fun e w' => e = .returned (.bool true) ∧ Below w.heap.size w w' := by
  obtain ⟨va, n, vc, ra, m, rc, rfl, hV, hR⟩ := ht
  obtain ⟨A, hA⟩ : ∃ A, w.heap.size = A := ⟨_, rfl⟩
  obtain ⟨W0, hW0⟩ : ∃ W0, w.alloc (.cells #[.slice va n vc, .slice ra m rc] 25) = W0 := ⟨_, rfl⟩
  have HB0 := Lib.hid (show Below w.heap.size w W0 by rw [← hW0]; exact box_below _ _)
  have HA0 := Lib.hid (show Blk W0 A 25 #[.slice va n vc, .slice ra m rc] by rw [← hW0, ← hA]; exact blk_new _ _ _)
  have HG := Lib.hid hg
  have HVL := Lib.hid hV.len
  have HRL := Lib.hid hR.len
  have hTB : ∀ W, Below w.heap.size w W → TabA W (.agg #[.slice va n vc, .slice ra m rc]) V R := fun W hb => ⟨va, n, vc, ra, m, rc, rfl, hV.on hb, hR.on hb⟩
  have HTB := Lib.hid hTB
  have HLI := Lib.hid (light_calls V R _ W0 (hTB W0 HB0.out))
  have HAW := Lib.hid (fun W hW => awake_calls W hW)
  have HRK : Hid (ln ≤ 40 → ∀ W, Below w.heap.size w W → Calls Tryz.prog 12 #[.agg #[.slice va n vc, .slice ra m rc], .slice ba bn bc, .slice la ln lc] W fun e w' => e = .returned (.int .i64 (checkG V R B L)) ∧ Below W.heap.size W w') := Lib.hid fun h W hW => rGCheck_calls V R B L hx hr.r hB hL _ ba bn bc la ln lc W (hTB W hW) (hb.on hW) (hl.on hW) (by omega)
  have HGR : Hid (ln ≤ 40 → ∀ W tv, Below w.heap.size w W → TabA W tv V R → Calls Tryz.prog 14 #[tv, .slice ba bn bc, .slice la ln lc] W fun e w' => ∃ uv, e = .returned (.tuple #[uv, .int .i64 (checkG V R B L)]) ∧ TabK (fun i => W.heap.size ≤ i) w' uv (onlyG (checkG V R B L) (B ++ aggNames L)) (onlyG (checkG V R B L) (groupP V B L R)) ∧ Below W.heap.size W w') := Lib.hid fun h W tv hW hT => by
    by_cases hz : checkG V R B L = 0
    · rw [hz]
      exact group_yes V R B L hx hr hB hL hz tv ba bn bc la ln lc W (hg.on hW) hT (hb.on hW) (hl.on hW)
    · unfold onlyG
      rw [if_neg hz, if_neg hz]
      refine (group_no V R B L hx hr hB hL hz tv ba bn bc la ln lc W hT (hb.on hW) (hl.on hW) (by omega)).mono ?_
      rintro e w' ⟨rfl, hb'⟩
      exact ⟨noTab, rfl, tab_nil _ w', hb'⟩
  have HRG : Hid (checkG V R B L = 0 → R.length ≤ 40 → ∀ W, Below w.heap.size w W → Calls Tryz.prog 16 #[.agg #[.slice va n vc, .slice ra m rc], .slice ba bn bc, .slice la ln lc] W fun e w' => ∃ uv, e = .returned uv ∧ TabA w' uv (B ++ aggNames L) (groupP V B L R) ∧ Below W.heap.size W w') := Lib.hid fun hz h40 W hW => rGGroup_calls V R B L hr.r hz h40 _ ba bn bc la ln lc W (hTB W hW) (hb.on hW) (hl.on hW)
  have HRE := Lib.hid hre
  have HAE := Lib.hid hA
  have HW0 := Lib.hid hW0
  clear hTB hV hR hg hA hW0 hx hr hB hL hb hl hre
  generalize checkG V R B L = z at HRK HGR HRG
  generalize groupP V B L R = GP at HGR HRG
  generalize B ++ aggNames L = VN at HGR HRG
  cases hli : lightB V R with
  | false =>
    rw [hli] at HLI
    go_enter Tryz.func4, Tryz.ntmps4
    go_wp2_with fail
    rw [HW0.out, HAE.out]
    refine HLI.out.mono ?_
    rintro e w1 ⟨rfl, hb1⟩
    have HB1 := Lib.hid (fb2 HB0.out hb1 (Nat.le_refl _))
    clear hb1
    go_wp2_with fail
    refine (HAW.out _ (HG.out.on HB1.out)).mono ?_
    rintro e w2 ⟨rfl, hb2⟩
    have HBz := Lib.hid (fb2 HB1.out hb2 (Nat.le_refl _))
    clear hb2
    go_wp2
    go_ret
    exact ⟨rfl, HBz.out⟩
  | true =>
    rw [hli] at HLI
    have hlg : R.length ≤ 40 ∧ V.length ≤ 33 := by
      unfold lightB at hli
      simp only [Bool.and_eq_true, decide_eq_true_eq] at hli
      exact hli
    have HLG := Lib.hid hlg
    clear hli hlg
    by_cases h1 : 40 < bn
    · have k1 : (40 : Int) < (bn : Int) := by omega
      go_enter Tryz.func4, Tryz.ntmps4
      go_wp2_with fail
      rw [HW0.out, HAE.out]
      refine HLI.out.mono ?_
      rintro e w1 ⟨rfl, hb1⟩
      have HB1 := Lib.hid (fb2 HB0.out hb1 (Nat.le_refl _))
      clear hb1
      go_wp2_with fail
      refine (HAW.out _ (HG.out.on HB1.out)).mono ?_
      rintro e w2 ⟨rfl, hb2⟩
      have HBz := Lib.hid (fb2 HB1.out hb2 (Nat.le_refl _))
      clear hb2
      go_wp2
      go_ret
      exact ⟨rfl, HBz.out⟩
    by_cases h2 : 40 < ln
    · have k1 : ¬ (40 : Int) < (bn : Int) := by omega
      have k2 : (40 : Int) < (ln : Int) := by omega
      go_enter Tryz.func4, Tryz.ntmps4
      go_wp2_with fail
      rw [HW0.out, HAE.out]
      refine HLI.out.mono ?_
      rintro e w1 ⟨rfl, hb1⟩
      have HB1 := Lib.hid (fb2 HB0.out hb1 (Nat.le_refl _))
      clear hb1
      go_wp2_with fail
      refine (HAW.out _ (HG.out.on HB1.out)).mono ?_
      rintro e w2 ⟨rfl, hb2⟩
      have HBz := Lib.hid (fb2 HB1.out hb2 (Nat.le_refl _))
      clear hb2
      go_wp2
      go_ret
      exact ⟨rfl, HBz.out⟩
    have k1 : ¬ (40 : Int) < (bn : Int) := by omega
    have k2 : ¬ (40 : Int) < (ln : Int) := by omega
    have HRK2 := Lib.hid (HRK.out (by omega))
    have HGR2 := Lib.hid (HGR.out (by omega))
    clear HRK HGR
    go_enter Tryz.func4, Tryz.ntmps4
    go_wp2_with fail
    rw [HW0.out, HAE.out]
    refine HLI.out.mono ?_
    rintro e w1 ⟨rfl, hb1⟩
    have HB1 := Lib.hid (fb2 HB0.out hb1 (Nat.le_refl _))
    have HA1 := Lib.hid (blk_on HA0.out hb1 (blk_lt HA0.out))
    have HCO := Lib.hid (rCopy_calls V R _ w1 (HTB.out w1 HB1.out) HLG.out.1 HLG.out.2 HRE.out)
    clear hb1
    have q0 : w1.cell? ⟨A, 0, none⟩ = some (.slice va n vc) := (blk_cell HA1.out 0).trans rfl
    have q1 : w1.cell? ⟨A, 1, none⟩ = some (.slice ra m rc) := (blk_cell HA1.out 1).trans rfl
    go_wp2_with fail
    refine HCO.out.mono ?_
    rintro e w2 ⟨uv, rfl, ⟨va1, n1, vc1, ra1, m1, rc1, rfl, hT1, hJ1⟩, hb2⟩
    obtain rfl : n1 = n := hT1.len.symm.trans HVL.out
    obtain rfl : m1 = m := hJ1.len.symm.trans HRL.out
    have HT1 := Lib.hid hT1.a
    have HJ1 := Lib.hid (hJ1.mono (H' := fun b => b < w2.heap.size ∧ w1.heap.size ≤ b ∧ ¬ isT w2 b) (K' := fun b => b < w2.heap.size ∧ w1.heap.size ≤ b ∧ isT w2 b) (fun b hb hk => ⟨hb, hk⟩) (fun b hb hk => ⟨hb, hk⟩))
    have HB2 := Lib.hid (fb2 HB1.out hb2 (Nat.le_refl _))
    have HA2 := Lib.hid (blk_on HA1.out hb2 (blk_lt HA1.out))
    obtain ⟨C, hC⟩ : ∃ C, w2.heap.size = C := ⟨_, rfl⟩
    obtain ⟨w3, hw3⟩ : ∃ w3, w2.alloc (.cells #[.slice va1 n1 vc1, .slice ra1 m1 rc1] 25) = w3 := ⟨_, rfl⟩
    have HB23 := Lib.hid (show Below w2.heap.size w2 w3 by rw [← hw3]; exact box_below _ _)
    have HB3 := Lib.hid (fb2 HB2.out HB23.out (Nat.le_refl _))
    have HC3 := Lib.hid (show Blk w3 C 25 #[.slice va1 n1 vc1, .slice ra1 m1 rc1] by rw [← hw3, ← hC]; exact blk_new _ _ _)
    have HA3 := Lib.hid (blk_on HA2.out HB23.out (blk_lt HA2.out))
    have HT3 := Lib.hid (show TabA w3 (.agg #[.slice va1 n1 vc1, .slice ra1 m1 rc1]) V R from ⟨va1, n1, vc1, ra1, m1, rc1, rfl, HT1.out.on HB23.out, hJ1.a.on HB23.out⟩)
    have HCE := Lib.hid hC
    have HW3 := Lib.hid hw3
    have HS12 := Lib.hid (show w1.heap.size ≤ w2.heap.size from hb2.size)
    clear hT1 hJ1 hb2 hC hw3 q0 q1 HCO HLI
    go_wp2_with fail
    rw [HW3.out, HCE.out]
    refine (HGR2.out w3 _ HB3.out HT3.out).mono ?_
    rintro e w4 ⟨uv, rfl, ⟨va2, n2, vc2, ra2, m2, rc2, rfl, hT2, hR2⟩, hb4⟩
    have HS4 := Lib.hid (show TabK (fun i => w3.heap.size ≤ i) w4 (.agg #[.slice va2 n2 vc2, .slice ra2 m2 rc2]) (onlyG z VN) (onlyG z GP) from ⟨va2, n2, vc2, ra2, m2, rc2, rfl, hT2, hR2⟩)
    have HB34 := Lib.hid hb4
    have HC4 := Lib.hid (blk_on HC3.out hb4 (blk_lt HC3.out))
    have HA4 := Lib.hid (blk_on HA3.out hb4 (blk_lt HA3.out))
    obtain ⟨E, hE⟩ : ∃ E, w4.heap.size = E := ⟨_, rfl⟩
    obtain ⟨w5, hw5⟩ : ∃ w5, w4.alloc (.cells #[.slice va2 n2 vc2, .slice ra2 m2 rc2] 25) = w5 := ⟨_, rfl⟩
    have HB45 := Lib.hid (show Below w4.heap.size w4 w5 by rw [← hw5]; exact box_below _ _)
    have HE5 := Lib.hid (show Blk w5 E 25 #[.slice va2 n2 vc2, .slice ra2 m2 rc2] by rw [← hw5, ← hE]; exact blk_new _ _ _)
    have HA5 := Lib.hid (blk_on HA4.out HB45.out (blk_lt HA4.out))
    have HC5 := Lib.hid (blk_on HC4.out HB45.out (blk_lt HC4.out))
    have HB25 := Lib.hid (show Below w2.heap.size w2 w5 from fb2 (fb2 HB23.out HB34.out (Nat.le_refl _)) HB45.out (Nat.le_refl _))
    have HB5 := Lib.hid (show Below w.heap.size w w5 from fb2 (fb2 HB3.out HB34.out (Nat.le_refl _)) HB45.out (Nat.le_refl _))
    have HS5 := Lib.hid (show TabK (fun i => w3.heap.size ≤ i) w5 (.agg #[.slice va2 n2 vc2, .slice ra2 m2 rc2]) (onlyG z VN) (onlyG z GP) from HS4.out.on ((stay_below HB45.out).mono (fun _ _ _ => trivial)))
    have HEE := Lib.hid hE
    have HW5 := Lib.hid hw5
    have HJ5 := Lib.hid (HJ1.out.on ((stay_below HB25.out).mono (fun _ _ _ => trivial)))
    have HKT := Lib.hid (fun b (hb : b < w2.heap.size ∧ w1.heap.size ≤ b ∧ isT w2 b) => (isT_same hb.2.2 (HB25.out.block b hb.1) : isT w5 b))
    have HSP := Lib.hid (show SpoG (fun b => b < w2.heap.size ∧ w1.heap.size ≤ b ∧ isT w2 b) w5 C (.slice va1 n1 vc1) (.slice ra1 m1 rc1) w5 from ⟨HC5.out, ⟨rfl, rfl, rfl, Nat.le_refl _, fun _ _ _ => rfl, fun b c _ hc => ⟨c, hc, rfl⟩⟩⟩)
    have j1 := HJ5.out.cap
    have j2 := HJ5.out.most
    unfold maxLen at j2
    clear hT2 hR2 hb4 hE hw5 HS4 HC3 HC4 HJ1 HT1 HT3
    go_wp2
    rw [HW5.out, HEE.out]
    go_loopg [10, 11] m1 (fun g i _ wr => ∃ k : Nat, i = .int .i64 k ∧ k + g = m1 ∧ Hid (SpoG (fun b => b < w2.heap.size ∧ w1.heap.size ≤ b ∧ isT w2 b) w5 C (.slice va1 n1 vc1) (.slice ra1 m1 rc1) wr))
    case atStart => exact ⟨0, rfl, by omega, HSP⟩
    case round =>
      clear HSP
      obtain ⟨W1, rfl⟩ : ∃ W1, W1 = wr := ⟨_, rfl⟩
      obtain ⟨k, rfl, hkg, HS⟩ := hrel
      have q1 : W1.cell? ⟨C, 1, none⟩ = some (.slice ra1 m1 rc1) := (blk_cell HS.out.arg 1).trans rfl
      have k0 : (0 : Int) ≤ (k : Int) := by omega
      by_cases hk : k < m1
      · obtain ⟨gg, rfl⟩ : ∃ gg, gk = gg + 1 := ⟨gk - 1, by omega⟩
        have hkR : k < R.length := by rw [HRL.out]; exact hk
        obtain ⟨g, o, ha, hgw, hgH, hcells⟩ := HJ5.out.cells (by omega)
        subst ha
        obtain ⟨a', c', hcell, htrm⟩ := hcells k hkR
        have HTM := Lib.hid htrm
        have HCL := Lib.hid hcell
        have HNK := Lib.hid (show ¬ (g < w2.heap.size ∧ w1.heap.size ≤ g ∧ isT w2 g) from fun c => hgH.2.2 c.2.2)
        have HGW := Lib.hid hgw
        have t1 := htrm.cap
        have t2 := htrm.most
        unfold maxLen at t2
        clear hcells hcell htrm hgH hgw
        generalize R[k] = y at HTM HCL t1 t2
        obtain ⟨q, hq⟩ : ∃ q, y.length = q := ⟨_, rfl⟩
        rw [hq] at HTM HCL t1
        have HYQ := Lib.hid hq
        clear hq
        have k1' : (k : Int) < (m1 : Int) := by omega
        go_wp2
        clear q1
        go_loopg [11] q (fun g2 i wr => ∃ j : Nat, i = .int .i64 j ∧ j + g2 = q ∧ Hid (SpoG (fun b => b < w2.heap.size ∧ w1.heap.size ≤ b ∧ isT w2 b) w5 C (.slice va1 n1 vc1) (.slice (some ⟨g, o, none⟩) m1 rc1) wr))
        case atStart => exact ⟨0, rfl, by omega, HS⟩
        case round =>
          obtain ⟨W2, rfl⟩ : ∃ W2, W2 = wr := ⟨_, rfl⟩
          obtain ⟨j, rfl, hjg, HS2⟩ := hrel
          have q1 : W2.cell? ⟨C, 1, none⟩ = some (.slice (some ⟨g, o, none⟩) m1 rc1) := (blk_cell HS2.out.arg 1).trans rfl
          have q2 : W2.cell? ⟨g, o + k, none⟩ = some (.slice a' q c') := (cell_same (HS2.out.spo.block g HGW.out HNK.out) _).trans HCL.out
          have j0 : (0 : Int) ≤ (j : Int) := by omega
          by_cases hj : j < q
          · obtain ⟨hh, rfl⟩ : ∃ hh, gk = hh + 1 := ⟨gk - 1, by omega⟩
            obtain ⟨g', o', ha', hgw', hgK, hcs⟩ := HTM.out.cells (by omega)
            subst ha'
            obtain ⟨cur, hcur⟩ := HKT.out g' hgK
            have hfit := term_fits hcur (hcs j (by have := HYQ.out; omega))
            obtain ⟨cur', hcur', hsz⟩ := HS2.out.spo.terms g' cur hgK hcur
            have HFT := Lib.hid (show o' + j * 4 + 4 ≤ cur'.toList.length by rw [Array.length_toList, hsz]; exact hfit)
            have HCU := Lib.hid (show Blk W2 g' 37 cur'.toList.toArray by simpa using hcur')
            have HGK := Lib.hid hgK
            have HCG := Lib.hid (show C ≠ g' by have h1 := hgK.1; have h2 := HCE.out; omega)
            have jj1 : (j : Int) < (q : Int) := by omega
            clear hcs hcur hcur' hfit hgK hgw' hsz
            go_wp2_with (refine mid_abs 37 (.tmp 60) (.tmp 59) ⟨rfl, rfl⟩ g' (o' + j * 4) #[.int .i64 0, .string ⟨#[]⟩, .string ⟨#[]⟩, .string ⟨#[]⟩] rfl rfl 37 cur'.toList _ HCU.out (by kernel_rfl) (by kernel_rfl) rfl (by simpa using HFT.out) ?_; intro w4' hG4 hg4)
            have HS4 := Lib.hid (HS2.out.next HCG.out HGK.out HCU.out hG4.out (by have := HFT.out; simp at this ⊢; omega) hg4.out)
            clear hG4 hg4
            go_roundg hh
            case measure => omega
            case rel => exact ⟨j + 1, by go_num, by omega, HS4⟩
          · have jj1 : ¬ (j : Int) < (q : Int) := by omega
            go_wp2
            go_roundg gg
            case measure => omega
            case rel => exact ⟨k + 1, by go_num, by omega, HS2⟩
      · have k1' : ¬ (k : Int) < (m1 : Int) := by omega
        obtain ⟨w6, hw6⟩ : ∃ w6, w6 = W1 := ⟨_, rfl⟩
        subst hw6
        have hs6 := HS.out.spo
        have hk6 : ∀ b, (b < w2.heap.size ∧ w1.heap.size ≤ b ∧ isT w2 b) → w.heap.size ≤ b := fun b hb => Nat.le_trans HB1.out.size hb.2.1
        have HB6 := Lib.hid (show Below w.heap.size w w6 from HB5.out.trans (hs6.below HB5.out.size hk6))
        have HA6 := Lib.hid (show Blk w6 A 25 #[.slice va n1 vc, .slice ra m1 rc] from (hs6.block A (blk_lt HA5.out) (fun c => by have h1 := c.2.1; have h2 := blk_lt HA1.out; omega)).trans HA5.out)
        have HE6 := Lib.hid (show Blk w6 E 25 #[.slice va2 n2 vc2, .slice ra2 m2 rc2] from (hs6.block E (blk_lt HE5.out) (fun c => by have h1 := c.1; have h2 := HEE.out; have h3 := HB23.out.size; have h4 := HB34.out.size; omega)).trans HE5.out)
        have HS6 := Lib.hid (HS5.out.on (hs6.stay (fun b _ hk c => by have h1 := c.1; have h2 : w3.heap.size ≤ b := hk; have h3 := HB23.out.size; omega))).a
        clear hs6 hk6 HS HJ5 HKT HA5 HE5 HS5 HC5 hkg
        have q0 : w6.cell? ⟨A, 0, none⟩ = some (.slice va n1 vc) := (blk_cell HA6.out 0).trans rfl
        have q4 : w6.cell? ⟨A, 1, none⟩ = some (.slice ra m1 rc) := (blk_cell HA6.out 1).trans rfl
        go_wp2_with fail
        refine (HRK2.out w6 HB6.out).mono ?_
        rintro e w7 ⟨rfl, hb7⟩
        have HB7 := Lib.hid (fb2 HB6.out hb7 (Nat.le_refl _))
        have HA7 := Lib.hid (blk_on HA6.out hb7 (blk_lt HA6.out))
        have HE7 := Lib.hid (blk_on HE6.out hb7 (blk_lt HE6.out))
        have HS7 := Lib.hid (HS6.out.on hb7)
        clear hb7 q0 q1 q4
        have gzz : (z != z) = false := bne_self_eq_false z
        have e0 : w7.cell? ⟨E, 0, none⟩ = some (.slice va2 n2 vc2) := (blk_cell HE7.out 0).trans rfl
        have e1 : w7.cell? ⟨E, 1, none⟩ = some (.slice ra2 m2 rc2) := (blk_cell HE7.out 1).trans rfl
        by_cases hz : z = 0
        · have gz : (z != 0) = false := by rw [hz]; rfl
          have HRG2 := Lib.hid (HRG.out hz HLG.out.1)
          have hv : onlyG z VN = VN := if_pos hz
          have hp : onlyG z GP = GP := if_pos hz
          rw [hv, hp] at HS7
          clear hz hv hp HRG
          have q0 : w7.cell? ⟨A, 0, none⟩ = some (.slice va n1 vc) := (blk_cell HA7.out 0).trans rfl
          have q1 : w7.cell? ⟨A, 1, none⟩ = some (.slice ra m1 rc) := (blk_cell HA7.out 1).trans rfl
          have hlA := blk_lt HA7.out
          have hlE := blk_lt HE7.out
          go_wp2_with fail
          refine wp_region_held_drew (S := (fun W => Below w7.heap.size w7 W)) (by kernel_rfl) ?_ (fun hHeld => ?_)
          · (try dsimp only); exact (Below.refl _ _).drew
          obtain ⟨Wd, hWd⟩ : ∃ Wd, w7.drew = Wd := ⟨_, rfl⟩
          rw [hWd] at hHeld ⊢
          have HBS := Lib.hid (show Below w7.heap.size w7 Wd by rw [← hWd]; exact (Below.refl _ _).drew)
          clear hWd
          refine wpAnyH_take (i := 0) (oi := ⟨some 76, _, _, _, _, _⟩) (v := ?_) rfl (by kernel_rfl) (by kernel_rfl) (by kernel_rfl) (fun _ _ _ h => h) (Or.inl ⟨by kernel_rfl, ?_⟩) (by assumption) ?_
          rotate_left
          · (intro ww hSw; (try dsimp only at hSw); have f0 := keptC e0 hSw hlE; have f1 := keptC e1 hSw hlE; go_simp); (try with_reducible rfl)
          (try simp only [Act.put, List.setIfInBounds_toArray, List.set_cons_zero, List.set_cons_succ])
          refine wpAnyH_take (i := 1) (oi := ⟨some 77, _, _, _, _, _⟩) (v := ?_) rfl (by kernel_rfl) (by kernel_rfl) (by kernel_rfl) (fun _ _ _ h => h) (Or.inl ⟨by kernel_rfl, ?_⟩) (by assumption) ?_
          rotate_left
          · (intro ww hSw; (try dsimp only at hSw); have f0 := keptC q0 hSw hlA; have f1 := keptC q1 hSw hlA; go_simp); (try with_reducible rfl)
          (try simp only [Act.put, List.setIfInBounds_toArray, List.set_cons_zero, List.set_cons_succ])
          refine wpAnyH_take (i := 2) (oi := ⟨some 78, _, _, _, _, _⟩) (v := ?_) rfl (by kernel_rfl) (by kernel_rfl) (by kernel_rfl) (fun _ _ _ h => h) (Or.inl ⟨by kernel_rfl, ?_⟩) (by assumption) ?_
          rotate_left
          · (intro ww hSw; (try dsimp only at hSw); go_simp); (try with_reducible rfl)
          (try simp only [Act.put, List.setIfInBounds_toArray, List.set_cons_zero, List.set_cons_succ])
          refine wpAnyH_take (i := 3) (oi := ⟨some 79, _, _, _, _, _⟩) (v := ?_) rfl (by kernel_rfl) (by kernel_rfl) (by kernel_rfl) (fun _ _ _ h => h) (Or.inl ⟨by kernel_rfl, ?_⟩) (by assumption) ?_
          rotate_left
          · (intro ww hSw; (try dsimp only at hSw); go_simp); (try with_reducible rfl)
          (try simp only [Act.put, List.setIfInBounds_toArray, List.set_cons_zero, List.set_cons_succ])
          refine wpAnyH_ready (rs := [4]) (by kernel_rfl) (by simp) ?_
          refine AllReadyH.cons rfl (fun K hK => ?_) AllReadyH.nil
          go_simp
          refine (HRG2.out Wd (fb2 HB7.out HBS.out (Nat.le_refl _))).mono ?_
          rintro e W100 ⟨uv3, rfl, ht8, hb⟩
          have hbx : Below Wd.heap.size Wd W100 := hb
          clear hb
          have HS8 := Lib.hid (rSame_calls _ _ _ _ _ _ W100 (HS7.out.on (fb2 HBS.out hbx (Nat.le_refl _))) ht8 rfl rfl)
          clear ht8
          replace HBS := Lib.hid (fb2 HBS.out hbx (Nat.le_refl _))
          clear hbx
          go_wp2_with fail
          refine hK.out _ _ ?_ (fun hHeld => ?_)
          · (try dsimp only); exact HBS.out
          clear hK K
          (try simp only [Act.put, List.setIfInBounds_toArray, List.set_cons_zero, List.set_cons_succ])
          refine wpAnyH_ready (rs := [5]) (by kernel_rfl) (by simp) ?_
          refine AllReadyH.cons rfl (fun K hK => ?_) AllReadyH.nil
          go_simp
          refine (HS8.out).mono ?_
          rintro e W101 ⟨rfl, hb⟩
          have hbx : Below W100.heap.size W100 W101 := hb
          clear hb
          clear HS8
          replace HBS := Lib.hid (fb2 HBS.out hbx (Nat.le_refl _))
          clear hbx
          go_wp2_with fail
          refine hK.out _ _ ?_ (fun hHeld => ?_)
          · (try dsimp only); exact HBS.out
          clear hK K
          (try simp only [Act.put, List.setIfInBounds_toArray, List.set_cons_zero, List.set_cons_succ])
          refine wpAnyH_take (i := 6) (oi := ⟨some 82, _, _, _, _, _⟩) (v := ?_) rfl (by kernel_rfl) (by kernel_rfl) (by kernel_rfl) (fun _ _ _ h => h) (Or.inl ⟨by kernel_rfl, ?_⟩) (by assumption) ?_
          rotate_left
          · (intro ww hSw; (try dsimp only at hSw); go_simp); (try with_reducible rfl)
          (try simp only [Act.put, List.setIfInBounds_toArray, List.set_cons_zero, List.set_cons_succ])
          refine wpAnyH_ready (rs := [7]) (by kernel_rfl) (by simp) ?_
          refine AllReadyH.cons rfl (fun K hK => ?_) AllReadyH.nil
          go_simp
          refine (HAW.out W101 (HG.out.on (fb2 HB7.out HBS.out (Nat.le_refl _)))).mono ?_
          rintro e W102 ⟨rfl, hb⟩
          have hbx : Below W101.heap.size W101 W102 := hb
          clear hb
          replace HBS := Lib.hid (fb2 HBS.out hbx (Nat.le_refl _))
          clear hbx
          go_wp2_with fail
          refine hK.out _ _ ?_ (fun hHeld => ?_)
          · (try dsimp only); exact HBS.out
          clear hK K
          (try simp only [Act.put, List.setIfInBounds_toArray, List.set_cons_zero, List.set_cons_succ])
          refine wpAnyH_take (i := 8) (oi := ⟨some 84, _, _, _, _, _⟩) (v := ?_) rfl (by kernel_rfl) (by kernel_rfl) (by kernel_rfl) (fun _ _ _ h => h) (Or.inl ⟨by kernel_rfl, ?_⟩) (by assumption) ?_
          rotate_left
          · (intro ww hSw; (try dsimp only at hSw); go_simp); (try with_reducible rfl)
          (try simp only [Act.put, List.setIfInBounds_toArray, List.set_cons_zero, List.set_cons_succ])
          refine wpAnyH_take (i := 9) (oi := ⟨some 6, _, _, _, _, _⟩) (v := ?_) rfl (by kernel_rfl) (by kernel_rfl) (by kernel_rfl) (fun _ _ _ h => h) (Or.inl ⟨by kernel_rfl, ?_⟩) (by assumption) ?_
          rotate_left
          · (intro ww hSw; (try dsimp only at hSw); go_simp); (try with_reducible rfl)
          (try simp only [Act.put, List.setIfInBounds_toArray, List.set_cons_zero, List.set_cons_succ])
          refine wpAnyH_done (by kernel_rfl) ?_ _
          go_wp2
          go_ret
          exact ⟨rfl, (fb2 HB7.out HBS.out (Nat.le_refl _))⟩
        · have gz : (z != 0) = true := bne_iff_ne.2 hz
          have hv : onlyG z VN = [] := if_neg hz
          have hp : onlyG z GP = [] := if_neg hz
          rw [hv, hp] at HS7
          have HSN := Lib.hid (rSame_calls [] [] [] [] _ (.agg #[.slice none 0 0, .slice none 0 0]) w7 HS7.out (tab_nil (fun _ => True) w7).a rfl rfl)
          clear hz hv hp HRG
          go_wp2_with fail
          refine HSN.out.mono ?_
          rintro e w8 ⟨rfl, hb8⟩
          have HB8 := Lib.hid (fb2 HB7.out hb8 (Nat.le_refl _))
          clear hb8 e0 e1
          go_wp2_with fail
          refine (HAW.out _ (HG.out.on HB8.out)).mono ?_
          rintro e w9 ⟨rfl, hb9⟩
          have HBz := Lib.hid (fb2 HB8.out hb9 (Nat.le_refl _))
          clear hb9
          go_wp2
          go_ret
          exact ⟨rfl, HBz.out⟩

end Go.Proofs.YtdnfaoanaehjhaaGreatDoor
