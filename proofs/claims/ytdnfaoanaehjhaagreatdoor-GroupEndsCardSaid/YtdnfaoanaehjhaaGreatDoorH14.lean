/- ShpTimes, ShpSameRows, put together. -/
import Derived.Test.YtdnfaoanaehjhaaGreatDoorH8
import Derived.Test.YtdnfaoanaehjhaaGreatDoorH13

/- How many rows of a table are the same as one, by variables: the document's Times. -/
namespace Go.Proofs.YtdnfaoanaehjhaaGreatDoor
open Go.RowKit Go.Sort

def hitP (U : List (List UInt8)) (s : RowL) (p : List UInt8 × TermL) : Bool := decide (boundP U s p.1 = p.2)
def matchB (U : List (List UInt8)) (s : RowL) (V : List (List UInt8)) (r : RowL) (k : Nat) : Bool := ((List.zip V r).take k).all (hitP U s)
def hitsB (U : List (List UInt8)) (s : RowL) (V : List (List UInt8)) (r : RowL) : Bool := (List.zip V r).all (hitP U s)
def timesP (U : List (List UInt8)) (S : List RowL) (V : List (List UInt8)) (r : RowL) : Nat := S.countP (fun s => hitsB U s V r)
theorem match_next {U : List (List UInt8)} {s : RowL} {V : List (List UInt8)} {r : RowL} {k : Nat} (hV : k < V.length) (hr : k < r.length) : matchB U s V r (k + 1) = (matchB U s V r k && decide (boundP U s V[k] = r[k])) := by
  unfold matchB
  have hl : k < (List.zip V r).length := by rw [List.length_zip]; omega
  rw [List.take_succ_eq_append_getElem hl, List.all_append]
  simp [hitP]
theorem match_end {U : List (List UInt8)} {s : RowL} {V : List (List UInt8)} {r : RowL} {k : Nat} (h : V.length ≤ k ∨ r.length ≤ k) : matchB U s V r k = hitsB U s V r := by
  unfold matchB hitsB
  rw [List.take_of_length_le (by rw [List.length_zip]; omega)]
theorem times_next {U : List (List UInt8)} {S : List RowL} {V : List (List UInt8)} {r : RowL} {i : Nat} (hi : i < S.length) : timesP U (S.take (i + 1)) V r = timesP U (S.take i) V r + if hitsB U S[i] V r then 1 else 0 := by
  unfold timesP
  rw [List.take_succ_eq_append_getElem hi, List.countP_append, List.countP_singleton]
theorem times_le (U : List (List UInt8)) (S : List RowL) (V : List (List UInt8)) (r : RowL) (i : Nat) : timesP U (S.take i) V r ≤ i := by
  unfold timesP
  exact Nat.le_trans List.countP_le_length (by rw [List.length_take]; omega)

set_option maxRecDepth 100000 in
set_option maxHeartbeats 8000000 in
theorem times_calls (U : List (List UInt8)) (S : List RowL) (V : List (List UInt8)) (r : RowL) (tv : Value) (va : Option Addr) (n vc : Nat) (ra : Option Addr) (q rc : Nat) (w : World) (ht : TabA w tv U S) (hV : TxtA w va n vc V) (hr : TrmA w ra q rc r) :
    Calls Tryz.prog 54 #[tv, .slice va n vc, .slice ra q rc] w fun e w' => e = .returned (.int .i64 (timesP U S V r)) ∧ Below w.heap.size w w' := by
  obtain ⟨ua, un, uc, sa, m, sc, rfl, hU, hS⟩ := ht
  have HU := Lib.hid hU
  have HS := Lib.hid hS
  have HV := Lib.hid hV
  have HR := Lib.hid hr
  have HSL := Lib.hid hS.len
  have HVL := Lib.hid hV.len
  have HRL := Lib.hid hr.len
  have c1 := hV.cap
  have c2 := hV.most
  have c3 := hr.cap
  have c4 := hr.most
  have c5 := hS.cap
  have c6 := hS.most
  unfold maxLen at c2 c4 c6
  have HT0 := Lib.hid (TabIn.new w (.slice ua un uc) (.slice sa m sc) 25)
  have HE0 := Lib.hid (show timesP U S V r = timesP U (S.take m) V r by rw [List.take_of_length_le (by rw [hS.len]; exact Nat.le_refl _)])
  rw [HE0.out]
  clear hU hS hV hr HE0
  go_enter Tryz.func54, Tryz.ntmps54
  go_wp2
  go_loopg [7, 8, 9, 10] m (fun g c i _ _ wr => ∃ k : Nat, i = .int .i64 k ∧ k + g = m ∧ c = .int .i64 (timesP U (S.take k) V r) ∧ Hid (TabIn w (.slice ua un uc) (.slice sa m sc) wr))
  case atStart => exact ⟨0, rfl, by omega, rfl, HT0⟩
  case round =>
    obtain ⟨W1, rfl⟩ : ∃ W1, W1 = wr := ⟨_, rfl⟩
    obtain ⟨k, rfl, hkg, rfl, HT⟩ := hrel
    obtain ⟨t0, t1, hbW, hXW⟩ := HT.out
    have HBW := Lib.hid hbW
    clear hbW
    by_cases hk : k < m
    · obtain ⟨gg, rfl⟩ : ∃ gg, gk = gg + 1 := ⟨gk - 1, by omega⟩
      have hkS : k < S.length := by rw [HSL.out]; exact hk
      have HTN := Lib.hid (times_next (U := U) (V := V) (r := r) hkS)
      have HTL := Lib.hid (times_le U S V r k)
      obtain ⟨g, o, ha, hgw, hcells⟩ := HS.out.cells (by omega)
      subst ha
      obtain ⟨a', c', hcell, htrm⟩ := hcells k hkS
      have HSR := Lib.hid htrm
      have HSC := Lib.hid hcell
      clear hcells hcell htrm
      generalize S[k] = s at HSR HSC HTN
      obtain ⟨l, hl⟩ : ∃ l, s.length = l := ⟨_, rfl⟩
      rw [hl] at HSR HSC
      clear hl
      obtain ⟨ct, hct⟩ : ∃ ct, timesP U (S.take k) V r = ct := ⟨_, rfl⟩
      rw [hct] at HTN HTL ⊢
      clear hct
      have hct2 : ct ≤ k := HTL.out
      have k0 : (0 : Int) ≤ (k : Int) := by omega
      have k1 : (k : Int) < (m : Int) := by omega
      go_wp2
      clear t0 t1 hXW
      go_loopg [9, 10] n (fun gh b i wr => ∃ j : Nat, i = .int .i64 j ∧ j + gh = n ∧ b = .bool (matchB U s V r j) ∧ Hid (TabIn w (.slice ua un uc) (.slice (some ⟨g, o, none⟩) m sc) wr))
      case atStart => exact ⟨0, rfl, by omega, rfl, HT⟩
      case round =>
        obtain ⟨W2, rfl⟩ : ∃ W2, W2 = wr := ⟨_, rfl⟩
        obtain ⟨j, rfl, hjg, rfl, HT2⟩ := hrel
        obtain ⟨t0, t1, hbW, hXW⟩ := HT2.out
        have HBW2 := Lib.hid hbW
        clear hbW
        have hmt : matchB U s V r j = true ∨ matchB U s V r j = false := by cases matchB U s V r j <;> simp
        by_cases hjn : j < n ∧ j < q
        · obtain ⟨hj1, hj2⟩ := hjn
          obtain ⟨hh, rfl⟩ : ∃ hh, gk = hh + 1 := ⟨gk - 1, by omega⟩
          have hjV : j < V.length := by rw [HVL.out]; exact hj1
          have hjR : j < r.length := by rw [HRL.out]; exact hj2
          have HMN := Lib.hid (match_next (U := U) (s := s) hjV hjR)
          obtain ⟨g1, o1, ha1, hgw1, hcells1⟩ := HV.out.cells (by omega)
          obtain ⟨g2, o2, ha2, hgw2, hcells2⟩ := HR.out.cells (by omega)
          subst ha1 ha2
          have cB := fun d os => Calls.regrown_of (bound_calls V[j] U s ua un uc a' l c' (grow (redrawn W2 d) os) ((HU.out.on HBW2.out).on (below_regrown W2 d os)) ((HSR.out.on HBW2.out).on (below_regrown W2 d os)))
          have e0 := regrown_cell (keptC (hcells1 j hjV) HBW2.out hgw1)
          obtain ⟨d0, d1, d2, d3⟩ := (hcells2 j hjR).on HBW2.out hgw2
          have e1 := regrown_cell (keptC HSC.out HBW2.out hgw)
          have e2 := regrown_cell t0
          have e3 := regrown_cell t1
          clear hcells1 hcells2
          generalize V[j] = y at cB e0 HMN
          generalize r[j] = t at d0 d1 d2 d3 HMN
          generalize boundP U s y = z at cB HMN
          have HEQ : ∀ W, (Op.equalIn 10000 37 z.v t.v).run Tryz.prog W = .ok (decide (z = t)) W := fun W => by
            have := eq_term 9998 z t W
            rw [teq_is] at this
            exact this
          obtain ⟨E, hE⟩ : ∃ E, decide (z = t) = E := ⟨_, rfl⟩
          rw [hE] at HEQ HMN
          clear hE
          obtain ⟨tk, tx, ty, tz⟩ := t
          obtain ⟨zk, zx, zy, zz⟩ := z
          simp only [TermL.v] at HEQ cB
          dsimp only at d0 d1 d2 d3
          have f0 := regrown_cell d0
          have f1 := regrown_cell d1
          have f2 := regrown_cell d2
          have f3 := regrown_cell d3
          have j0 : (0 : Int) ≤ (j : Int) := by omega
          have j1 : (j : Int) < (n : Int) := by omega
          have j2 : (j : Int) < (q : Int) := by omega
          clear d0 d1 d2 d3
          rcases hmt with hmt | hmt
          · rw [hmt] at HMN ⊢
            clear hmt
            go_wp2_with fail
            refine wp_region_quiet_below (by kernel_rfl) (by kernel_rfl) ?_
            quiet_step (exact cB _ _)
            quiet_step (exact cB _ _)
            quiet_step (exact cB _ _)
            quiet_step (exact cB _ _)
            quiet_step (exact cB _ _)
            quiet_step (exact cB _ _)
            quiet_step (exact cB _ _)
            quiet_step (exact cB _ _)
            quiet_step (exact cB _ _)
            quiet_step (exact cB _ _)
            quiet_step (exact cB _ _)
            quiet_step (exact cB _ _)
            quiet_step (exact cB _ _)
            quiet_step (exact cB _ _)
            quiet_step (fail)
            quiet_step (fail)
            quiet_step (fail)
            quiet_step (fail)
            quiet_step (fail)
            quiet_step (fail)
            quiet_step (fail)
            refine wpQuiet_nil ?_
            intro W4 hw'
            obtain ⟨⟨dq, osq⟩, hw''⟩ := hw'
            have HT4 := Lib.hid (HT2.out.on (show Below W2.heap.size W2 W4 by rw [hw'']; exact below_regrown W2 dq osq))
            clear hw'' e0 e1 e2 e3 f0 f1 f2 f3 cB t0 t1 HEQ
            go_wp2
            go_roundg hh
            case measure => omega
            case rel => exact ⟨j + 1, by go_num, by omega, by rw [HMN.out]; rfl, HT4⟩
          · rw [hmt] at HMN ⊢
            clear hmt
            go_wp2_with fail
            refine wp_region_quiet_below (by kernel_rfl) (by kernel_rfl) ?_
            quiet_step (fail)
            quiet_step (fail)
            repeat go_big_quiet_skip
            quiet_step (fail)
            quiet_step (fail)
            refine wpQuiet_nil ?_
            intro W4 hw'
            obtain ⟨⟨dq, osq⟩, hw''⟩ := hw'
            have HT4 := Lib.hid (HT2.out.on (show Below W2.heap.size W2 W4 by rw [hw'']; exact below_regrown W2 dq osq))
            clear hw'' e0 e1 e2 e3 f0 f1 f2 f3 cB t0 t1 HEQ
            go_wp2
            go_roundg hh
            case measure => omega
            case rel => exact ⟨j + 1, by go_num, by omega, by rw [HMN.out]; rfl, HT4⟩
        · have HME := Lib.hid (match_end (U := U) (s := s) (V := V) (r := r) (k := j) (by have := HVL.out; have := HRL.out; omega))
          rw [HME.out] at hmt ⊢
          have e1 := keptC HSC.out HBW2.out hgw
          have j0 : (0 : Int) ≤ (j : Int) := by omega
          rcases (show n ≤ j ∨ (j < n ∧ q ≤ j) by omega) with h1 | ⟨h1, h2⟩
          · have j1 : ¬ (j : Int) < (n : Int) := by omega
            rcases hmt with hmt | hmt
            all_goals
              rw [hmt] at HTN ⊢
              clear hmt HME
              go_wp2
              go_roundg gg
              case measure => omega
              case rel => exact ⟨k + 1, by go_num, by omega, by rw [HTN.out]; rfl, HT2⟩
          · have j1 : (j : Int) < (n : Int) := by omega
            have j2 : ¬ (j : Int) < (q : Int) := by omega
            rcases hmt with hmt | hmt
            all_goals
              rw [hmt] at HTN ⊢
              clear hmt HME
              go_wp2
              go_roundg gg
              case measure => omega
              case rel => exact ⟨k + 1, by go_num, by omega, by rw [HTN.out]; rfl, HT2⟩
    · have hkm : k = m := by omega
      have k1 : ¬ (k : Int) < (m : Int) := by omega
      go_wp2
      go_ret
      exact ⟨ret_int (by first | rfl | rw [hkm]), HBW.out⟩

end Go.Proofs.YtdnfaoanaehjhaaGreatDoor

/- Have two tables the same variables and rows, each as often: the document's SameRows. -/
namespace Go.Proofs.YtdnfaoanaehjhaaGreatDoor
open Go.RowKit Go.Sort

def sameRowsB (V : List (List UInt8)) (R : List RowL) (U : List (List UInt8)) (S : List RowL) : Bool := decide (R.length = S.length) && decide (V.length = U.length) && V.all (fun x => decide (x ∈ U)) && R.all (fun r => decide (timesP V R V r = timesP U S V r))
theorem same_len {V U : List (List UInt8)} {R S : List RowL} (h : R.length ≠ S.length ∨ V.length ≠ U.length) : sameRowsB V R U S = false := by
  unfold sameRowsB
  rcases h with h | h
  · rw [decide_eq_false h]; rfl
  · rw [decide_eq_false (p := V.length = U.length) h]; simp
theorem same_vars {V U : List (List UInt8)} {R S : List RowL} (h : (V.all fun x => decide (x ∈ U)) = false) : sameRowsB V R U S = false := by unfold sameRowsB; rw [h]; simp
theorem same_rows {V U : List (List UInt8)} {R S : List RowL} (h : (R.all fun r => decide (timesP V R V r = timesP U S V r)) = false) : sameRowsB V R U S = false := by unfold sameRowsB; rw [h]; simp
theorem same_yes {V U : List (List UInt8)} {R S : List RowL} (h1 : R.length = S.length) (h2 : V.length = U.length) (h3 : (V.all fun x => decide (x ∈ U)) = true) (h4 : (R.all fun r => decide (timesP V R V r = timesP U S V r)) = true) : sameRowsB V R U S = true := by unfold sameRowsB; rw [h3, h4, decide_eq_true h1, decide_eq_true h2]; rfl

set_option maxRecDepth 100000 in
set_option maxHeartbeats 8000000 in
theorem sameRows_calls (V : List (List UInt8)) (R : List RowL) (U : List (List UInt8)) (S : List RowL) (t1 t2 : Value) (w : World) (h1 : TabA w t1 V R) (h2 : TabA w t2 U S) :
    Calls Tryz.prog 22 #[t1, t2] w fun e w' => e = .returned (.bool (sameRowsB V R U S)) ∧ Below w.heap.size w w' := by
  obtain ⟨va, n, vc, ra, m, rc, rfl, hV, hR⟩ := h1
  obtain ⟨ua, n2, uc, sa, m2, sc, rfl, hU, hS⟩ := h2
  obtain ⟨A, hA⟩ : ∃ A, w.heap.size = A := ⟨_, rfl⟩
  have h0 := tabs2_new w (.slice va n vc) (.slice ra m rc) (.slice ua n2 uc) (.slice sa m2 sc)
  obtain ⟨W0, hW0⟩ : ∃ W0, (w.alloc (.cells #[.slice va n vc, .slice ra m rc] 25)).alloc (.cells #[.slice ua n2 uc, .slice sa m2 sc] 25) = W0 := ⟨_, rfl⟩
  rw [hW0, hA] at h0
  have H0 := Lib.hid h0
  have HR := Lib.hid hR
  have HS := Lib.hid hS
  have HV := Lib.hid hV
  have HU := Lib.hid hU
  have HRL := Lib.hid hR.len
  have HSL := Lib.hid hS.len
  have HVL := Lib.hid hV.len
  have HUL := Lib.hid hU.len
  have hc1 := hR.cap
  have hc2 := hR.most
  have hc3 := hV.cap
  have hc4 := hV.most
  have hc5 := hU.cap
  have hc6 := hU.most
  have hc7 := hS.cap
  have hc8 := hS.most
  unfold maxLen at hc2 hc4 hc6 hc8
  have HLN := Lib.hid (@same_len V U R S)
  have HSV := Lib.hid (@same_vars V U R S)
  have HSR := Lib.hid (@same_rows V U R S)
  have HSY := Lib.hid (@same_yes V U R S)
  generalize sameRowsB V R U S = Z at HLN HSV HSR HSY ⊢
  have q0 : W0.cell? ⟨A, 0, none⟩ = some (.slice va n vc) := (blk_cell h0.one 0).trans rfl
  have q1 : W0.cell? ⟨A, 1, none⟩ = some (.slice ra m rc) := (blk_cell h0.one 1).trans rfl
  have q2 : W0.cell? ⟨A + 1, 0, none⟩ = some (.slice ua n2 uc) := (blk_cell h0.two 0).trans rfl
  have q3 : W0.cell? ⟨A + 1, 1, none⟩ = some (.slice sa m2 sc) := (blk_cell h0.two 1).trans rfl
  have HAE := Lib.hid hA
  have HW0 := Lib.hid hW0
  clear h0 hW0 hV hU hR hS hA
  by_cases hm : m = m2
  · subst hm
    have hne1 : ((m : Int) != (m : Int)) = false := bne_self_eq_false _
    by_cases hn : n = n2
    · subst hn
      have hne2 : ((n : Int) != (n : Int)) = false := bne_self_eq_false _
      go_enter Tryz.func22, Tryz.ntmps22
      go_wp2
      rw [HW0.out, HAE.out]
      clear q0 q1 q2 q3
      go_loopg [5] n (fun g i wr => ∃ k : Nat, i = .int .i64 k ∧ k + g = n ∧ Hid (AllR (fun x => decide (x ∈ U)) V k) ∧ Hid (Tabs2 w A (.slice va n vc) (.slice ra m rc) (.slice ua n uc) (.slice sa m sc) wr))
      case atStart => exact ⟨0, rfl, by omega, Lib.hid (all_start _ V), H0⟩
      case round =>
        obtain ⟨W1, rfl⟩ : ∃ W1, W1 = wr := ⟨_, rfl⟩
        obtain ⟨k, rfl, hkg, HA, HT⟩ := hrel
        have q0 : W1.cell? ⟨A, 0, none⟩ = some (.slice va n vc) := (blk_cell HT.out.one 0).trans rfl
        have q2 : W1.cell? ⟨A + 1, 0, none⟩ = some (.slice ua n uc) := (blk_cell HT.out.two 0).trans rfl
        have HBW := Lib.hid HT.out.below
        by_cases hk : k < n
        · obtain ⟨gg, rfl⟩ : ∃ gg, gk = gg + 1 := ⟨gk - 1, by omega⟩
          have hkV : k < V.length := by rw [HVL.out]; exact hk
          obtain ⟨g, o, ha, hgw, hcells⟩ := HV.out.cells (by omega)
          subst ha
          have e0 := regrown_cell (keptC (hcells k hkV) HBW.out hgw)
          have e1 := regrown_cell q0
          have e2 := regrown_cell q2
          have cI := fun d os => Calls.regrown_of ((InA_calls U V[k] ua n uc (grow (redrawn W1 d) os) ((HU.out.on HBW.out).on (below_regrown W1 d os))).mono fun e w' ⟨he, hw⟩ => (⟨he, by rw [hw]; exact Below.refl _ _⟩ : _ ∧ Below (grow (redrawn W1 d) os).heap.size (grow (redrawn W1 d) os) w'))
          have HNX := Lib.hid (fun h1 => all_next HA.out hkV h1)
          have HST := Lib.hid (fun h1 => all_stop HA.out hkV h1)
          have k0 : (0 : Int) ≤ (k : Int) := by omega
          have k1 : (k : Int) < (n : Int) := by omega
          clear hcells
          generalize V[k] = y at e0 cI HNX HST
          by_cases hin : y ∈ U
          · rw [decide_eq_true hin] at cI
            have HN2 := Lib.hid (HNX.out (decide_eq_true hin))
            clear HNX HST hin
            go_wp2_with fail
            refine wp_region_quiet_below (by kernel_rfl) (by kernel_rfl) ?_
            repeat (quiet_step (exact cI _ _))
            refine wpQuiet_nil ?_
            intro W2 hw'
            obtain ⟨⟨dq, osq⟩, hw''⟩ := hw'
            have HT2 := Lib.hid (HT.out.on (show Below W1.heap.size W1 W2 by rw [hw'']; exact below_regrown W1 dq osq))
            clear hw'' e0 e1 e2 cI q0 q2
            go_wp2
            go_roundg gg
            case measure => omega
            case rel => exact ⟨k + 1, by go_num, by omega, HN2, HT2⟩
          · rw [decide_eq_false hin] at cI
            have HE := Lib.hid (HSV.out (HST.out (decide_eq_false hin)))
            clear HNX HST hin
            go_wp2_with fail
            refine wp_region_quiet_below (by kernel_rfl) (by kernel_rfl) ?_
            repeat (quiet_step (exact cI _ _))
            refine wpQuiet_nil ?_
            intro W2 hw'
            obtain ⟨⟨dq, osq⟩, hw''⟩ := hw'
            have HT2 := Lib.hid (HT.out.on (show Below W1.heap.size W1 W2 by rw [hw'']; exact below_regrown W1 dq osq))
            clear hw'' e0 e1 e2 cI q0 q2
            go_wp2
            go_ret
            exact ⟨by rw [HE.out]; rfl, HT2.out.below⟩
        · have HNA := Lib.hid (all_end HA.out (by rw [HVL.out]; omega))
          have k1 : ¬ (k : Int) < (n : Int) := by omega
          go_wp2
          clear q0 q2 HBW HA
          go_loopg [6] m (fun g i wr => ∃ j : Nat, i = .int .i64 j ∧ j + g = m ∧ Hid (AllR (fun r => decide (timesP V R V r = timesP U S V r)) R j) ∧ Hid (Tabs2 w A (.slice va n vc) (.slice ra m rc) (.slice ua n uc) (.slice sa m sc) wr))
          case atStart => exact ⟨0, rfl, by omega, Lib.hid (all_start _ R), HT⟩
          case round =>
            obtain ⟨W2, rfl⟩ : ∃ W2, W2 = wr := ⟨_, rfl⟩
            obtain ⟨j, rfl, hjg, HA, HT2⟩ := hrel
            have q1 : W2.cell? ⟨A, 1, none⟩ = some (.slice ra m rc) := (blk_cell HT2.out.one 1).trans rfl
            have HBW := Lib.hid HT2.out.below
            by_cases hj : j < m
            · obtain ⟨gg, rfl⟩ : ∃ gg, gk = gg + 1 := ⟨gk - 1, by omega⟩
              have hjR : j < R.length := by rw [HRL.out]; exact hj
              obtain ⟨g, o, ha, hgw, hcells⟩ := HR.out.cells (by omega)
              subst ha
              obtain ⟨a', c', hcell, htrm⟩ := hcells j hjR
              have e0 := regrown_cell (keptC hcell HBW.out hgw)
              have e1 := regrown_cell q1
              have e2 := regrown_cell (show W2.cell? ⟨A, 0, none⟩ = some (.slice va n vc) from (blk_cell HT2.out.one 0).trans rfl)
              have e3 := regrown_cell (show W2.cell? ⟨A + 1, 0, none⟩ = some (.slice ua n uc) from (blk_cell HT2.out.two 0).trans rfl)
              have e4 := regrown_cell (show W2.cell? ⟨A + 1, 1, none⟩ = some (.slice sa m sc) from (blk_cell HT2.out.two 1).trans rfl)
              have cT1 := fun d os => Calls.regrown_of (times_calls V R V R[j] (.agg #[.slice va n vc, .slice (some ⟨g, o, none⟩) m rc]) va n vc a' R[j].length c' (grow (redrawn W2 d) os) ⟨va, n, vc, _, m, rc, rfl, (HV.out.on HBW.out).on (below_regrown W2 d os), (HR.out.on HBW.out).on (below_regrown W2 d os)⟩ ((HV.out.on HBW.out).on (below_regrown W2 d os)) ((htrm.on HBW.out).on (below_regrown W2 d os)))
              have cT2 := fun d os => Calls.regrown_of (times_calls U S V R[j] (.agg #[.slice ua n uc, .slice sa m sc]) va n vc a' R[j].length c' (grow (redrawn W2 d) os) ⟨ua, n, uc, sa, m, sc, rfl, (HU.out.on HBW.out).on (below_regrown W2 d os), (HS.out.on HBW.out).on (below_regrown W2 d os)⟩ ((HV.out.on HBW.out).on (below_regrown W2 d os)) ((htrm.on HBW.out).on (below_regrown W2 d os)))
              have HNX := Lib.hid (fun h1 => all_next HA.out hjR h1)
              have HST := Lib.hid (fun h1 => all_stop HA.out hjR h1)
              have k0 : (0 : Int) ≤ (j : Int) := by omega
              have k2 : (j : Int) < (m : Int) := by omega
              clear hcells hcell htrm
              generalize R[j].length = l at e0 cT1 cT2
              generalize timesP V R V R[j] = x1 at cT1 HNX HST
              generalize timesP U S V R[j] = x2 at cT2 HNX HST
              by_cases hx : x1 = x2
              · have HN2 := Lib.hid (HNX.out (decide_eq_true hx))
                have gx : ((x1 : Int) != (x2 : Int)) = false := by rw [hx]; exact bne_self_eq_false _
                clear HNX HST hx
                go_wp2_with fail
                refine wp_region_quiet_below (by kernel_rfl) (by kernel_rfl) ?_
                quiet_step (exact cT1 _ _)
                quiet_step (exact cT1 _ _)
                quiet_step (exact cT1 _ _)
                quiet_step (exact cT1 _ _)
                quiet_step (exact cT1 _ _)
                quiet_step (exact cT1 _ _)
                quiet_step (exact cT1 _ _)
                quiet_step (exact cT1 _ _)
                quiet_step (exact cT1 _ _)
                quiet_step (exact cT2 _ _)
                quiet_step (exact cT2 _ _)
                quiet_step (exact cT2 _ _)
                quiet_step (exact cT2 _ _)
                quiet_step (exact cT2 _ _)
                quiet_step (exact cT2 _ _)
                quiet_step (exact cT2 _ _)
                quiet_step (exact cT2 _ _)
                quiet_step (exact cT2 _ _)
                quiet_step (fail)
                refine wpQuiet_nil ?_
                intro W4 hw'
                obtain ⟨⟨dq, osq⟩, hw''⟩ := hw'
                have HT4 := Lib.hid (HT2.out.on (show Below W2.heap.size W2 W4 by rw [hw'']; exact below_regrown W2 dq osq))
                clear hw'' e0 e1 e2 e3 e4 cT1 cT2 q1
                go_wp2
                go_roundg gg
                case measure => omega
                case rel => exact ⟨j + 1, by go_num, by omega, HN2, HT4⟩
              · have HE := Lib.hid (HSR.out (HST.out (decide_eq_false hx)))
                have gx : ((x1 : Int) != (x2 : Int)) = true := bne_iff_ne.2 (by omega)
                clear HNX HST hx
                go_wp2_with fail
                refine wp_region_quiet_below (by kernel_rfl) (by kernel_rfl) ?_
                quiet_step (exact cT1 _ _)
                quiet_step (exact cT1 _ _)
                quiet_step (exact cT1 _ _)
                quiet_step (exact cT1 _ _)
                quiet_step (exact cT1 _ _)
                quiet_step (exact cT1 _ _)
                quiet_step (exact cT1 _ _)
                quiet_step (exact cT1 _ _)
                quiet_step (exact cT1 _ _)
                quiet_step (exact cT2 _ _)
                quiet_step (exact cT2 _ _)
                quiet_step (exact cT2 _ _)
                quiet_step (exact cT2 _ _)
                quiet_step (exact cT2 _ _)
                quiet_step (exact cT2 _ _)
                quiet_step (exact cT2 _ _)
                quiet_step (exact cT2 _ _)
                quiet_step (exact cT2 _ _)
                quiet_step (fail)
                refine wpQuiet_nil ?_
                intro W4 hw'
                obtain ⟨⟨dq, osq⟩, hw''⟩ := hw'
                have HT4 := Lib.hid (HT2.out.on (show Below W2.heap.size W2 W4 by rw [hw'']; exact below_regrown W2 dq osq))
                clear hw'' e0 e1 e2 e3 e4 cT1 cT2 q1
                go_wp2
                go_ret
                exact ⟨by rw [HE.out]; rfl, HT4.out.below⟩
            · have HE := Lib.hid (HSY.out (by rw [HRL.out, HSL.out]) (by rw [HVL.out, HUL.out]) HNA.out (all_end HA.out (by rw [HRL.out]; omega)))
              have k2 : ¬ (j : Int) < (m : Int) := by omega
              go_wp2
              go_ret
              exact ⟨by rw [HE.out]; rfl, HBW.out⟩
    · have HE := Lib.hid (HLN.out (.inr (by rw [HVL.out, HUL.out]; exact hn)))
      have hne2 : ((n : Int) != (n2 : Int)) = true := bne_iff_ne.2 (by omega)
      go_enter Tryz.func22, Tryz.ntmps22
      go_wp2
      rw [HW0.out]
      go_ret
      exact ⟨by rw [HE.out]; rfl, H0.out.below⟩
  · have HE := Lib.hid (HLN.out (.inl (by rw [HRL.out, HSL.out]; exact hm)))
    have hne1 : ((m : Int) != (m2 : Int)) = true := bne_iff_ne.2 (by omega)
    go_enter Tryz.func22, Tryz.ntmps22
    go_wp2
    rw [HW0.out]
    go_ret
    exact ⟨by rw [HE.out]; rfl, H0.out.below⟩

end Go.Proofs.YtdnfaoanaehjhaaGreatDoor
