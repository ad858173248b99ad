/- The document's SameTable, for any two tables; which tables are light; the statements' same. -/
import Derived.Test.YtkfemnjblbnclaaGreatDoorShpRefSame
import Derived.Lib.QuietBelow
namespace Go.Proofs.YtkfemnjblbnclaaGreatDoor
open Go.RowKit Go.Sort

theorem regrown_cell {W : World} {g o : Nat} {v : Value} (h : W.cell? ⟨g, o, none⟩ = some v) : ∀ d os, (grow (redrawn W d) os).cell? ⟨g, o, none⟩ = some v := fun d os => cell_regrown h d os
structure Tabs2 (w : World) (A : Nat) (v1 r1 v2 r2 : Value) (wr : World) : Prop where
  one : Blk wr A 31 #[v1, r1]
  two : Blk wr (A + 1) 31 #[v2, r2]
  below : Below w.heap.size w wr
theorem Tabs2.on {w wr wr' : World} {A : Nat} {v1 r1 v2 r2 : Value} (h : Tabs2 w A v1 r1 v2 r2 wr) (hb : Below wr.heap.size wr wr') : Tabs2 w A v1 r1 v2 r2 wr' := ⟨blk_on h.one hb (blk_lt h.one), blk_on h.two hb (blk_lt h.two), fb2 h.below hb (Nat.le_refl _)⟩
theorem tabs2_new (w : World) (v1 r1 v2 r2 : Value) : Tabs2 w w.heap.size v1 r1 v2 r2 ((w.alloc (.cells #[v1, r1] 31)).alloc (.cells #[v2, r2] 31)) := by
  refine ⟨blk_alloc (blk_new _ _ _) _, ?_, two_alloc _ _ _⟩
  have := blk_new (w.alloc (.cells #[v1, r1] 31)) 31 #[v2, r2]
  rw [World.size_alloc] at this
  exact this

set_option maxRecDepth 100000 in
set_option maxHeartbeats 4000000 in
theorem tabSame_calls (V U : List (List UInt8)) (R S : List RowL) (t1 t2 : Value) (w : World) (h1 : TabA w t1 V R) (h2 : TabA w t2 U S) :
    Calls Tryz.prog 24 #[t1, t2] w fun e w' => e = .returned (.bool (decide (V = U ∧ R = S))) ∧ Below w.heap.size w w' := by
  obtain ⟨va, n, vc, ra, m, rc, rfl, hV, hR⟩ := h1
  obtain ⟨ua, n2, uc, sa, m2, sc, rfl, hU, hS⟩ := h2
  obtain ⟨Z, hZ⟩ : ∃ Z, decide (V = U ∧ R = S) = Z := ⟨_, rfl⟩
  rw [hZ]
  have HZ := Lib.hid hZ
  clear hZ
  obtain ⟨A, hA⟩ : ∃ A, w.heap.size = A := ⟨_, rfl⟩
  have h0 := tabs2_new w (.slice va n vc) (.slice ra m rc) (.slice ua n2 uc) (.slice sa m2 sc)
  obtain ⟨W0, hW0⟩ : ∃ W0, (w.alloc (.cells #[.slice va n vc, .slice ra m rc] 31)).alloc (.cells #[.slice ua n2 uc, .slice sa m2 sc] 31) = W0 := ⟨_, rfl⟩
  rw [hW0, hA] at h0
  have H0 := Lib.hid h0
  have HR := Lib.hid hR
  have HS := Lib.hid hS
  have HRL := Lib.hid hR.len
  have HSL := Lib.hid hS.len
  have hc1 := hR.cap
  have hc2 := hR.most
  have hc3 := hS.cap
  have hc4 := hS.most
  unfold maxLen at hc2 hc4
  have HSM := Lib.hid (sameA_calls V U va ua n n2 vc uc W0 (hV.on h0.below) (hU.on h0.below))
  have q0 : W0.cell? ⟨A, 0, none⟩ = some (.slice va n vc) := (blk_cell h0.one 0).trans rfl
  have q1 : W0.cell? ⟨A + 1, 0, none⟩ = some (.slice ua n2 uc) := (blk_cell h0.two 0).trans rfl
  have hA2 : A + 1 < W0.heap.size := blk_lt h0.two
  have HAE := Lib.hid hA
  have HW0 := Lib.hid hW0
  clear h0 hW0 hV hU hR hS hA
  by_cases hv : V = U
  · rw [decide_eq_true hv] at HSM
    go_enter Tryz.func24, Tryz.ntmps24
    go_wp2_with fail
    rw [HW0.out, HAE.out]
    refine HSM.out.mono ?_
    rintro e w1 ⟨rfl, hb1⟩
    have HT1 := Lib.hid (H0.out.on hb1)
    have q2 : w1.cell? ⟨A, 1, none⟩ = some (.slice ra m rc) := (blk_cell HT1.out.one 1).trans rfl
    have q3 : w1.cell? ⟨A + 1, 1, none⟩ = some (.slice sa m2 sc) := (blk_cell HT1.out.two 1).trans rfl
    clear hb1 q0 q1 hA2 H0 HSM
    by_cases hm : m = m2
    · subst hm
      go_wp2
      go_loopg [5] m (fun g i wr => ∃ k : Nat, i = .int .i64 k ∧ k + g = m ∧ Hid (SameR R S k) ∧ Hid (Tabs2 w A (.slice va n vc) (.slice ra m rc) (.slice ua n2 uc) (.slice sa m sc) wr))
      case atStart => exact ⟨0, rfl, by omega, Lib.hid rfl, HT1⟩
      case round =>
        obtain ⟨W1, rfl⟩ : ∃ W1, W1 = wr := ⟨_, rfl⟩
        obtain ⟨k, rfl, hkg, HSR, HTW⟩ := hrel
        have q4 : W1.cell? ⟨A, 1, none⟩ = some (.slice ra m rc) := (blk_cell HTW.out.one 1).trans rfl
        by_cases hk : k < m
        · obtain ⟨gg, rfl⟩ : ∃ gg, gk = gg + 1 := ⟨gk - 1, by omega⟩
          have hkR : k < R.length := by rw [HRL.out]; exact hk
          have hkS : k < S.length := by rw [HSL.out]; exact hk
          have HBW := Lib.hid HTW.out.below
          obtain ⟨g, o, ha, hgw, hcells⟩ := (HR.out.on HBW.out).cells (by omega)
          obtain ⟨g', o', ha', hgw', hcells'⟩ := (HS.out.on HBW.out).cells (by omega)
          subst ha ha'
          obtain ⟨x1, y1, e1, f1⟩ := hcells k hkR
          obtain ⟨x2, y2, e2, f2⟩ := hcells' k hkS
          have cR := fun d os => Calls.regrown_of (rowSame_calls R[k] S[k] x1 x2 R[k].length S[k].length y1 y2 (grow (redrawn W1 d) os) (f1.on (below_regrown W1 d os)) (f2.on (below_regrown W1 d os)))
          have HNX := Lib.hid (fun h => sameR_next HSR.out hkR hkS h)
          have HNE := Lib.hid (show R[k] ≠ S[k] → Z = false from fun h => HZ.out.symm.trans <| decide_eq_false (fun e => h (by obtain ⟨_, rfl⟩ := e; rfl)))
          generalize R[k].length = l1 at e1 cR
          generalize S[k].length = l2 at e2 cR
          have r0 := regrown_cell q4
          have r1 := regrown_cell (show W1.cell? ⟨A + 1, 1, none⟩ = some (.slice (some ⟨g', o', none⟩) m sc) from (blk_cell HTW.out.two 1).trans rfl)
          have r2 := regrown_cell e1
          have r3 := regrown_cell e2
          have k0 : (0 : Int) ≤ (k : Int) := by omega
          have k1 : (k : Int) < (m : Int) := by omega
          clear hcells hcells' e1 e2 f1 f2
          by_cases he : R[k] = S[k]
          · have HN2 := Lib.hid (HNX.out he)
            rw [decide_eq_true he] at cR
            clear HNX HNE he
            go_wp2_with fail
            refine wp_region_quiet_below (by kernel_rfl) (by kernel_rfl) ?_
            repeat (quiet_step (exact cR _ _))
            refine wpQuiet_nil ?_
            intro W2 hw'
            obtain ⟨⟨dq, osq⟩, hw''⟩ := hw'
            have HT2 := Lib.hid (HTW.out.on (show Below W1.heap.size W1 W2 by rw [hw'']; exact below_regrown W1 dq osq))
            clear hw'' r0 r1 r2 r3 cR q4
            go_wp2
            go_roundg gg
            case measure => omega
            case rel => exact ⟨k + 1, by go_num, by omega, HN2, HT2⟩
          · have HE := Lib.hid (HNE.out he)
            rw [decide_eq_false he] at cR
            clear HNX HNE he
            go_wp2_with fail
            refine wp_region_quiet_below (by kernel_rfl) (by kernel_rfl) ?_
            repeat (quiet_step (exact cR _ _))
            refine wpQuiet_nil ?_
            intro W2 hw'
            obtain ⟨⟨dq, osq⟩, hw''⟩ := hw'
            have HT2 := Lib.hid (HTW.out.on (show Below W1.heap.size W1 W2 by rw [hw'']; exact below_regrown W1 dq osq))
            clear hw'' r0 r1 r2 r3 cR q4
            go_wp2
            go_ret
            exact ⟨by rw [HE.out]; rfl, HT2.out.below⟩
        · have HE := Lib.hid (show Z = true from HZ.out.symm.trans <| decide_eq_true ⟨hv, sameR_end HSR.out (by rw [HRL.out]; omega) (by rw [HSL.out]; omega)⟩)
          have k1 : ¬ (k : Int) < (m : Int) := by omega
          go_wp2
          go_ret
          exact ⟨by rw [HE.out]; rfl, HTW.out.below⟩
    · have HE := Lib.hid (show Z = false from HZ.out.symm.trans <| decide_eq_false (fun e => hm (by rw [← HRL.out, ← HSL.out, e.2])))
      have hne : ((m : Int) != (m2 : Int)) = true := bne_iff_ne.2 (by omega)
      go_wp2
      go_ret
      exact ⟨by rw [HE.out]; rfl, HT1.out.below⟩
  · rw [decide_eq_false hv] at HSM
    have HE := Lib.hid (show Z = false from HZ.out.symm.trans <| decide_eq_false (fun e => hv e.1))
    go_enter Tryz.func24, Tryz.ntmps24
    go_wp2_with fail
    rw [HW0.out, HAE.out]
    refine HSM.out.mono ?_
    rintro e w1 ⟨rfl, hb1⟩
    have HT1 := Lib.hid (H0.out.on hb1)
    clear hb1
    go_wp2
    go_ret
    exact ⟨by rw [HE.out]; rfl, HT1.out.below⟩

def lightB (V : List (List UInt8)) (R : List RowL) : Bool := decide (R.length ≤ 40) && decide (V.length ≤ 33)
set_option maxRecDepth 100000 in
theorem light_calls (V : List (List UInt8)) (R : List RowL) (tv : Value) (w : World) (h : TabA w tv V R) : Calls Tryz.prog 15 #[tv] w fun e w' => e = .returned (.bool (lightB V R)) ∧ Below w.heap.size w w' := by
  obtain ⟨va, n, vc, ra, m, rc, rfl, hV, hR⟩ := h
  have HE := Lib.hid (show lightB V R = (decide (m ≤ 40) && decide (n ≤ 33)) by unfold lightB; rw [hV.len, hR.len])
  clear hV hR
  generalize lightB V R = b at HE ⊢
  by_cases h1 : m ≤ 40
  · have g1 : (m : Int) ≤ 40 := by omega
    by_cases h2 : n ≤ 33
    · have g2 : (n : Int) ≤ 33 := by omega
      rw [decide_eq_true h1, decide_eq_true h2] at HE
      go_enter Tryz.func15, Tryz.ntmps15
      go_wp2
      go_ret
      exact ⟨by rw [HE.out]; rfl, box_below _ _⟩
    · have g2 : ¬ (n : Int) ≤ 33 := by omega
      rw [decide_eq_true h1, decide_eq_false h2] at HE
      go_enter Tryz.func15, Tryz.ntmps15
      go_wp2
      go_ret
      exact ⟨by rw [HE.out]; rfl, box_below _ _⟩
  · have g1 : ¬ (m : Int) ≤ 40 := by omega
    rw [decide_eq_false h1, Bool.false_and] at HE
    go_enter Tryz.func15, Tryz.ntmps15
    go_wp2
    go_ret
    exact ⟨by rw [HE.out]; rfl, box_below _ _⟩

end Go.Proofs.YtkfemnjblbnclaaGreatDoor
