/- ShpBound, ShpTimes, ShpSameRows, ShpSamePlain, ShpTurn, put together. -/
import Derived.Test.YtkfemnjblbnclaaGreatDoorGSameT
import Derived.Test.YtkfemnjblbnclaaGreatDoorGIds
import Derived.Test.YtkfemnjblbnclaaGreatDoorShpDistinct

/- What a variable is bound to in a row, by the document. -/
namespace Go.Proofs.YtkfemnjblbnclaaGreatDoor
open Go.RowKit

def boundP (V : List (List UInt8)) (r : RowL) (x : List UInt8) : TermL := match placeP V x with
  | some i => r.getD i nilT
  | none => nilT
theorem bound_at {V : List (List UInt8)} {r : RowL} {x : List UInt8} {k : Nat} (hk : k < V.length) (hr : k < r.length) (hx : V[k] = x) (hn : ¬ x ∈ V.take k) : boundP V r x = r[k] := by
  have hp : placeP V x = some k := place_first hk hx (fun j hj e => hn (by rw [← e]; exact List.mem_iff_getElem.2 ⟨j, by rw [List.length_take]; omega, by rw [List.getElem_take]⟩))
  unfold boundP
  rw [hp]
  dsimp only
  rw [List.getD_eq_getElem?_getD, List.getElem?_eq_getElem hr]
  rfl
theorem bound_out {V : List (List UInt8)} {r : RowL} {x : List UInt8} {k : Nat} (hn : ¬ x ∈ V.take k) (h : V.length ≤ k ∨ r.length ≤ k) : boundP V r x = nilT := by
  unfold boundP
  cases hp : placeP V x with
  | none => rfl
  | some i =>
    obtain ⟨hi, e⟩ := place_lt hp
    dsimp only
    have hki : k ≤ i := Nat.le_of_not_lt (fun c => hn (by rw [← e]; exact List.mem_iff_getElem.2 ⟨i, by rw [List.length_take]; omega, by rw [List.getElem_take]⟩))
    rw [List.getD_eq_getElem?_getD, List.getElem?_eq_none (by omega)]
    rfl

set_option maxRecDepth 100000 in
set_option maxHeartbeats 4000000 in
theorem bound_calls (x : List UInt8) (V : List (List UInt8)) (r : RowL) (va : Option Addr) (n vc : Nat) (ra : Option Addr) (q rc : Nat) (w : World) (hV : TxtA w va n vc V) (hr : TrmA w ra q rc r) :
    Calls Tryz.prog 47 #[.string (bs x), .slice va n vc, .slice ra q rc] w fun e w' => e = .returned (boundP V r x).v ∧ Below w.heap.size w w' := by
  have HV := Lib.hid hV
  have HR := Lib.hid hr
  have HVL := Lib.hid hV.len
  have HRL := Lib.hid hr.len
  have c1 := hV.cap
  have c2 := hV.most
  have c3 := hr.cap
  have c4 := hr.most
  unfold maxLen at c2 c4
  have HAT := Lib.hid (fun k (hk : k < V.length) (hq : k < r.length) => bound_at (x := x) hk hq)
  have HOUT := Lib.hid (fun k => bound_out (V := V) (r := r) (x := x) (k := k))
  generalize boundP V r x = Z at HAT HOUT ⊢
  clear hV hr
  go_enter Tryz.func47, Tryz.ntmps47
  go_wp2
  go_loop [7] (fun i => ∃ k : Nat, k ≤ n ∧ i = .int .i64 k ∧ Hid (¬ x ∈ V.take k)) (fun i => n - (intOf i).toNat)
  case atStart => exact ⟨0, Nat.zero_le _, rfl, by show ¬ _; simp⟩
  case round =>
    obtain ⟨k, hk, rfl, hno⟩ := hrel
    have k0 : (0 : Int) ≤ (k : Int) := by omega
    by_cases hlt : k < n
    · have k1 : (k : Int) < (n : Int) := by omega
      by_cases hlq : k < q
      · have k2 : (k : Int) < (q : Int) := by omega
        have hkV : k < V.length := by rw [HVL.out]; exact hlt
        have hkR : k < r.length := by rw [HRL.out]; exact hlq
        obtain ⟨g, o, ha, hgw, hcells⟩ := HV.out.cells (by omega)
        obtain ⟨g', o', ha', hgw', hcells'⟩ := HR.out.cells (by omega)
        subst ha ha'
        have c0 := hcells k hkV
        obtain ⟨d0, d1, d2, d3⟩ := hcells' k hkR
        have HA2 := Lib.hid (HAT.out k hkV hkR)
        have hts : x ∈ V.take (k + 1) ↔ x ∈ V.take k ∨ x = V[k] := by rw [List.take_succ_eq_append_getElem hkV, List.mem_append, List.mem_singleton]
        clear hcells hcells' HAT
        generalize V[k] = y at c0 HA2 hts
        generalize r[k] = t at d0 d1 d2 d3 HA2
        obtain ⟨tk, tx, ty, tz⟩ := t
        dsimp only at d0 d1 d2 d3
        by_cases he : y = x
        · have HE := Lib.hid (HA2.out he hno.out)
          have heq : (bs y).toList = (bs x).toList := by rw [he]
          clear hts HA2 HOUT he
          go_wp2
          refine bodyPost_ret (v := .agg #[.int .i64 tk, .string (bs tx), .string (bs ty), .string (bs tz)]) (by simp [results, Tryz.results47, go_sem]) rfl ⟨by rw [HE.out]; rfl, ?_⟩
          repeat (with_reducible (first | exact box_below _ _ | refine Below.setCell ?_ (by simp) _))
        · have HNX := Lib.hid (show ¬ x ∈ V.take (k + 1) from fun c => (hts.1 c).elim hno.out (fun e => he e.symm))
          have hne : ((bs y).toList == (bs x).toList) = false := by rw [bs_toList, bs_toList]; exact beq_eq_false_iff_ne.2 he
          clear hts HA2 HOUT he
          go_wp2
          exact ⟨⟨k + 1, by omega, by go_num, HNX⟩, by simp [intOf]; omega⟩
      · have k2 : ¬ (k : Int) < (q : Int) := by omega
        have HE := Lib.hid (HOUT.out k hno.out (.inr (by rw [HRL.out]; omega)))
        clear HOUT HAT
        go_wp2
        refine bodyPost_ret (v := nilT.v) (by simp [results, Tryz.results47, go_sem]; rfl) rfl ⟨by rw [HE.out], ?_⟩
        repeat (with_reducible (first | exact box_below _ _ | refine Below.setCell ?_ (by simp) _))
    · have k1 : ¬ (k : Int) < (n : Int) := by omega
      have HE := Lib.hid (HOUT.out k hno.out (.inl (by rw [HVL.out]; omega)))
      clear HOUT HAT
      go_wp2
      refine bodyPost_ret (v := nilT.v) (by simp [results, Tryz.results47, go_sem]; rfl) rfl ⟨by rw [HE.out], ?_⟩
      repeat (with_reducible (first | exact box_below _ _ | refine Below.setCell ?_ (by simp) _))

end Go.Proofs.YtkfemnjblbnclaaGreatDoor

/- How many rows of a table are the same as one, by variables: the document's Times. -/
namespace Go.Proofs.YtkfemnjblbnclaaGreatDoor
open Go.RowKit Go.Sort

def hitP (U : List (List UInt8)) (s : RowL) (p : List UInt8 × TermL) : Bool := decide (boundP U s p.1 = p.2)
def matchB (U : List (List UInt8)) (s : RowL) (V : List (List UInt8)) (r : RowL) (k : Nat) : Bool := ((List.zip V r).take k).all (hitP U s)
def hitsB (U : List (List UInt8)) (s : RowL) (V : List (List UInt8)) (r : RowL) : Bool := (List.zip V r).all (hitP U s)
def timesP (U : List (List UInt8)) (S : List RowL) (V : List (List UInt8)) (r : RowL) : Nat := S.countP (fun s => hitsB U s V r)
theorem match_next {U : List (List UInt8)} {s : RowL} {V : List (List UInt8)} {r : RowL} {k : Nat} (hV : k < V.length) (hr : k < r.length) : matchB U s V r (k + 1) = (matchB U s V r k && decide (boundP U s V[k] = r[k])) := by
  unfold matchB
  have hl : k < (List.zip V r).length := by rw [List.length_zip]; omega
  rw [List.take_succ_eq_append_getElem hl, List.all_append]
  simp [hitP]
theorem match_end {U : List (List UInt8)} {s : RowL} {V : List (List UInt8)} {r : RowL} {k : Nat} (h : V.length ≤ k ∨ r.length ≤ k) : matchB U s V r k = hitsB U s V r := by
  unfold matchB hitsB
  rw [List.take_of_length_le (by rw [List.length_zip]; omega)]
theorem times_next {U : List (List UInt8)} {S : List RowL} {V : List (List UInt8)} {r : RowL} {i : Nat} (hi : i < S.length) : timesP U (S.take (i + 1)) V r = timesP U (S.take i) V r + if hitsB U S[i] V r then 1 else 0 := by
  unfold timesP
  rw [List.take_succ_eq_append_getElem hi, List.countP_append, List.countP_singleton]
theorem times_le (U : List (List UInt8)) (S : List RowL) (V : List (List UInt8)) (r : RowL) (i : Nat) : timesP U (S.take i) V r ≤ i := by
  unfold timesP
  exact Nat.le_trans List.countP_le_length (by rw [List.length_take]; omega)

set_option maxRecDepth 100000 in
set_option maxHeartbeats 8000000 in
theorem times_calls (U : List (List UInt8)) (S : List RowL) (V : List (List UInt8)) (r : RowL) (tv : Value) (va : Option Addr) (n vc : Nat) (ra : Option Addr) (q rc : Nat) (w : World) (ht : TabA w tv U S) (hV : TxtA w va n vc V) (hr : TrmA w ra q rc r) :
    Calls Tryz.prog 57 #[tv, .slice va n vc, .slice ra q rc] w fun e w' => e = .returned (.int .i64 (timesP U S V r)) ∧ Below w.heap.size w w' := by
  obtain ⟨ua, un, uc, sa, m, sc, rfl, hU, hS⟩ := ht
  have HU := Lib.hid hU
  have HS := Lib.hid hS
  have HV := Lib.hid hV
  have HR := Lib.hid hr
  have HSL := Lib.hid hS.len
  have HVL := Lib.hid hV.len
  have HRL := Lib.hid hr.len
  have c1 := hV.cap
  have c2 := hV.most
  have c3 := hr.cap
  have c4 := hr.most
  have c5 := hS.cap
  have c6 := hS.most
  unfold maxLen at c2 c4 c6
  have HT0 := Lib.hid (TabIn.new w (.slice ua un uc) (.slice sa m sc) 31)
  have HE0 := Lib.hid (show timesP U S V r = timesP U (S.take m) V r by rw [List.take_of_length_le (by rw [hS.len]; exact Nat.le_refl _)])
  rw [HE0.out]
  clear hU hS hV hr HE0
  go_enter Tryz.func57, Tryz.ntmps57
  go_wp2
  go_loopg [7, 8, 9, 10] m (fun g c i _ _ wr => ∃ k : Nat, i = .int .i64 k ∧ k + g = m ∧ c = .int .i64 (timesP U (S.take k) V r) ∧ Hid (TabIn w (.slice ua un uc) (.slice sa m sc) wr))
  case atStart => exact ⟨0, rfl, by omega, rfl, HT0⟩
  case round =>
    obtain ⟨W1, rfl⟩ : ∃ W1, W1 = wr := ⟨_, rfl⟩
    obtain ⟨k, rfl, hkg, rfl, HT⟩ := hrel
    obtain ⟨t0, t1, hbW, hXW⟩ := HT.out
    have HBW := Lib.hid hbW
    clear hbW
    by_cases hk : k < m
    · obtain ⟨gg, rfl⟩ : ∃ gg, gk = gg + 1 := ⟨gk - 1, by omega⟩
      have hkS : k < S.length := by rw [HSL.out]; exact hk
      have HTN := Lib.hid (times_next (U := U) (V := V) (r := r) hkS)
      have HTL := Lib.hid (times_le U S V r k)
      obtain ⟨g, o, ha, hgw, hcells⟩ := HS.out.cells (by omega)
      subst ha
      obtain ⟨a', c', hcell, htrm⟩ := hcells k hkS
      have HSR := Lib.hid htrm
      have HSC := Lib.hid hcell
      clear hcells hcell htrm
      generalize S[k] = s at HSR HSC HTN
      obtain ⟨l, hl⟩ : ∃ l, s.length = l := ⟨_, rfl⟩
      rw [hl] at HSR HSC
      clear hl
      obtain ⟨ct, hct⟩ : ∃ ct, timesP U (S.take k) V r = ct := ⟨_, rfl⟩
      rw [hct] at HTN HTL ⊢
      clear hct
      have hct2 : ct ≤ k := HTL.out
      have k0 : (0 : Int) ≤ (k : Int) := by omega
      have k1 : (k : Int) < (m : Int) := by omega
      go_wp2
      clear t0 t1 hXW
      go_loopg [9, 10] n (fun gh b i wr => ∃ j : Nat, i = .int .i64 j ∧ j + gh = n ∧ b = .bool (matchB U s V r j) ∧ Hid (TabIn w (.slice ua un uc) (.slice (some ⟨g, o, none⟩) m sc) wr))
      case atStart => exact ⟨0, rfl, by omega, rfl, HT⟩
      case round =>
        obtain ⟨W2, rfl⟩ : ∃ W2, W2 = wr := ⟨_, rfl⟩
        obtain ⟨j, rfl, hjg, rfl, HT2⟩ := hrel
        obtain ⟨t0, t1, hbW, hXW⟩ := HT2.out
        have HBW2 := Lib.hid hbW
        clear hbW
        have hmt : matchB U s V r j = true ∨ matchB U s V r j = false := by cases matchB U s V r j <;> simp
        by_cases hjn : j < n ∧ j < q
        · obtain ⟨hj1, hj2⟩ := hjn
          obtain ⟨hh, rfl⟩ : ∃ hh, gk = hh + 1 := ⟨gk - 1, by omega⟩
          have hjV : j < V.length := by rw [HVL.out]; exact hj1
          have hjR : j < r.length := by rw [HRL.out]; exact hj2
          have HMN := Lib.hid (match_next (U := U) (s := s) hjV hjR)
          obtain ⟨g1, o1, ha1, hgw1, hcells1⟩ := HV.out.cells (by omega)
          obtain ⟨g2, o2, ha2, hgw2, hcells2⟩ := HR.out.cells (by omega)
          subst ha1 ha2
          have cB := fun d os => Calls.regrown_of (bound_calls V[j] U s ua un uc a' l c' (grow (redrawn W2 d) os) ((HU.out.on HBW2.out).on (below_regrown W2 d os)) ((HSR.out.on HBW2.out).on (below_regrown W2 d os)))
          have e0 := regrown_cell (keptC (hcells1 j hjV) HBW2.out hgw1)
          obtain ⟨d0, d1, d2, d3⟩ := (hcells2 j hjR).on HBW2.out hgw2
          have e1 := regrown_cell (keptC HSC.out HBW2.out hgw)
          have e2 := regrown_cell t0
          have e3 := regrown_cell t1
          clear hcells1 hcells2
          generalize V[j] = y at cB e0 HMN
          generalize r[j] = t at d0 d1 d2 d3 HMN
          generalize boundP U s y = z at cB HMN
          have HEQ : ∀ W, (Op.equalIn 10000 23 z.v t.v).run Tryz.prog W = .ok (decide (z = t)) W := fun W => by
            have := eq_term 9998 z t W
            rw [teq_is] at this
            exact this
          obtain ⟨E, hE⟩ : ∃ E, decide (z = t) = E := ⟨_, rfl⟩
          rw [hE] at HEQ HMN
          clear hE
          obtain ⟨tk, tx, ty, tz⟩ := t
          obtain ⟨zk, zx, zy, zz⟩ := z
          simp only [TermL.v] at HEQ cB
          dsimp only at d0 d1 d2 d3
          have f0 := regrown_cell d0
          have f1 := regrown_cell d1
          have f2 := regrown_cell d2
          have f3 := regrown_cell d3
          have j0 : (0 : Int) ≤ (j : Int) := by omega
          have j1 : (j : Int) < (n : Int) := by omega
          have j2 : (j : Int) < (q : Int) := by omega
          clear d0 d1 d2 d3
          rcases hmt with hmt | hmt
          · rw [hmt] at HMN ⊢
            clear hmt
            go_wp2_with fail
            refine wp_region_quiet_below (by kernel_rfl) (by kernel_rfl) ?_
            quiet_step (exact cB _ _)
            quiet_step (exact cB _ _)
            quiet_step (exact cB _ _)
            quiet_step (exact cB _ _)
            quiet_step (exact cB _ _)
            quiet_step (exact cB _ _)
            quiet_step (exact cB _ _)
            quiet_step (exact cB _ _)
            quiet_step (exact cB _ _)
            quiet_step (exact cB _ _)
            quiet_step (exact cB _ _)
            quiet_step (exact cB _ _)
            quiet_step (exact cB _ _)
            quiet_step (exact cB _ _)
            quiet_step (fail)
            quiet_step (fail)
            quiet_step (fail)
            quiet_step (fail)
            quiet_step (fail)
            quiet_step (fail)
            quiet_step (fail)
            refine wpQuiet_nil ?_
            intro W4 hw'
            obtain ⟨⟨dq, osq⟩, hw''⟩ := hw'
            have HT4 := Lib.hid (HT2.out.on (show Below W2.heap.size W2 W4 by rw [hw'']; exact below_regrown W2 dq osq))
            clear hw'' e0 e1 e2 e3 f0 f1 f2 f3 cB t0 t1 HEQ
            go_wp2
            go_roundg hh
            case measure => omega
            case rel => exact ⟨j + 1, by go_num, by omega, by rw [HMN.out]; rfl, HT4⟩
          · rw [hmt] at HMN ⊢
            clear hmt
            go_wp2_with fail
            refine wp_region_quiet_below (by kernel_rfl) (by kernel_rfl) ?_
            quiet_step (fail)
            quiet_step (fail)
            repeat go_big_quiet_skip
            quiet_step (fail)
            quiet_step (fail)
            refine wpQuiet_nil ?_
            intro W4 hw'
            obtain ⟨⟨dq, osq⟩, hw''⟩ := hw'
            have HT4 := Lib.hid (HT2.out.on (show Below W2.heap.size W2 W4 by rw [hw'']; exact below_regrown W2 dq osq))
            clear hw'' e0 e1 e2 e3 f0 f1 f2 f3 cB t0 t1 HEQ
            go_wp2
            go_roundg hh
            case measure => omega
            case rel => exact ⟨j + 1, by go_num, by omega, by rw [HMN.out]; rfl, HT4⟩
        · have HME := Lib.hid (match_end (U := U) (s := s) (V := V) (r := r) (k := j) (by have := HVL.out; have := HRL.out; omega))
          rw [HME.out] at hmt ⊢
          have e1 := keptC HSC.out HBW2.out hgw
          have j0 : (0 : Int) ≤ (j : Int) := by omega
          rcases (show n ≤ j ∨ (j < n ∧ q ≤ j) by omega) with h1 | ⟨h1, h2⟩
          · have j1 : ¬ (j : Int) < (n : Int) := by omega
            rcases hmt with hmt | hmt
            all_goals
              rw [hmt] at HTN ⊢
              clear hmt HME
              go_wp2
              go_roundg gg
              case measure => omega
              case rel => exact ⟨k + 1, by go_num, by omega, by rw [HTN.out]; rfl, HT2⟩
          · have j1 : (j : Int) < (n : Int) := by omega
            have j2 : ¬ (j : Int) < (q : Int) := by omega
            rcases hmt with hmt | hmt
            all_goals
              rw [hmt] at HTN ⊢
              clear hmt HME
              go_wp2
              go_roundg gg
              case measure => omega
              case rel => exact ⟨k + 1, by go_num, by omega, by rw [HTN.out]; rfl, HT2⟩
    · have hkm : k = m := by omega
      have k1 : ¬ (k : Int) < (m : Int) := by omega
      go_wp2
      go_ret
      exact ⟨ret_int (by first | rfl | rw [hkm]), HBW.out⟩

end Go.Proofs.YtkfemnjblbnclaaGreatDoor

/- Have two tables the same variables and rows, each as often: the document's SameRows. -/
namespace Go.Proofs.YtkfemnjblbnclaaGreatDoor
open Go.RowKit Go.Sort

def sameRowsB (V : List (List UInt8)) (R : List RowL) (U : List (List UInt8)) (S : List RowL) : Bool := decide (R.length = S.length) && decide (V.length = U.length) && V.all (fun x => decide (x ∈ U)) && R.all (fun r => decide (timesP V R V r = timesP U S V r))
theorem same_len {V U : List (List UInt8)} {R S : List RowL} (h : R.length ≠ S.length ∨ V.length ≠ U.length) : sameRowsB V R U S = false := by
  unfold sameRowsB
  rcases h with h | h
  · rw [decide_eq_false h]; rfl
  · rw [decide_eq_false (p := V.length = U.length) h]; simp
theorem same_vars {V U : List (List UInt8)} {R S : List RowL} (h : (V.all fun x => decide (x ∈ U)) = false) : sameRowsB V R U S = false := by unfold sameRowsB; rw [h]; simp
theorem same_rows {V U : List (List UInt8)} {R S : List RowL} (h : (R.all fun r => decide (timesP V R V r = timesP U S V r)) = false) : sameRowsB V R U S = false := by unfold sameRowsB; rw [h]; simp
theorem same_yes {V U : List (List UInt8)} {R S : List RowL} (h1 : R.length = S.length) (h2 : V.length = U.length) (h3 : (V.all fun x => decide (x ∈ U)) = true) (h4 : (R.all fun r => decide (timesP V R V r = timesP U S V r)) = true) : sameRowsB V R U S = true := by unfold sameRowsB; rw [h3, h4, decide_eq_true h1, decide_eq_true h2]; rfl

set_option maxRecDepth 100000 in
set_option maxHeartbeats 8000000 in
theorem sameRows_calls (V : List (List UInt8)) (R : List RowL) (U : List (List UInt8)) (S : List RowL) (t1 t2 : Value) (w : World) (h1 : TabA w t1 V R) (h2 : TabA w t2 U S) :
    Calls Tryz.prog 30 #[t1, t2] w fun e w' => e = .returned (.bool (sameRowsB V R U S)) ∧ Below w.heap.size w w' := by
  obtain ⟨va, n, vc, ra, m, rc, rfl, hV, hR⟩ := h1
  obtain ⟨ua, n2, uc, sa, m2, sc, rfl, hU, hS⟩ := h2
  obtain ⟨A, hA⟩ : ∃ A, w.heap.size = A := ⟨_, rfl⟩
  have h0 := tabs2_new w (.slice va n vc) (.slice ra m rc) (.slice ua n2 uc) (.slice sa m2 sc)
  obtain ⟨W0, hW0⟩ : ∃ W0, (w.alloc (.cells #[.slice va n vc, .slice ra m rc] 31)).alloc (.cells #[.slice ua n2 uc, .slice sa m2 sc] 31) = W0 := ⟨_, rfl⟩
  rw [hW0, hA] at h0
  have H0 := Lib.hid h0
  have HR := Lib.hid hR
  have HS := Lib.hid hS
  have HV := Lib.hid hV
  have HU := Lib.hid hU
  have HRL := Lib.hid hR.len
  have HSL := Lib.hid hS.len
  have HVL := Lib.hid hV.len
  have HUL := Lib.hid hU.len
  have hc1 := hR.cap
  have hc2 := hR.most
  have hc3 := hV.cap
  have hc4 := hV.most
  have hc5 := hU.cap
  have hc6 := hU.most
  have hc7 := hS.cap
  have hc8 := hS.most
  unfold maxLen at hc2 hc4 hc6 hc8
  have HLN := Lib.hid (@same_len V U R S)
  have HSV := Lib.hid (@same_vars V U R S)
  have HSR := Lib.hid (@same_rows V U R S)
  have HSY := Lib.hid (@same_yes V U R S)
  generalize sameRowsB V R U S = Z at HLN HSV HSR HSY ⊢
  have q0 : W0.cell? ⟨A, 0, none⟩ = some (.slice va n vc) := (blk_cell h0.one 0).trans rfl
  have q1 : W0.cell? ⟨A, 1, none⟩ = some (.slice ra m rc) := (blk_cell h0.one 1).trans rfl
  have q2 : W0.cell? ⟨A + 1, 0, none⟩ = some (.slice ua n2 uc) := (blk_cell h0.two 0).trans rfl
  have q3 : W0.cell? ⟨A + 1, 1, none⟩ = some (.slice sa m2 sc) := (blk_cell h0.two 1).trans rfl
  have HAE := Lib.hid hA
  have HW0 := Lib.hid hW0
  clear h0 hW0 hV hU hR hS hA
  by_cases hm : m = m2
  · subst hm
    have hne1 : ((m : Int) != (m : Int)) = false := bne_self_eq_false _
    by_cases hn : n = n2
    · subst hn
      have hne2 : ((n : Int) != (n : Int)) = false := bne_self_eq_false _
      go_enter Tryz.func30, Tryz.ntmps30
      go_wp2
      rw [HW0.out, HAE.out]
      clear q0 q1 q2 q3
      go_loopg [5] n (fun g i wr => ∃ k : Nat, i = .int .i64 k ∧ k + g = n ∧ Hid (AllR (fun x => decide (x ∈ U)) V k) ∧ Hid (Tabs2 w A (.slice va n vc) (.slice ra m rc) (.slice ua n uc) (.slice sa m sc) wr))
      case atStart => exact ⟨0, rfl, by omega, Lib.hid (all_start _ V), H0⟩
      case round =>
        obtain ⟨W1, rfl⟩ : ∃ W1, W1 = wr := ⟨_, rfl⟩
        obtain ⟨k, rfl, hkg, HA, HT⟩ := hrel
        have q0 : W1.cell? ⟨A, 0, none⟩ = some (.slice va n vc) := (blk_cell HT.out.one 0).trans rfl
        have q2 : W1.cell? ⟨A + 1, 0, none⟩ = some (.slice ua n uc) := (blk_cell HT.out.two 0).trans rfl
        have HBW := Lib.hid HT.out.below
        by_cases hk : k < n
        · obtain ⟨gg, rfl⟩ : ∃ gg, gk = gg + 1 := ⟨gk - 1, by omega⟩
          have hkV : k < V.length := by rw [HVL.out]; exact hk
          obtain ⟨g, o, ha, hgw, hcells⟩ := HV.out.cells (by omega)
          subst ha
          have e0 := regrown_cell (keptC (hcells k hkV) HBW.out hgw)
          have e1 := regrown_cell q0
          have e2 := regrown_cell q2
          have cI := fun d os => Calls.regrown_of ((InA_calls U V[k] ua n uc (grow (redrawn W1 d) os) ((HU.out.on HBW.out).on (below_regrown W1 d os))).mono fun e w' ⟨he, hw⟩ => (⟨he, by rw [hw]; exact Below.refl _ _⟩ : _ ∧ Below (grow (redrawn W1 d) os).heap.size (grow (redrawn W1 d) os) w'))
          have HNX := Lib.hid (fun h1 => all_next HA.out hkV h1)
          have HST := Lib.hid (fun h1 => all_stop HA.out hkV h1)
          have k0 : (0 : Int) ≤ (k : Int) := by omega
          have k1 : (k : Int) < (n : Int) := by omega
          clear hcells
          generalize V[k] = y at e0 cI HNX HST
          by_cases hin : y ∈ U
          · rw [decide_eq_true hin] at cI
            have HN2 := Lib.hid (HNX.out (decide_eq_true hin))
            clear HNX HST hin
            go_wp2_with fail
            refine wp_region_quiet_below (by kernel_rfl) (by kernel_rfl) ?_
            repeat (quiet_step (exact cI _ _))
            refine wpQuiet_nil ?_
            intro W2 hw'
            obtain ⟨⟨dq, osq⟩, hw''⟩ := hw'
            have HT2 := Lib.hid (HT.out.on (show Below W1.heap.size W1 W2 by rw [hw'']; exact below_regrown W1 dq osq))
            clear hw'' e0 e1 e2 cI q0 q2
            go_wp2
            go_roundg gg
            case measure => omega
            case rel => exact ⟨k + 1, by go_num, by omega, HN2, HT2⟩
          · rw [decide_eq_false hin] at cI
            have HE := Lib.hid (HSV.out (HST.out (decide_eq_false hin)))
            clear HNX HST hin
            go_wp2_with fail
            refine wp_region_quiet_below (by kernel_rfl) (by kernel_rfl) ?_
            repeat (quiet_step (exact cI _ _))
            refine wpQuiet_nil ?_
            intro W2 hw'
            obtain ⟨⟨dq, osq⟩, hw''⟩ := hw'
            have HT2 := Lib.hid (HT.out.on (show Below W1.heap.size W1 W2 by rw [hw'']; exact below_regrown W1 dq osq))
            clear hw'' e0 e1 e2 cI q0 q2
            go_wp2
            go_ret
            exact ⟨by rw [HE.out]; rfl, HT2.out.below⟩
        · have HNA := Lib.hid (all_end HA.out (by rw [HVL.out]; omega))
          have k1 : ¬ (k : Int) < (n : Int) := by omega
          go_wp2
          clear q0 q2 HBW HA
          go_loopg [6] m (fun g i wr => ∃ j : Nat, i = .int .i64 j ∧ j + g = m ∧ Hid (AllR (fun r => decide (timesP V R V r = timesP U S V r)) R j) ∧ Hid (Tabs2 w A (.slice va n vc) (.slice ra m rc) (.slice ua n uc) (.slice sa m sc) wr))
          case atStart => exact ⟨0, rfl, by omega, Lib.hid (all_start _ R), HT⟩
          case round =>
            obtain ⟨W2, rfl⟩ : ∃ W2, W2 = wr := ⟨_, rfl⟩
            obtain ⟨j, rfl, hjg, HA, HT2⟩ := hrel
            have q1 : W2.cell? ⟨A, 1, none⟩ = some (.slice ra m rc) := (blk_cell HT2.out.one 1).trans rfl
            have HBW := Lib.hid HT2.out.below
            by_cases hj : j < m
            · obtain ⟨gg, rfl⟩ : ∃ gg, gk = gg + 1 := ⟨gk - 1, by omega⟩
              have hjR : j < R.length := by rw [HRL.out]; exact hj
              obtain ⟨g, o, ha, hgw, hcells⟩ := HR.out.cells (by omega)
              subst ha
              obtain ⟨a', c', hcell, htrm⟩ := hcells j hjR
              have e0 := regrown_cell (keptC hcell HBW.out hgw)
              have e1 := regrown_cell q1
              have e2 := regrown_cell (show W2.cell? ⟨A, 0, none⟩ = some (.slice va n vc) from (blk_cell HT2.out.one 0).trans rfl)
              have e3 := regrown_cell (show W2.cell? ⟨A + 1, 0, none⟩ = some (.slice ua n uc) from (blk_cell HT2.out.two 0).trans rfl)
              have e4 := regrown_cell (show W2.cell? ⟨A + 1, 1, none⟩ = some (.slice sa m sc) from (blk_cell HT2.out.two 1).trans rfl)
              have cT1 := fun d os => Calls.regrown_of (times_calls V R V R[j] (.agg #[.slice va n vc, .slice (some ⟨g, o, none⟩) m rc]) va n vc a' R[j].length c' (grow (redrawn W2 d) os) ⟨va, n, vc, _, m, rc, rfl, (HV.out.on HBW.out).on (below_regrown W2 d os), (HR.out.on HBW.out).on (below_regrown W2 d os)⟩ ((HV.out.on HBW.out).on (below_regrown W2 d os)) ((htrm.on HBW.out).on (below_regrown W2 d os)))
              have cT2 := fun d os => Calls.regrown_of (times_calls U S V R[j] (.agg #[.slice ua n uc, .slice sa m sc]) va n vc a' R[j].length c' (grow (redrawn W2 d) os) ⟨ua, n, uc, sa, m, sc, rfl, (HU.out.on HBW.out).on (below_regrown W2 d os), (HS.out.on HBW.out).on (below_regrown W2 d os)⟩ ((HV.out.on HBW.out).on (below_regrown W2 d os)) ((htrm.on HBW.out).on (below_regrown W2 d os)))
              have HNX := Lib.hid (fun h1 => all_next HA.out hjR h1)
              have HST := Lib.hid (fun h1 => all_stop HA.out hjR h1)
              have k0 : (0 : Int) ≤ (j : Int) := by omega
              have k2 : (j : Int) < (m : Int) := by omega
              clear hcells hcell htrm
              generalize R[j].length = l at e0 cT1 cT2
              generalize timesP V R V R[j] = x1 at cT1 HNX HST
              generalize timesP U S V R[j] = x2 at cT2 HNX HST
              by_cases hx : x1 = x2
              · have HN2 := Lib.hid (HNX.out (decide_eq_true hx))
                have gx : ((x1 : Int) != (x2 : Int)) = false := by rw [hx]; exact bne_self_eq_false _
                clear HNX HST hx
                go_wp2_with fail
                refine wp_region_quiet_below (by kernel_rfl) (by kernel_rfl) ?_
                quiet_step (exact cT1 _ _)
                quiet_step (exact cT1 _ _)
                quiet_step (exact cT1 _ _)
                quiet_step (exact cT1 _ _)
                quiet_step (exact cT1 _ _)
                quiet_step (exact cT1 _ _)
                quiet_step (exact cT1 _ _)
                quiet_step (exact cT1 _ _)
                quiet_step (exact cT1 _ _)
                quiet_step (exact cT2 _ _)
                quiet_step (exact cT2 _ _)
                quiet_step (exact cT2 _ _)
                quiet_step (exact cT2 _ _)
                quiet_step (exact cT2 _ _)
                quiet_step (exact cT2 _ _)
                quiet_step (exact cT2 _ _)
                quiet_step (exact cT2 _ _)
                quiet_step (exact cT2 _ _)
                quiet_step (fail)
                refine wpQuiet_nil ?_
                intro W4 hw'
                obtain ⟨⟨dq, osq⟩, hw''⟩ := hw'
                have HT4 := Lib.hid (HT2.out.on (show Below W2.heap.size W2 W4 by rw [hw'']; exact below_regrown W2 dq osq))
                clear hw'' e0 e1 e2 e3 e4 cT1 cT2 q1
                go_wp2
                go_roundg gg
                case measure => omega
                case rel => exact ⟨j + 1, by go_num, by omega, HN2, HT4⟩
              · have HE := Lib.hid (HSR.out (HST.out (decide_eq_false hx)))
                have gx : ((x1 : Int) != (x2 : Int)) = true := bne_iff_ne.2 (by omega)
                clear HNX HST hx
                go_wp2_with fail
                refine wp_region_quiet_below (by kernel_rfl) (by kernel_rfl) ?_
                quiet_step (exact cT1 _ _)
                quiet_step (exact cT1 _ _)
                quiet_step (exact cT1 _ _)
                quiet_step (exact cT1 _ _)
                quiet_step (exact cT1 _ _)
                quiet_step (exact cT1 _ _)
                quiet_step (exact cT1 _ _)
                quiet_step (exact cT1 _ _)
                quiet_step (exact cT1 _ _)
                quiet_step (exact cT2 _ _)
                quiet_step (exact cT2 _ _)
                quiet_step (exact cT2 _ _)
                quiet_step (exact cT2 _ _)
                quiet_step (exact cT2 _ _)
                quiet_step (exact cT2 _ _)
                quiet_step (exact cT2 _ _)
                quiet_step (exact cT2 _ _)
                quiet_step (exact cT2 _ _)
                quiet_step (fail)
                refine wpQuiet_nil ?_
                intro W4 hw'
                obtain ⟨⟨dq, osq⟩, hw''⟩ := hw'
                have HT4 := Lib.hid (HT2.out.on (show Below W2.heap.size W2 W4 by rw [hw'']; exact below_regrown W2 dq osq))
                clear hw'' e0 e1 e2 e3 e4 cT1 cT2 q1
                go_wp2
                go_ret
                exact ⟨by rw [HE.out]; rfl, HT4.out.below⟩
            · have HE := Lib.hid (HSY.out (by rw [HRL.out, HSL.out]) (by rw [HVL.out, HUL.out]) HNA.out (all_end HA.out (by rw [HRL.out]; omega)))
              have k2 : ¬ (j : Int) < (m : Int) := by omega
              go_wp2
              go_ret
              exact ⟨by rw [HE.out]; rfl, HBW.out⟩
    · have HE := Lib.hid (HLN.out (.inr (by rw [HVL.out, HUL.out]; exact hn)))
      have hne2 : ((n : Int) != (n2 : Int)) = true := bne_iff_ne.2 (by omega)
      go_enter Tryz.func30, Tryz.ntmps30
      go_wp2
      rw [HW0.out]
      go_ret
      exact ⟨by rw [HE.out]; rfl, H0.out.below⟩
  · have HE := Lib.hid (HLN.out (.inl (by rw [HRL.out, HSL.out]; exact hm)))
    have hne1 : ((m : Int) != (m2 : Int)) = true := bne_iff_ne.2 (by omega)
    go_enter Tryz.func30, Tryz.ntmps30
    go_wp2
    rw [HW0.out]
    go_ret
    exact ⟨by rw [HE.out]; rfl, H0.out.below⟩

end Go.Proofs.YtkfemnjblbnclaaGreatDoor

/- Have two right tables the same rows, in plain words (no program): by how often each row stands there. -/
namespace Go.Proofs.YtkfemnjblbnclaaGreatDoor
open Go.RowKit

/- the rows of a table, by other columns -/
def projR (V U : List (List UInt8)) (s : RowL) : RowL := V.map (boundP U s)
def projP (V U : List (List UInt8)) (S : List RowL) : List RowL := S.map (projR V U)
theorem hits_is {U : List (List UInt8)} {s : RowL} : ∀ {V : List (List UInt8)} {r : RowL}, r.length = V.length → hitsB U s V r = decide (projR V U s = r)
  | [], [], _ => by simp [hitsB, projR]
  | v :: V, [], h => by simp at h
  | [], t :: r, h => by simp at h
  | v :: V, t :: r, h => by
    have ih := hits_is (U := U) (s := s) (V := V) (r := r) (by simpa using h)
    unfold hitsB projR at *
    rw [List.zip_cons_cons, List.all_cons, ih, List.map_cons]
    by_cases h1 : boundP U s v = t <;> simp [hitP, h1]
theorem times_is {U : List (List UInt8)} {S : List RowL} {V : List (List UInt8)} {r : RowL} (h : r.length = V.length) : timesP U S V r = (projP V U S).count r := by
  unfold timesP projP
  rw [List.count, List.countP_map]
  refine List.countP_congr (fun s _ => ?_)
  rw [hits_is h]
  simp
theorem proj_self {V : List (List UInt8)} (hn : V.Nodup) {s : RowL} (h : s.length = V.length) : projR V V s = s := by
  unfold projR
  refine List.ext_getElem (by rw [List.length_map, h]) (fun i h1 h2 => ?_)
  rw [List.getElem_map]
  have hi : i < V.length := by rw [List.length_map] at h1; exact h1
  unfold boundP
  rw [place_nodup hn hi]
  dsimp only
  rw [List.getD_eq_getElem?_getD, List.getElem?_eq_getElem h2]
  rfl
theorem proj_all {V : List (List UInt8)} (hn : V.Nodup) {R : List RowL} (h : ∀ r ∈ R, r.length = V.length) : projP V V R = R := by
  unfold projP
  exact (List.map_congr_left (g := id) (fun r hr => proj_self hn (h r hr))).trans (List.map_id _)
theorem proj_len (V U : List (List UInt8)) (S : List RowL) : (projP V U S).length = S.length ∧ ∀ r ∈ projP V U S, r.length = V.length := by
  unfold projP
  refine ⟨List.length_map _, fun r hr => ?_⟩
  obtain ⟨s, _, rfl⟩ := List.mem_map.1 hr
  exact List.length_map _

/- as often, or not more often, and as many: the same but for their order -/
theorem perm_of_le : ∀ {A B : List RowL}, (∀ r, A.count r ≤ B.count r) → B.length = A.length → B.Perm A
  | [], B, _, h => by rw [List.eq_nil_of_length_eq_zero h]
  | x :: A, B, h, hl => by
    have hx : x ∈ B := by
      have := h x
      rw [List.count_cons_self] at this
      exact List.count_pos_iff.1 (by omega)
    refine (List.perm_cons_erase hx).trans (List.Perm.cons x (perm_of_le (fun r => ?_) ?_))
    · have := h r
      rw [List.count_erase, List.count_cons] at *
      by_cases e : x = r
      · subst e; simp at *; omega
      · have e1 : (x == r) = false := beq_eq_false_iff_ne.2 e
        simp [e1] at *; omega
    · rw [List.length_erase_of_mem hx, hl]; rfl
theorem same_is {V U : List (List UInt8)} {R S : List RowL} (hV : rightT V R = true) : sameRowsB V R U S = true ↔ R.length = S.length ∧ V.length = U.length ∧ (∀ x ∈ V, x ∈ U) ∧ R.Perm (projP V U S) := by
  obtain ⟨hn, _, _, _, hr⟩ := right_nodup hV
  have hl := fun r hr' => (hr r hr').1
  unfold sameRowsB
  simp only [Bool.and_eq_true, decide_eq_true_eq, List.all_eq_true]
  constructor
  · rintro ⟨⟨⟨h1, h2⟩, h3⟩, h4⟩
    refine ⟨h1, h2, h3, (perm_of_le (fun r => ?_) ?_).symm⟩
    · by_cases hm : r ∈ R
      · have := h4 r hm
        rw [times_is (hl r hm), times_is (hl r hm), proj_all hn hl] at this
        omega
      · rw [List.count_eq_zero_of_not_mem hm]; exact Nat.zero_le _
    · rw [(proj_len V U S).1, h1]
  · rintro ⟨h1, h2, h3, h4⟩
    refine ⟨⟨⟨h1, h2⟩, h3⟩, fun r hm => ?_⟩
    rw [times_is (hl r hm), times_is (hl r hm), proj_all hn hl]
    exact h4.count_eq r
theorem same_self {V : List (List UInt8)} {R : List RowL} (hV : rightT V R = true) : sameRowsB V R V R = true := by
  obtain ⟨hn, _, _, _, hr⟩ := right_nodup hV
  refine (same_is hV).2 ⟨rfl, rfl, fun x hx => hx, ?_⟩
  rw [proj_all hn (fun r h => (hr r h).1)]
theorem same_perm {V : List (List UInt8)} {A R : List RowL} (h : A.Perm R) : sameRowsB V A V R = true := by
  refine same_yes h.length_eq rfl (by simp) ?_
  rw [List.all_eq_true]
  intro r _
  rw [decide_eq_true_eq]
  unfold timesP
  exact h.countP_eq _
theorem right_perm {V : List (List UInt8)} {A R : List RowL} (h : A.Perm R) (hr : rightT V R = true) : rightT V A = true := by
  unfold rightT at *
  simp only [Bool.and_eq_true, decide_eq_true_eq, List.all_eq_true] at *
  obtain ⟨⟨⟨h1, h2⟩, h3⟩, h4⟩ := hr
  exact ⟨⟨⟨h1, by rw [h.length_eq]; exact h2⟩, h3⟩, fun r hm => h4 r (h.mem_iff.1 hm)⟩

/- how often each row is open, by its text -/
structure Opn (T : List RowL) (k : Nat) (N : RowL → Nat) (f : List UInt8 → Option Int) : Prop where
  has : ∀ x v, f x = some v → ∃ r ∈ T.take k, txtN (idsP T k).1 r = x
  val : ∀ r ∈ T.take k, (f (txtN (idsP T k).1 r)).getD 0 = (N r : Int)
  out : ∀ r, r ∉ T.take k → N r = 0
theorem opn_zero (T : List RowL) : Opn T 0 (fun _ => 0) (fun _ => none) := ⟨(fun _ _ h => nomatch h), fun r hr => by rw [List.take_zero] at hr; exact absurd hr List.not_mem_nil, fun _ _ => rfl⟩
theorem txt_at {T : List RowL} {k : Nat} (hk : k < T.length) {r : RowL} (hr : r ∈ T.take k) (e : txtN (idsP T k).1 r = txtN (idsP T (k + 1)).1 T[k]) : r = T[k] := by
  obtain ⟨h1, h2⟩ := num_at T (k + 1)
  rw [List.take_succ_eq_append_getElem hk] at h2
  rw [← came_old hk hr] at e
  exact txt_one h1 (h2 r (List.mem_append_left _ hr)) (h2 T[k] (List.mem_append_right _ (List.mem_singleton.2 rfl))) e
theorem Opn.see {T : List RowL} {k : Nat} {N : RowL → Nat} {f : List UInt8 → Option Int} (h : Opn T k N f) (hk : k < T.length) : (f (txtN (idsP T (k + 1)).1 T[k])).getD 0 = (N T[k] : Int) := by
  by_cases hm : T[k] ∈ T.take k
  · rw [came_old hk hm]; exact h.val _ hm
  · cases hf : f (txtN (idsP T (k + 1)).1 T[k]) with
    | none => rw [h.out _ hm]; rfl
    | some v =>
      obtain ⟨r, hr, e⟩ := h.has _ _ hf
      have := txt_at hk hr e
      subst this
      exact absurd hr hm
theorem Opn.put {T : List RowL} {k : Nat} {N : RowL → Nat} {f : List UInt8 → Option Int} (h : Opn T k N f) (hk : k < T.length) (v : Nat) : Opn T (k + 1) (fun r => if r = T[k] then v else N r) (updG f (txtN (idsP T (k + 1)).1 T[k]) (some (v : Int))) := by
  have ht : ∀ r, r ∈ T.take (k + 1) ↔ r ∈ T.take k ∨ r = T[k] := fun r => by rw [List.take_succ_eq_append_getElem hk, List.mem_append, List.mem_singleton]
  refine ⟨fun x v' hx => ?_, fun r hr => ?_, fun r hr => ?_⟩
  · unfold updG at hx
    split at hx
    · rename_i e
      exact ⟨T[k], (ht _).2 (.inr rfl), e.symm⟩
    · obtain ⟨r, hr, e⟩ := h.has _ _ hx
      exact ⟨r, (ht _).2 (.inl hr), by rw [came_old hk hr]; exact e⟩
  · unfold updG
    by_cases e : r = T[k]
    · subst e
      rw [if_pos rfl, if_pos rfl]; rfl
    · have hr' : r ∈ T.take k := ((ht r).1 hr).resolve_right e
      rw [if_neg e, if_neg (fun c => e (txt_at hk hr' (by rw [← came_old hk hr']; exact c))), came_old hk hr']
      exact h.val r hr'
  · have h1 := fun c => hr ((ht r).2 c)
    rw [if_neg (fun c => h1 (.inr c)), h.out r (fun c => h1 (.inl c))]
theorem Opn.cong {T : List RowL} {k : Nat} {N M : RowL → Nat} {f : List UInt8 → Option Int} (h : Opn T k N f) (e : ∀ r, N r = M r) : Opn T k M f := by
  have : N = M := funext e
  rw [← this]; exact h
/- the first table's rows are counted -/
def cntR (R : List RowL) (k : Nat) (r : RowL) : Nat := (R.take k).count r
theorem cnt_more {R : List RowL} {k : Nat} (hk : k < R.length) (r : RowL) : (if r = R[k] then cntR R k R[k] + 1 else cntR R k r) = cntR R (k + 1) r := by
  unfold cntR
  rw [List.take_succ_eq_append_getElem hk, List.count_append, List.count_singleton]
  by_cases e : r = R[k]
  · subst e; simp
  · have e' : (R[k] == r) = false := beq_eq_false_iff_ne.2 (fun c => e c.symm)
    rw [if_neg e, e']; simp
/- the second one's are taken off -/
def offR (R P : List RowL) (j : Nat) (r : RowL) : Nat := R.count r - (P.take j).count r
theorem off_zero (R P : List RowL) (r : RowL) : cntR R R.length r = offR R P 0 r := by unfold cntR offR; rw [List.take_length, List.take_zero]; simp
theorem off_more {R P : List RowL} {j : Nat} (hj : j < P.length) (r : RowL) : (if r = P[j] then offR R P j P[j] - 1 else offR R P j r) = offR R P (j + 1) r := by
  unfold offR at *
  rw [List.take_succ_eq_append_getElem hj, List.count_append, List.count_singleton]
  by_cases e : r = P[j]
  · subst e; simp; omega
  · have e' : (P[j] == r) = false := beq_eq_false_iff_ne.2 (fun c => e c.symm)
    rw [if_neg e, e']; simp
def FitsP (R P : List RowL) (j : Nat) : Prop := ∀ r, (P.take j).count r ≤ R.count r
theorem fits_zero (R P : List RowL) : FitsP R P 0 := fun r => by rw [List.take_zero]; exact Nat.zero_le _
theorem fits_more {R P : List RowL} {j : Nat} (h : FitsP R P j) (hj : j < P.length) (h0 : offR R P j P[j] ≠ 0) : FitsP R P (j + 1) := by
  intro r
  have := h r
  unfold offR at h0
  rw [List.take_succ_eq_append_getElem hj, List.count_append, List.count_singleton]
  by_cases e : P[j] = r
  · subst e; simp; omega
  · have e' : (P[j] == r) = false := beq_eq_false_iff_ne.2 e
    rw [e']; simp; omega
theorem fits_not {R P : List RowL} {j : Nat} (hj : j < P.length) (h0 : offR R P j P[j] = 0) : ¬ R.Perm P := by
  intro h
  have h1 := h.count_eq P[j]
  have h2 : (P.take (j + 1)).count P[j] ≤ P.count P[j] := (List.take_sublist _ _).count_le _
  unfold offR at h0
  rw [List.take_succ_eq_append_getElem hj, List.count_append, List.count_singleton] at h2
  simp at h2
  omega
theorem fits_all {R P : List RowL} (h : FitsP R P P.length) (hl : R.length = P.length) : R.Perm P := perm_of_le (fun r => by have := h r; rwa [List.take_length] at this) hl

/- which variables are left -/
def leftN (V U : List (List UInt8)) : Nat := (V.filter fun x => decide (x ∉ U)).length
theorem leftN_nil (V : List (List UInt8)) : leftN V [] = V.length := by unfold leftN; simp
theorem leftN_snoc {V : List (List UInt8)} (hn : V.Nodup) (U : List (List UInt8)) (x : List UInt8) : leftN V (U ++ [x]) = if x ∈ V ∧ x ∉ U then leftN V U - 1 else leftN V U := by
  unfold leftN
  have e : (V.filter fun y => decide (y ∉ U ++ [x])) = (V.filter fun y => decide (y ∉ U)).erase x := by
    rw [List.Nodup.erase_eq_filter (List.Pairwise.filter _ hn), List.filter_filter]
    refine List.filter_congr (fun y _ => ?_)
    by_cases h1 : y ∈ U <;> by_cases h2 : y = x <;> simp [h1, h2]
  rw [e, List.length_erase]
  by_cases h : x ∈ V ∧ x ∉ U
  · rw [if_pos h, if_pos (List.mem_filter.2 ⟨h.1, by simpa using h.2⟩)]
  · rw [if_neg h, if_neg (fun c => h ⟨(List.mem_filter.1 c).1, by simpa using (List.mem_filter.1 c).2⟩)]
theorem leftN_zero (V U : List (List UInt8)) : leftN V U = 0 ↔ ∀ x ∈ V, x ∈ U := by
  unfold leftN
  rw [List.length_eq_zero_iff, List.filter_eq_nil_iff]
  simp
/- the columns that are left, as a map -/
def leftM (V U : List (List UInt8)) : List UInt8 → Option Int := fun x => if x ∈ U then none else colF V x
theorem leftM_nil (V : List (List UInt8)) : leftM V [] = colF V := by funext x; unfold leftM; simp
theorem leftM_snoc (V U : List (List UInt8)) (x : List UInt8) : updG (leftM V U) x none = leftM V (U ++ [x]) := by
  funext y
  unfold leftM updG
  by_cases e : y = x
  · subst e; simp
  · by_cases hu : y ∈ U <;> simp [e, hu]
theorem leftM_some (V U : List (List UInt8)) (x : List UInt8) : (leftM V U x).isSome = decide (x ∈ V ∧ x ∉ U) := by
  unfold leftM
  by_cases hu : x ∈ U
  · rw [if_pos hu]; simp [hu]
  · rw [if_neg hu, colF_some]; simp [hu]

end Go.Proofs.YtkfemnjblbnclaaGreatDoor

/- A table's rows, turned, in plain words (no program). -/
namespace Go.Proofs.YtkfemnjblbnclaaGreatDoor
open Go.RowKit

def turnR (R : List RowL) (d : Nat) : List RowL := R.drop d ++ R.take d
theorem turn_perm (R : List RowL) (d : Nat) : (turnR R d).Perm R := by
  unfold turnR
  exact List.perm_append_comm.trans (by rw [List.take_append_drop])
theorem turn_len (R : List RowL) (d : Nat) : (turnR R d).length = R.length := (turn_perm R d).length_eq
theorem turn_at {R : List RowL} {d i : Nat} (hd : d < R.length) (hi : i < R.length) : (turnR R d)[i]'(by rw [turn_len]; exact hi) = R[(i + d) % R.length]'(Nat.mod_lt _ (by omega)) := by
  unfold turnR
  by_cases h : i + d < R.length
  · have e : (i + d) % R.length = d + i := by rw [Nat.mod_eq_of_lt h]; omega
    rw [List.getElem_append_left (by rw [List.length_drop]; omega), List.getElem_drop]
    simp only [e]
  · have e : (i + d) % R.length = i - (R.length - d) := by
      rw [Nat.mod_eq_sub_mod (by omega), Nat.mod_eq_of_lt (by omega)]; omega
    rw [List.getElem_append_right (by rw [List.length_drop]; omega), List.getElem_take]
    simp only [e, List.length_drop]
theorem turn_more {R : List RowL} {d i : Nat} (hd : d < R.length) (hi : i < R.length) : (turnR R d).take i ++ [R[(i + d) % R.length]'(Nat.mod_lt _ (by omega))] = (turnR R d).take (i + 1) := by
  rw [← turn_at hd hi, ← List.take_succ_eq_append_getElem]
theorem order_turn {V : List (List UInt8)} {K : List KeyL} {R : List RowL} (hr : rightT V R = true) (d : Nat) : orderP (aheadP V K) (turnR R d) = orderP (aheadP V K) R :=
  order_same (ahead_anti V K) (ahead_trans V K) (fun a ha b hb h => ahead_zero ((right_nodup hr).2.2.2.2 a ha).1 ((right_nodup hr).2.2.2.2 b hb).1 h) (turn_perm R d)
theorem order_pair (V : List (List UInt8)) (K : List KeyL) (R : List RowL) {i : Nat} (hi : i + 1 < (orderP (aheadP V K) R).length) : ¬ aheadP V K (orderP (aheadP V K) R)[i + 1] (orderP (aheadP V K) R)[i] < 0 := by
  have h1 := risen_pair (order_risen (ahead_anti V K) (ahead_trans V K) R) hi
  have h2 := ahead_anti V K (orderP (aheadP V K) R)[i] (orderP (aheadP V K) R)[i + 1]
  omega

end Go.Proofs.YtkfemnjblbnclaaGreatDoor
