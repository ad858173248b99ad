/- GrpComes, GrpZero, put together. -/
import Derived.Test.YtdnfaoanaehjhaaGreatDoorH23
import Derived.Test.YtdnfaoanaehjhaaGreatDoorH24
import Derived.Test.YtdnfaoanaehjhaaGreatDoorH11
import Derived.Test.YtdnfaoanaehjhaaGreatDoorH13
import Derived.Test.YtdnfaoanaehjhaaGreatDoorH18
import Derived.Test.YtdnfaoanaehjhaaGreatDoorGrpCheck
import Derived.Test.YtdnfaoanaehjhaaGreatDoorH20

/- What an aggregate comes to in rows: package group's boundIn and comesTo (written by gen/mkcomes13.py). -/
namespace Go.Proofs.YtdnfaoanaehjhaaGreatDoor
open Go.RowKit Go.Maps

theorem bound_in {V : List (List UInt8)} {r : RowL} {x : List UInt8} {i : Nat} (hp : placeP V x = some i) (hi : i < r.length) : boundP V r x = r[i] := by
  unfold boundP
  rw [hp]
  dsimp only
  rw [List.getD_eq_getElem?_getD, List.getElem?_eq_getElem hi]
  rfl
theorem cs_cell (t : TermL) : ∀ u ∈ t.cs, u.oneCell' = true := by
  intro u hu
  simp only [TermL.cs, List.mem_cons, List.not_mem_nil, or_false] at hu
  rcases hu with rfl | rfl | rfl | rfl <;> rfl

set_option maxRecDepth 100000 in
set_option maxHeartbeats 4000000 in
theorem boundIn_calls (V : List (List UInt8)) (R : List RowL) (x : List UInt8) (i : Nat) (hp : placeP V x = some i) (hrl : ∀ r ∈ R, i < r.length) (a : Option Addr) (n c : Nat) (w : World) (h : RowA w a n c R) (h6 : n ≤ 1000000) :
    Calls Tryz.prog 69 #[.slice a n c, .int .i64 i] w fun e w' => ∃ va q vc, e = .returned (.slice va q vc) ∧ TrmA w' va q vc (boundC V R x) ∧ Below w.heap.size w w' := by
  obtain ⟨i0, hi, hz0, hz1, hz2⟩ := info_parts info_term
  have HIN := Lib.hid h
  have HL := Lib.hid h.len
  have HRL := Lib.hid hrl
  have HP := Lib.hid hp
  have hcp := h.cap
  have hms := h.most
  unfold maxLen at hms
  clear h hrl hp
  have i0' : (0 : Int) ≤ (i : Int) := by omega
  go_enter Tryz.func69, Tryz.ntmps69
  go_wp2
  go_loopg [5, 7, 10] n (fun g v _ j wr => ∃ k : Nat, j = .int .i64 k ∧ k + g = n ∧ Hid (wr.ownsRow w.heap.size 37 4 v (boundC V (R.take k) x).length (cellsT (boundC V (R.take k) x))) ∧ Hid (Below w.heap.size w wr))
  case atStart => exact ⟨0, rfl, by omega, Lib.hid (World.ownsRow_nil _ _ _ _), Lib.hid (Below.refl _ _)⟩
  case round =>
    obtain ⟨W1, rfl⟩ : ∃ W1, W1 = wr := ⟨_, rfl⟩
    obtain ⟨k, rfl, hkg, HO, HBW⟩ := hrel
    have k0 : (0 : Int) ≤ (k : Int) := by omega
    by_cases hk : k < n
    · obtain ⟨gg, rfl⟩ : ∃ gg, gk = gg + 1 := ⟨gk - 1, by omega⟩
      have hkL : k < R.length := by rw [HL.out]; exact hk
      obtain ⟨g, o, ha, hgw, hcells⟩ := HIN.out.cells (by omega)
      subst ha
      obtain ⟨a', c', hcell, htrm⟩ := hcells k hkL
      have hil := HRL.out _ (List.getElem_mem hkL)
      have HSN := Lib.hid (show boundC V (R.take (k + 1)) x = if (boundP V R[k] x).k = 0 then boundC V (R.take k) x else boundC V (R.take k) x ++ [boundP V R[k] x] by rw [List.take_succ_eq_append_getElem hkL]; exact boundC_snoc V (R.take k) R[k] x)
      have HBI := Lib.hid (bound_in HP.out hil)
      have hle := boundC_len V (R.take k) x
      rw [List.length_take] at hle
      obtain ⟨l0, hl0⟩ : ∃ l0, (boundC V (R.take k) x).length = l0 := ⟨_, rfl⟩
      rw [hl0] at hle
      have hO := HO.out
      rw [hl0] at hO
      have HO1 := Lib.hid hO
      have HL0 := Lib.hid hl0
      have c0 : W1.cell? ⟨g, o + k, none⟩ = some (.slice a' R[k].length c') := keptC hcell HBW.out hgw
      have HTM := Lib.hid (htrm.on HBW.out)
      clear hcells hO hl0 hcell htrm HO
      rw [HBI.out] at HSN
      clear HBI
      obtain ⟨g2, o2, ha2, hg2, hc2⟩ := HTM.out.cells (by omega)
      subst ha2
      obtain ⟨d0, d1, d2, d3⟩ := hc2 i hil
      have hcap2 := HTM.out.cap
      have hmost2 := HTM.out.most
      unfold maxLen at hmost2
      clear hc2 HTM
      generalize R[k][i] = y at d0 d1 d2 d3 HSN
      generalize R[k].length = q at c0 hil hcap2
      have k1 : (k : Int) < (n : Int) := by omega
      have i1 : (i : Int) < (q : Int) := by omega
      by_cases he : y.k = 0
      · have HE := Lib.hid (HSN.out.trans (if_pos he))
        have g1 : (y.k != 0) = false := by rw [he]; rfl
        clear he HSN
        go_wp2
        go_roundg gg
        case measure => omega
        case rel => exact ⟨k + 1, by go_num, by omega, Lib.hid (by rw [HE.out, HL0.out]; exact HO1.out), HBW⟩
      · have HE := Lib.hid (HSN.out.trans (if_neg he))
        have g1 : (y.k != 0) = true := bne_iff_ne.2 he
        have HM1 := Lib.hid (show l0 + 1 ≤ maxLen by unfold maxLen; omega)
        have HM2 := Lib.hid (show (l0 + 1) * 56 ≤ 140737488355328 by omega)
        clear he HSN
        go_wp2_with (at_builtin; (refine wpList_append_own_at _ rfl (.tmp 20) (.tmp 25) 35 rfl w.heap.size 37 i0 nilT.v 4 56 Tryz.underlying35 hi hz0 hz1 hz2 rfl (by decide) u5 _ _ rfl (HO1.out.alloc _) ⟨W1.heap.size, 0, none⟩ 1 1 y.cs rfl rfl (news_gen _ _ _ (by simp)) (cs_cell y) HM1.out HM2.out (Nat.le_trans HBW.out.size (by simp)) ?_; intro v4 w4 ho4 hg4 _ _; have HO4 := Lib.hid ho4; have HG4 := Lib.hid hg4; clear ho4 hg4))
        go_roundg gg
        case measure => omega
        case rel => exact ⟨k + 1, by go_num, by omega, Lib.hid (by rw [HE.out, List.length_append, HL0.out, cellsT_append, cellsT_one]; exact HO4.out), Lib.hid ((fb2 HBW.out (box_below _ _) (Nat.le_refl _)).grown HG4.out (Nat.le_trans HBW.out.size (by simp)) (fun q hq => (HO1.out.lt q hq).1))⟩
    · have HE := Lib.hid (show R.take k = R from List.take_of_length_le (by rw [HL.out]; omega))
      have k1 : ¬ (k : Int) < (n : Int) := by omega
      have ho := HO.out
      rw [HE.out] at ho
      obtain ⟨va, vc, rfl, hT⟩ := own_trms ho
      have HT := Lib.hid hT.a
      clear ho hT
      go_wp2
      go_ret
      exact ⟨va, _, vc, rfl, HT.out, HBW.out⟩

theorem comes_count {V : List (List UInt8)} {R : List RowL} {a : AggL} (h : a.k = 1) (ho : a.o = []) : comesP V R a = countT R.length := by unfold comesP; rw [if_pos h, if_pos ho]
theorem comes_bound {V : List (List UInt8)} {R : List RowL} {a : AggL} (h : a.k = 1) (ho : ¬ a.o = []) : comesP V R a = countT (boundC V R a.o).length := by unfold comesP; rw [if_pos h, if_neg ho]
theorem comes_sum {V : List (List UInt8)} {R : List RowL} {a : AggL} (h : a.k = 2) : comesP V R a = sumT (boundC V R a.o) := by unfold comesP; rw [if_neg (by omega), if_pos h]
theorem comes_end {V : List (List UInt8)} {R : List RowL} {a : AggL} (h1 : ¬ a.k = 1) (h2 : ¬ a.k = 2) : comesP V R a = endT (decide (a.k = 4)) (boundC V R a.o) := by unfold comesP; rw [if_neg h1, if_neg h2]
theorem boundC_ok {V : List (List UInt8)} {R : List RowL} (h : okR R) (x : List UInt8) : ∀ t ∈ boundC V R x, t.ok := by
  intro t ht
  unfold boundC at ht
  obtain ⟨r, hr, rfl⟩ := List.mem_map.1 (List.mem_filter.1 ht).1
  unfold boundP
  split
  · rename_i i _
    rw [List.getD_eq_getElem?_getD]
    cases hq : r[i]? with
    | none => exact nilT_ok
    | some u => exact h r hr u (List.mem_of_getElem? hq)
  · exact nilT_ok

set_option maxRecDepth 100000 in
set_option maxHeartbeats 8000000 in
theorem comesTo_calls (V : List (List UInt8)) (R : List RowL) (a : AggL) (hn : V.Nodup) (hk : 1 ≤ a.k ∧ a.k ≤ 4) (hk0 : a.o = [] → a.k = 1) (hao : a.o ≠ [] → a.o ∈ V) (hox : okS a.o) (hrl : ∀ r ∈ R, r.length = V.length) (hok : okR R) (b : Nat) (ra : Option Addr) (m rc : Nat) (w : World) (hg : GoodN w) (hm : MapS w b (cntL V) (colF V)) (hr : RowA w ra m rc R) (h4 : m ≤ 4096) :
    Calls Tryz.prog 42 #[a.v, .map (some b), .slice ra m rc] w fun e w' => e = .returned (comesP V R a).v ∧ Below w.heap.size w w' := by
  have HR := Lib.hid hr
  have HL := Lib.hid hr.len
  have HM := Lib.hid hm
  have HG := Lib.hid hg
  have HC1 := Lib.hid (fun h ho => comes_count (V := V) (R := R) (a := a) h ho)
  have HC2 := Lib.hid (fun h ho => comes_bound (V := V) (R := R) (a := a) h ho)
  have HC3 := Lib.hid (fun h => comes_sum (V := V) (R := R) (a := a) h)
  have HC4 := Lib.hid (fun h1 h2 => comes_end (V := V) (R := R) (a := a) h1 h2)
  have HBO := Lib.hid (boundC_ok (V := V) hok a.o)
  have HBL := Lib.hid (boundC_len V R a.o)
  have hcp := hr.cap
  have hms := hr.most
  unfold maxLen at hms
  have HZ := empty_is a.o
  have HOX := Lib.hid hox
  have HBI : Hid (a.o ≠ [] → ∃ i : Nat, colF V a.o = some (i : Int) ∧ ∀ W, RowA W ra m rc R → Calls Tryz.prog 69 #[.slice ra m rc, .int .i64 i] W fun e w' => ∃ va q vc, e = .returned (.slice va q vc) ∧ TrmA w' va q vc (boundC V R a.o) ∧ Below W.heap.size W w') := Lib.hid fun ho => by
    have hin := hao ho
    cases hp : placeP V a.o with
    | none => exact absurd hin (place_none.1 hp)
    | some i =>
      have hi := (place_lt hp).1
      refine ⟨i, by rw [colF_place hn, hp]; rfl, fun W hW => boundIn_calls V R a.o i hp (fun r hr' => by rw [hrl r hr']; exact hi) ra m rc W hW (by omega)⟩
  clear hr hm hg hrl hok hn hao hox
  obtain ⟨A, hA⟩ : ∃ A, w.heap.size = A := ⟨_, rfl⟩
  obtain ⟨ak, ao, am⟩ := a
  dsimp only at HC1 HC2 HC3 HC4 HBO HBL HZ HOX HBI hk hk0
  simp only [AggL.v]
  obtain ⟨W0, hW0⟩ : ∃ W0, (w.alloc (.cells #[.int .i64 ak, .string (bs ao), .string (bs am)] 41)).alloc (.cells #[.int .i64 0, .string ⟨#[]⟩, .string ⟨#[]⟩, .string ⟨#[]⟩] 37) = W0 := ⟨_, rfl⟩
  have HAE := Lib.hid hA
  have HW0 := Lib.hid hW0
  have HB0 := Lib.hid (show Below w.heap.size w W0 by rw [← hW0]; exact two_alloc _ _ _)
  have HA0 := Lib.hid (show Blk W0 A 41 #[.int .i64 ak, .string (bs ao), .string (bs am)] by rw [← hW0, ← hA]; exact blk_alloc (blk_new _ _ _) _)
  have HX0 := Lib.hid (show Blk W0 (A + 1) 37 #[.int .i64 0, .string ⟨#[]⟩, .string ⟨#[]⟩, .string ⟨#[]⟩] by
    rw [← hW0]
    have := blk_new (w.alloc (.cells #[.int .i64 ak, .string (bs ao), .string (bs am)] 41)) 37 #[.int .i64 0, .string ⟨#[]⟩, .string ⟨#[]⟩, .string ⟨#[]⟩]
    rw [World.size_alloc, hA] at this
    exact this)
  have HR0 := Lib.hid (HR.out.on HB0.out)
  have HM0 := Lib.hid (HM.out.on HB0.out)
  have HG0 := Lib.hid (HG.out.on HB0.out)
  clear hA hW0 HR HM HG
  by_cases ho : ao = []
  · rw [decide_eq_true ho] at HZ
    have h1 := hk0 ho
    subst h1
    have HE := Lib.hid (HC1.out rfl ho)
    have HC := Lib.hid (fun W hW => count_calls m (by omega) W hW)
    rw [HL.out] at HE
    clear HC1 HC2 HC3 HC4 HBI HBO HBL ho hk0
    generalize countT m = t at HC HE
    obtain ⟨tk, tx, ty, tz⟩ := t
    simp only [TermL.v] at HC
    go_enter Tryz.func42, Tryz.ntmps42
    go_wp2_with fail
    rw [HW0.out, HAE.out]
    refine (HC.out _ HG0.out).mono ?_
    rintro e w1 ⟨rfl, hb1⟩
    have HX1 := Lib.hid (blk_on HX0.out hb1 (blk_lt HX0.out))
    have HB1 := Lib.hid (fb2 HB0.out hb1 (Nat.le_refl _))
    clear hb1
    go_wp2_with (refine whole_abs 37 (.tmp 6) (.tmp 13) ⟨rfl, rfl⟩ (A + 1) #[.int .i64 tk, .string (bs tx), .string (bs ty), .string (bs tz)] rfl rfl 37 #[.int .i64 0, .string ⟨#[]⟩, .string ⟨#[]⟩, .string ⟨#[]⟩] HX1.out (by kernel_rfl) rfl (by kernel_rfl) ?_; intro w9 hA9 hG9)
    have q0 : w9.cell? ⟨A + 1, 0, none⟩ = some (.int .i64 tk) := (blk_cell hA9.out 0).trans rfl
    have q1 : w9.cell? ⟨A + 1, 1, none⟩ = some (.string (bs tx)) := (blk_cell hA9.out 1).trans rfl
    have q2 : w9.cell? ⟨A + 1, 2, none⟩ = some (.string (bs ty)) := (blk_cell hA9.out 2).trans rfl
    have q3 : w9.cell? ⟨A + 1, 3, none⟩ = some (.string (bs tz)) := (blk_cell hA9.out 3).trans rfl
    refine bodyPost_ret (v := .agg #[.int .i64 tk, .string (bs tx), .string (bs ty), .string (bs tz)]) (by simp [results, Tryz.results42, q0, q1, q2, q3, go_sem]) rfl ⟨by rw [HE.out]; rfl, ?_⟩
    exact HB1.out.grown hG9.out HB1.out.size (fun j hj => by injection hj with hj; have := HAE.out; omega)
  · rw [decide_eq_false ho] at HZ
    obtain ⟨i, hcol, hbi⟩ := HBI.out ho
    have HCF := Lib.hid hcol
    have HBC := Lib.hid hbi
    clear HBI hcol hbi HC1 hk0
    replace HC2 := Lib.hid (fun h => HC2.out h ho)
    clear ho
    go_enter Tryz.func42, Tryz.ntmps42
    go_wp2_with (first
      | (at_lookup; refine wpList_see_g rfl _ _ 62 rfl keyS Tryz.underlying62 rfl (by rw [HW0.out]; exact HM0.out) ao HOX.out rfl ?_; rw [HCF.out]; simp only [Option.getD_some]))
    rw [HW0.out, HAE.out]
    refine (HBC.out _ HR0.out).mono ?_
    rintro e w1 ⟨va, q, vc, rfl, hT, hb1⟩
    have HX1 := Lib.hid (blk_on HX0.out hb1 (blk_lt HX0.out))
    have HA1 := Lib.hid (blk_on HA0.out hb1 (blk_lt HA0.out))
    have HB1 := Lib.hid (fb2 HB0.out hb1 (Nat.le_refl _))
    have HG1 := Lib.hid (HG0.out.on hb1)
    have HT := Lib.hid hT
    have HTL := Lib.hid hT.len
    have hq4 : q ≤ 4096 := by rw [← hT.len]; have := HBL.out; rw [HL.out] at this; omega
    have a0 : w1.cell? ⟨A, 0, none⟩ = some (.int .i64 ak) := (blk_cell HA1.out 0).trans rfl
    clear hb1 hT HM0 HR0 HG0 HX0 HA0 HBC HBL
    have hq0 : (0 : Int) ≤ (q : Int) := by omega
    by_cases h1 : ak = 1
    · subst h1
      have HE := Lib.hid (HC2.out rfl)
      have HC := Lib.hid (fun W hW => count_calls q (by omega) W hW)
      rw [HTL.out] at HE
      clear HC2 HC3 HC4
      generalize countT q = t at HC HE
      obtain ⟨tk, tx, ty, tz⟩ := t
      simp only [TermL.v] at HC
      go_wp2_with fail
      refine (HC.out _ HG1.out).mono ?_
      rintro e w2 ⟨rfl, hb2⟩
      have HX2 := Lib.hid (blk_on HX1.out hb2 (blk_lt HX1.out))
      have HB2 := Lib.hid (fb2 HB1.out hb2 (Nat.le_refl _))
      clear hb2
      go_wp2_with (refine whole_abs 37 (.tmp 6) (.tmp 26) ⟨rfl, rfl⟩ (A + 1) #[.int .i64 tk, .string (bs tx), .string (bs ty), .string (bs tz)] rfl rfl 37 #[.int .i64 0, .string ⟨#[]⟩, .string ⟨#[]⟩, .string ⟨#[]⟩] HX2.out (by kernel_rfl) rfl (by kernel_rfl) ?_; intro w9 hA9 hG9)
      have q0 : w9.cell? ⟨A + 1, 0, none⟩ = some (.int .i64 tk) := (blk_cell hA9.out 0).trans rfl
      have q1 : w9.cell? ⟨A + 1, 1, none⟩ = some (.string (bs tx)) := (blk_cell hA9.out 1).trans rfl
      have q2 : w9.cell? ⟨A + 1, 2, none⟩ = some (.string (bs ty)) := (blk_cell hA9.out 2).trans rfl
      have q3 : w9.cell? ⟨A + 1, 3, none⟩ = some (.string (bs tz)) := (blk_cell hA9.out 3).trans rfl
      refine bodyPost_ret (v := .agg #[.int .i64 tk, .string (bs tx), .string (bs ty), .string (bs tz)]) (by simp [results, Tryz.results42, q0, q1, q2, q3, go_sem]) rfl ⟨by rw [HE.out]; rfl, ?_⟩
      exact HB2.out.grown hG9.out HB2.out.size (fun j hj => by injection hj with hj; have := HAE.out; omega)
    have g1 : (ak == 1) = false := beq_eq_false_iff_ne.2 h1
    by_cases h2 : ak = 2
    · subst h2
      have HE := Lib.hid (HC3.out rfl)
      have HC := Lib.hid (fun W hW hT => sumOf_calls (boundC V R ao) HBO.out va q vc W hW hT)
      clear HC2 HC3 HC4 h1
      generalize sumT (boundC V R ao) = t at HC HE
      obtain ⟨tk, tx, ty, tz⟩ := t
      simp only [TermL.v] at HC
      go_wp2_with fail
      refine (HC.out _ HG1.out HT.out).mono ?_
      rintro e w2 ⟨rfl, hb2⟩
      have HX2 := Lib.hid (blk_on HX1.out hb2 (blk_lt HX1.out))
      have HB2 := Lib.hid (fb2 HB1.out hb2 (Nat.le_refl _))
      clear hb2
      go_wp2_with (refine whole_abs 37 (.tmp 6) (.tmp 32) ⟨rfl, rfl⟩ (A + 1) #[.int .i64 tk, .string (bs tx), .string (bs ty), .string (bs tz)] rfl rfl 37 #[.int .i64 0, .string ⟨#[]⟩, .string ⟨#[]⟩, .string ⟨#[]⟩] HX2.out (by kernel_rfl) rfl (by kernel_rfl) ?_; intro w9 hA9 hG9)
      have q0 : w9.cell? ⟨A + 1, 0, none⟩ = some (.int .i64 tk) := (blk_cell hA9.out 0).trans rfl
      have q1 : w9.cell? ⟨A + 1, 1, none⟩ = some (.string (bs tx)) := (blk_cell hA9.out 1).trans rfl
      have q2 : w9.cell? ⟨A + 1, 2, none⟩ = some (.string (bs ty)) := (blk_cell hA9.out 2).trans rfl
      have q3 : w9.cell? ⟨A + 1, 3, none⟩ = some (.string (bs tz)) := (blk_cell hA9.out 3).trans rfl
      refine bodyPost_ret (v := .agg #[.int .i64 tk, .string (bs tx), .string (bs ty), .string (bs tz)]) (by simp [results, Tryz.results42, q0, q1, q2, q3, go_sem]) rfl ⟨by rw [HE.out]; rfl, ?_⟩
      exact HB2.out.grown hG9.out HB2.out.size (fun j hj => by injection hj with hj; have := HAE.out; omega)
    have g2 : (ak == 2) = false := beq_eq_false_iff_ne.2 h2
    replace HC4 := Lib.hid (HC4.out h1 h2)
    clear HC2 HC3
    by_cases hz : q = 0
    · subst hz
      have HE := Lib.hid (HC4.out.trans (show endT (decide (ak = 4)) (boundC V R ao) = nilT by rw [List.eq_nil_of_length_eq_zero HTL.out]; rfl))
      clear HC4 h1 h2
      go_wp2_with (refine whole_abs 37 (.tmp 6) (.tmp 37) ⟨rfl, rfl⟩ (A + 1) #[.int .i64 0, .string ⟨#[]⟩, .string ⟨#[]⟩, .string ⟨#[]⟩] rfl rfl 37 #[.int .i64 0, .string ⟨#[]⟩, .string ⟨#[]⟩, .string ⟨#[]⟩] HX1.out (by kernel_rfl) rfl (by kernel_rfl) ?_; intro w9 hA9 hG9)
      have q0 : w9.cell? ⟨A + 1, 0, none⟩ = some (.int .i64 0) := (blk_cell hA9.out 0).trans rfl
      have q1 : w9.cell? ⟨A + 1, 1, none⟩ = some (.string ⟨#[]⟩) := (blk_cell hA9.out 1).trans rfl
      have q2 : w9.cell? ⟨A + 1, 2, none⟩ = some (.string ⟨#[]⟩) := (blk_cell hA9.out 2).trans rfl
      have q3 : w9.cell? ⟨A + 1, 3, none⟩ = some (.string ⟨#[]⟩) := (blk_cell hA9.out 3).trans rfl
      refine bodyPost_ret (v := .agg #[.int .i64 0, .string ⟨#[]⟩, .string ⟨#[]⟩, .string ⟨#[]⟩]) (by simp [results, Tryz.results42, q0, q1, q2, q3, go_sem]) rfl ⟨by rw [HE.out]; rfl, ?_⟩
      exact HB1.out.grown hG9.out HB1.out.size (fun j hj => by injection hj with hj; have := HAE.out; omega)
    have gz : ((q : Int) == 0) = false := beq_eq_false_iff_ne.2 (by omega)
    have gz2 : (q == 0) = false := beq_eq_false_iff_ne.2 hz
    by_cases h3 : ak = 3
    · subst h3
      have HE := Lib.hid (show comesP V R ⟨3, ao, am⟩ = endT false (boundC V R ao) from HC4.out)
      have HC := Lib.hid (fun W hW hT => minF_calls (boundC V R ao) HBO.out va q vc W hW hT (by omega))
      clear HC4 h1 h2
      generalize endT false (boundC V R ao) = t at HC HE
      obtain ⟨tk, tx, ty, tz⟩ := t
      simp only [TermL.v] at HC
      go_wp2_with fail
      refine (HC.out _ HG1.out HT.out).mono ?_
      rintro e w2 ⟨rfl, hb2⟩
      have HX2 := Lib.hid (blk_on HX1.out hb2 (blk_lt HX1.out))
      have HB2 := Lib.hid (fb2 HB1.out hb2 (Nat.le_refl _))
      clear hb2
      go_wp2_with (refine whole_abs 37 (.tmp 6) (.tmp 43) ⟨rfl, rfl⟩ (A + 1) #[.int .i64 tk, .string (bs tx), .string (bs ty), .string (bs tz)] rfl rfl 37 #[.int .i64 0, .string ⟨#[]⟩, .string ⟨#[]⟩, .string ⟨#[]⟩] HX2.out (by kernel_rfl) rfl (by kernel_rfl) ?_; intro w9 hA9 hG9)
      have q0 : w9.cell? ⟨A + 1, 0, none⟩ = some (.int .i64 tk) := (blk_cell hA9.out 0).trans rfl
      have q1 : w9.cell? ⟨A + 1, 1, none⟩ = some (.string (bs tx)) := (blk_cell hA9.out 1).trans rfl
      have q2 : w9.cell? ⟨A + 1, 2, none⟩ = some (.string (bs ty)) := (blk_cell hA9.out 2).trans rfl
      have q3 : w9.cell? ⟨A + 1, 3, none⟩ = some (.string (bs tz)) := (blk_cell hA9.out 3).trans rfl
      refine bodyPost_ret (v := .agg #[.int .i64 tk, .string (bs tx), .string (bs ty), .string (bs tz)]) (by simp [results, Tryz.results42, q0, q1, q2, q3, go_sem]) rfl ⟨by rw [HE.out]; rfl, ?_⟩
      exact HB2.out.grown hG9.out HB2.out.size (fun j hj => by injection hj with hj; have := HAE.out; omega)
    have g3 : (ak == 3) = false := beq_eq_false_iff_ne.2 h3
    have HE := Lib.hid (show comesP V R ⟨ak, ao, am⟩ = endT true (boundC V R ao) by rw [HC4.out, decide_eq_true (show ak = 4 by omega)])
    have HC := Lib.hid (fun W hW hT => maxF_calls (boundC V R ao) HBO.out va q vc W hW hT (by omega))
    clear HC4 h1 h2 h3
    generalize endT true (boundC V R ao) = t at HC HE
    obtain ⟨tk, tx, ty, tz⟩ := t
    simp only [TermL.v] at HC
    go_wp2_with fail
    refine (HC.out _ HG1.out HT.out).mono ?_
    rintro e w2 ⟨rfl, hb2⟩
    have HX2 := Lib.hid (blk_on HX1.out hb2 (blk_lt HX1.out))
    have HB2 := Lib.hid (fb2 HB1.out hb2 (Nat.le_refl _))
    clear hb2
    go_wp2_with (refine whole_abs 37 (.tmp 6) (.tmp 45) ⟨rfl, rfl⟩ (A + 1) #[.int .i64 tk, .string (bs tx), .string (bs ty), .string (bs tz)] rfl rfl 37 #[.int .i64 0, .string ⟨#[]⟩, .string ⟨#[]⟩, .string ⟨#[]⟩] HX2.out (by kernel_rfl) rfl (by kernel_rfl) ?_; intro w9 hA9 hG9)
    have q0 : w9.cell? ⟨A + 1, 0, none⟩ = some (.int .i64 tk) := (blk_cell hA9.out 0).trans rfl
    have q1 : w9.cell? ⟨A + 1, 1, none⟩ = some (.string (bs tx)) := (blk_cell hA9.out 1).trans rfl
    have q2 : w9.cell? ⟨A + 1, 2, none⟩ = some (.string (bs ty)) := (blk_cell hA9.out 2).trans rfl
    have q3 : w9.cell? ⟨A + 1, 3, none⟩ = some (.string (bs tz)) := (blk_cell hA9.out 3).trans rfl
    refine bodyPost_ret (v := .agg #[.int .i64 tk, .string (bs tx), .string (bs ty), .string (bs tz)]) (by simp [results, Tryz.results42, q0, q1, q2, q3, go_sem]) rfl ⟨by rw [HE.out]; rfl, ?_⟩
    exact HB2.out.grown hG9.out HB2.out.size (fun j hj => by injection hj with hj; have := HAE.out; omega)

end Go.Proofs.YtdnfaoanaehjhaaGreatDoor

/- What a table that may be grouped is; the columns of its groups, in plain words; lines gathered in a box's field. -/
namespace Go.Proofs.YtdnfaoanaehjhaaGreatDoor
open Go.RowKit Go.Maps

structure MayG (V : List (List UInt8)) (R : List RowL) (B : List (List UInt8)) (L : List AggL) : Prop where
  right : rightT V R = true
  by_ : ∀ x ∈ B, x ∈ V
  form : ∀ a ∈ L, aggB a = true
  over : ∀ a ∈ L, a.o ≠ [] → a.o ∈ V
  name : ∀ a ∈ L, a.m ∉ V
  long : B.length + L.length ≤ 32
  bys : namesB [] B = true
  names : namesB [] (aggNames L) = true
theorem check_zero {V : List (List UInt8)} {R : List RowL} {B : List (List UInt8)} {L : List AggL} (h : checkG V R B L = 0) : MayG V R B L := by
  unfold checkG at h
  split at h
  · cases h
  · rename_i h1
    split at h
    · cases h
    · rename_i h2
      split at h
      · cases h
      · rename_i h3
        have h1 : formG V B R L = true := by simpa using h1
        have h2 : scopeG V B L = true := by simpa using h2
        unfold formG at h1
        simp only [Bool.and_eq_true, List.all_eq_true] at h1
        obtain ⟨a1, a2, a3, a4⟩ := h1
        unfold scopeG at h2
        simp only [Bool.and_eq_true, Bool.not_eq_true', List.any_eq_false] at h2
        obtain ⟨b1, b2, b3⟩ := h2
        refine ⟨a1, fun x hx => ?_, a4, fun a ha ho => ?_, fun a ha hm => ?_, by omega, a2, a3⟩
        · have := b1 x hx
          unfold strayB at this
          simpa using this
        · have := b2 a.o (by unfold oversL; exact List.mem_map.2 ⟨a, List.mem_filter.2 ⟨ha, by simpa using ho⟩, rfl⟩)
          unfold strayB at this
          simpa using this
        · have := b3 a.m (by unfold aggNames; exact List.mem_map.2 ⟨a, ha, rfl⟩)
          unfold strayB at this
          simp [hm] at this
theorem agg_is {a : AggL} (h : aggB a = true) : (1 ≤ a.k ∧ a.k ≤ 4) ∧ (a.o = [] → a.k = 1) := by
  unfold aggB at h
  simp only [Bool.and_eq_true, decide_eq_true_eq] at h
  refine ⟨h.1, fun ho => ?_⟩
  have := h.2
  rw [if_pos ho, decide_eq_true_eq] at this
  exact this
/- the columns by their places -/
def keysOf (V B : List (List UInt8)) : List Nat := B.map fun x => (placeP V x).getD 0
theorem keysOf_len (V B : List (List UInt8)) : (keysOf V B).length = B.length := by unfold keysOf; rw [List.length_map]
theorem keysOf_at {V B : List (List UInt8)} (hn : V.Nodup) (hs : ∀ x ∈ B, x ∈ V) {k : Nat} (hk : k < B.length) (hk2 : k < (keysOf V B).length) : colF V B[k] = some (((keysOf V B)[k] : Nat) : Int) ∧ (keysOf V B)[k] < V.length := by
  have e : (keysOf V B)[k] = (placeP V B[k]).getD 0 := List.getElem_map _
  rw [e, colF_place hn]
  cases hp : placeP V B[k] with
  | none => exact absurd (hs _ (List.getElem_mem hk)) (place_none.1 hp)
  | some i => exact ⟨rfl, (place_lt hp).1⟩
theorem keysOf_lt {V B : List (List UInt8)} (hs : ∀ x ∈ B, x ∈ V) : ∀ i ∈ keysOf V B, i < V.length := by
  intro i hi
  unfold keysOf at hi
  obtain ⟨x, hx, rfl⟩ := List.mem_map.1 hi
  cases hp : placeP V x with
  | none => exact absurd (hs x hx) (place_none.1 hp)
  | some j => exact (place_lt hp).1
theorem keysOf_key {V B : List (List UInt8)} (hs : ∀ x ∈ B, x ∈ V) (r : RowL) : keyK (keysOf V B) r = keyP V B r := by
  unfold keyK keysOf keyP
  rw [List.map_map]
  refine List.map_congr_left (fun x hx => ?_)
  show r.getD ((placeP V x).getD 0) nilT = boundP V r x
  unfold boundP
  cases hp : placeP V x with
  | none => exact absurd (hs x hx) (place_none.1 hp)
  | some j => rfl
theorem groups_are {V B : List (List UInt8)} (hs : ∀ x ∈ B, x ∈ V) (R : List RowL) : (if keysOf V B = [] then [R] else gatherP (keyK (keysOf V B)) R) = groupsP V B R := by
  unfold groupsP
  have e : keyK (keysOf V B) = keyP V B := funext fun r => keysOf_key hs r
  rw [e]
  by_cases h : B = []
  · subst h; rfl
  · rw [if_neg h, if_neg (fun c => h (by have := keysOf_len V B; rw [c] at this; exact List.eq_nil_of_length_eq_zero this.symm))]
def intArr (K : List Nat) (k : Nat) : List Value := (K.take k).map (fun (i : Nat) => .int .i64 i) ++ List.replicate (K.length - k) (.int .i64 0)
theorem int_set {K : List Nat} {k : Nat} (hk : k < K.length) : (intArr K k).set k (.int .i64 (K[k] : Nat)) = intArr K (k + 1) := by
  obtain ⟨j, hj⟩ : ∃ j, K.length - k = j + 1 := ⟨K.length - k - 1, by omega⟩
  have hj2 : K.length - (k + 1) = j := by omega
  have hl : ((K.take k).map (fun (i : Nat) => Value.int .i64 i)).length = k := by rw [List.length_map, List.length_take]; omega
  unfold intArr
  rw [hj, hj2, List.take_succ_eq_append_getElem hk, List.map_append, List.replicate_succ, List.set_append_right (h := by rw [hl]; exact Nat.le_refl _), hl, Nat.sub_self, List.set_cons_zero, List.append_assoc]
  rfl
theorem int_size (K : List Nat) {k : Nat} (hk : k ≤ K.length) : (intArr K k).length = K.length := by unfold intArr; rw [List.length_append, List.length_map, List.length_take, List.length_replicate]; omega
theorem int_blk {w : World} {g n : Nat} {K : List Nat} {T : TypeId} (h : Blk w g T (intArr K K.length).toArray) (hn : K.length = n) (hm : n ≤ maxLen) : IntA w (some ⟨g, 0, none⟩) n n K := by
  refine ⟨hn, Nat.le_refl _, hm, fun _ => ⟨g, 0, rfl, blk_lt h, fun j hj => ?_⟩⟩
  rw [blk_cell h]
  unfold intArr
  simp [hj]
theorem row_low {w : World} {a : Option Addr} {n c : Nat} {R : List RowL} (h : RowA w a n c R) : RowJ (fun i => i < w.heap.size) (fun i => i < w.heap.size) w a n c R := ⟨h.len, h.cap, h.most, fun h0 => by
  obtain ⟨g, o, e, hg, hc⟩ := h.cells h0
  refine ⟨g, o, e, hg, hg, fun j hj => ?_⟩
  obtain ⟨a', c', h1, h2⟩ := hc j hj
  exact ⟨a', c', h1, h2.k⟩⟩
theorem row_kk {H K P : Nat → Prop} {w : World} {a : Option Addr} {n c : Nat} {R : List RowL} (h : RowJ H K w a n c R) (h1 : ∀ i, H i → P i) (h2 : ∀ i, K i → P i) : RowK P w a n c R := ⟨h.len, h.cap, h.most, fun h0 => by
  obtain ⟨g, o, e, hg, hh, hc⟩ := h.cells h0
  refine ⟨g, o, e, hg, h1 g hh, fun j hj => ?_⟩
  obtain ⟨a', c', k1, k2⟩ := hc j hj
  exact ⟨a', c', k1, k2.mono (fun i _ hi => h2 i hi)⟩⟩

theorem newsG {w : World} {b : Nat} {T : TypeId} {v : Value} (h : Blk w b T #[v]) : 0 < 1 → ∃ ad, some (⟨b, 0, none⟩ : Addr) = some ad ∧ ∀ j u, [v][j]? = some u → w.cell? (ad.add j) = some u := fun _ => ⟨_, rfl, fun j u hu => by
  cases j with
  | zero => injection hu with hu; subst hu; rw [add_at, blk_cell h]; rfl
  | succ j => simp at hu⟩
theorem oneCellG {a : Option Addr} {n c : Nat} : ∀ u ∈ [Value.slice a n c], u.oneCell' = true := fun u hu => by rw [List.mem_singleton] at hu; subst hu; rfl
/- a line that grows: in blocks from N on; below them all is as it was in Wp -/
structure LineR (Wp : World) (N : Nat) (rv : Value) (L : List TermL) (wr : World) : Prop where
  own : wr.ownsRow N 37 4 rv L.length (cellsT L)
  below : Below N Wp wr
  size : N ≤ wr.heap.size
/- lines in a box's field: the box is X, all else of w0 is as it was -/
structure LnsR (X : Nat) (w0 : World) (us v : Value) (F : List RowL) (wr : World) : Prop where
  all : Blk wr X 25 #[us, v]
  own : ∃ cs, wr.ownsRow w0.heap.size 35 1 v F.length cs ∧ RowCK (fun b => w0.heap.size ≤ b ∧ isT wr b) wr cs F
  same : w0.grownBy wr (some X)
theorem lns_next {X i yn : Nat} {w0 W1 w3 W4 w5 w6 : World} {us v v5 : Value} {F G : List RowL} {y : RowL} {cs : List Value} {a3 : Option Addr} {c3 : Nat} (hX0 : X < w0.heap.size) (hR : LnsR X w0 us v F W1) (hC : RowCK (fun b => w0.heap.size ≤ b ∧ isT W1 b) W1 cs F)
    (hO : W1.ownsRow w0.heap.size 35 1 v i cs) (hl : F.length = i) (h3 : Below W1.heap.size W1 w3) (h34 : Below w3.heap.size w3 W4) (ht : TrmK (fun b => W1.heap.size ≤ b ∧ isT w3 b) w3 a3 yn c3 y) (hy : y.length = yn) (hTK : F ++ [y] = G)
    (h5 : w5.ownsRow w0.heap.size 35 1 v5 (i + 1) (cs ++ [.slice a3 yn c3])) (g5 : W4.grownBy w5 v.ownBlock) (hX6 : Blk w6 X 25 ([us, v].set 1 v5).toArray) (g6 : w5.grownBy w6 (some X)) : LnsR X w0 us v5 G w6 := by
  have hs4 : w3.heap.size ≤ w5.heap.size := Nat.le_trans h34.size g5.size
  have hz1 := hR.same.size
  have hst : ∀ b, b < W1.heap.size → w0.heap.size ≤ b → isT W1 b → w6.heap[b]? = W1.heap[b]? := fun b hb hx hT => (g6.block b (Nat.lt_of_lt_of_le hb (Nat.le_trans h3.size hs4)) (fun e => by injection e with e; omega)).trans ((g5.block b (Nat.lt_of_lt_of_le hb (Nat.le_trans h3.size h34.size)) (fun e => own_notT hO row_trm hT e.symm)).trans ((h34.block b (Nat.lt_of_lt_of_le hb h3.size)).trans (h3.block b hb)))
  have hO3 : w3.ownsRow w0.heap.size 35 1 v i cs := own_same hO (fun g hg => h3.block g (hO.lt g hg).2)
  have hst3 : ∀ b, b < w3.heap.size → w0.heap.size ≤ b → isT w3 b → w6.heap[b]? = w3.heap[b]? := fun b hb hx hT => (g6.block b (Nat.lt_of_lt_of_le hb hs4) (fun e => by injection e with e; omega)).trans ((g5.block b (Nat.lt_of_lt_of_le hb h34.size) (fun e => own_notT hO3 row_trm hT e.symm)).trans (h34.block b hb))
  have hz6 : W1.heap.size ≤ w6.heap.size := Nat.le_trans h3.size (Nat.le_trans hs4 g6.size)
  have h1 : RowCK (fun b => w0.heap.size ≤ b ∧ isT w6 b) w6 cs F := (hC.on ⟨hz6, fun b hb hk => hst b hb hk.1 hk.2⟩).mono (fun b _ hk => ⟨hk.1, isT_same hk.2 (hst b (by obtain ⟨_, hc⟩ := hk.2; exact blk_lt hc) hk.1 hk.2)⟩)
  have ht6 : TrmK (fun b => w0.heap.size ≤ b ∧ isT w6 b) w6 a3 yn c3 y := (ht.on ⟨Nat.le_trans hs4 g6.size, fun b hb hk => hst3 b hb (Nat.le_trans hz1 hk.1) hk.2⟩).mono (fun b _ hk => ⟨Nat.le_trans hz1 hk.1, isT_same hk.2 (hst3 b (by obtain ⟨_, hc⟩ := hk.2; exact blk_lt hc) (Nat.le_trans hz1 hk.1) hk.2)⟩)
  have h2 : RowCK (fun b => w0.heap.size ≤ b ∧ isT w6 b) w6 [.slice a3 yn c3] [y] := ⟨rfl, fun j hj => by
    have e : j = 0 := by simp at hj; exact hj
    subst e
    subst hy
    exact ⟨a3, c3, rfl, ht6⟩⟩
  have h12 := h1.app h2
  rw [hTK] at h12
  have hl2 : G.length = i + 1 := by rw [← hTK, List.length_append, hl]; rfl
  refine ⟨hX6, ⟨cs ++ [.slice a3 yn c3], ?_, h12⟩, ?_⟩
  · rw [hl2]
    exact h5.kept g6 (.inr (fun e => by have := (h5.lt X e).1; omega))
  · refine ⟨(g6.os.trans g5.os).trans (h34.os.trans (h3.os.trans hR.same.os)), (g6.tape.trans g5.tape).trans (h34.tape.trans (h3.tape.trans hR.same.tape)), (g6.output.trans g5.output).trans (h34.output.trans (h3.output.trans hR.same.output)), Nat.le_trans hz1 hz6, fun b hb hne => ?_⟩
    have hb1 : b < W1.heap.size := Nat.lt_of_lt_of_le hb hz1
    exact (g6.block b (Nat.lt_of_lt_of_le hb1 (Nat.le_trans h3.size hs4)) hne).trans ((g5.block b (Nat.lt_of_lt_of_le hb1 (Nat.le_trans h3.size h34.size)) (fun e => by have := (hO.lt b e.symm).1; omega)).trans ((h34.block b (Nat.lt_of_lt_of_le hb1 h3.size)).trans ((h3.block b hb1).trans (hR.same.block b hb hne))))

end Go.Proofs.YtdnfaoanaehjhaaGreatDoor
