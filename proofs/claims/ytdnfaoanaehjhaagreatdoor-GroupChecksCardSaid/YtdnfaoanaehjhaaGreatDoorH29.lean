/- RGrpNames, RGrpCheck, ShpRow, put together. -/
import Derived.Test.YtdnfaoanaehjhaaGreatDoorH11
import Derived.Test.YtdnfaoanaehjhaaGreatDoorH23
import Derived.Test.YtdnfaoanaehjhaaGreatDoorH28
import Derived.Test.YtdnfaoanaehjhaaGreatDoorH22
import Derived.Test.YtdnfaoanaehjhaaGreatDoorGrpCheck
import Derived.Test.YtdnfaoanaehjhaaGreatDoorRows
import Derived.Test.YtdnfaoanaehjhaaGreatDoorH7
import Derived.Test.YtdnfaoanaehjhaaGreatDoorH10
import Derived.Test.YtdnfaoanaehjhaaGreatDoorH3
import Derived.ProofKit
import Derived.OpenShut
import Derived.SizedLaws
import Derived.Lib.SmallJoins
import Derived.Lib.LaidTab
import Derived.Stop.LaidErr
import Derived.MakeChecks
import Derived.Deep.DeepHandedRow

/- Aggregates' names, is an aggregate right, a count as a term: the document's answers (written by gen/mkrnames13.py). -/
namespace Go.Proofs.YtdnfaoanaehjhaaGreatDoor
open Go.RowKit Go.Maps

theorem names_snoc {G : List AggL} {k : Nat} (hk : k < G.length) : aggNames (G.take (k + 1)) = aggNames (G.take k) ++ [G[k].m] := by
  unfold aggNames
  rw [List.take_succ_eq_append_getElem hk, List.map_append]; rfl
theorem names_len (G : List AggL) : (aggNames G).length = G.length := by unfold aggNames; rw [List.length_map]

set_option maxRecDepth 100000 in
set_option maxHeartbeats 2000000 in
theorem gNames_calls (G : List AggL) (a : Option Addr) (n c : Nat) (w : World) (hV : AgA w a n c G) (h6 : n * 16 ≤ 140737488355328) :
    Calls Tryz.prog 37 #[.slice a n c] w fun e w' => ∃ va vc, e = .returned (.slice va n vc) ∧ TxtA w' va n vc (aggNames G) ∧ Below w.heap.size w w' := by
  obtain ⟨i0, hi, hz0, hz1, hz2⟩ := info_parts info_text
  have HV := Lib.hid hV
  have HVL := Lib.hid hV.len
  have hvc := hV.cap
  have hvm := hV.most
  unfold maxLen at hvm
  obtain ⟨N, hN⟩ : ∃ N, w.heap.size = N := ⟨_, rfl⟩
  obtain ⟨W9, hW9⟩ : ∃ W9, w.alloc (.cells #[] 9) = W9 := ⟨_, rfl⟩
  have HNE := Lib.hid hN
  have HW9 := Lib.hid hW9
  have HB9 := Lib.hid (show Below w.heap.size w W9 by rw [← hW9]; exact box_below _ _)
  have HO9 := Lib.hid (show W9.ownsRow w.heap.size 9 1 (.slice (some ⟨N, 0, none⟩) 0 0) 0 [] from by
    have := World.ownsRow_lit (base := N) (e := 9) (size := 1) w #[] 0 (by rw [hN]; exact Nat.le_refl _) (by unfold maxLen; omega) rfl
    rw [hW9, hN] at this
    rw [hN]
    exact this)
  clear hV hN hW9
  go_enter Tryz.func37, Tryz.ntmps37
  go_wp2
  rw [HW9.out, HNE.out]
  go_loopg [3, 4] n (fun g v i wr => ∃ k : Nat, i = .int .i64 k ∧ k + g = n ∧ Hid (wr.ownsRow w.heap.size 9 1 v k (textCells (aggNames (G.take k)))) ∧ Hid (Below w.heap.size w wr))
  case atStart => exact ⟨0, rfl, by omega, HO9, HB9⟩
  case round =>
    obtain ⟨W1, rfl⟩ : ∃ W1, W1 = wr := ⟨_, rfl⟩
    obtain ⟨k, rfl, hkg, HO, HBW⟩ := hrel
    have hk0 : (0 : Int) ≤ (k : Int) := by omega
    by_cases hk : k < n
    · have hkL : k < G.length := by rw [HVL.out]; exact hk
      obtain ⟨gg, rfl⟩ : ∃ gg, gk = gg + 1 := ⟨gk - 1, by omega⟩
      obtain ⟨g, o, ha, hgw, hcells⟩ := HV.out.cells (by omega)
      subst ha
      have hgW : g < W1.heap.size := Nat.lt_of_lt_of_le hgw HBW.out.size
      obtain ⟨c0, c1, c2⟩ := (hcells k hkL).on HBW.out hgw
      have HSN := Lib.hid (names_snoc hkL)
      have HM1 := Lib.hid (show k + 1 ≤ maxLen by unfold maxLen; omega)
      have HM2 := Lib.hid (show (k + 1) * 16 ≤ 140737488355328 by omega)
      clear hcells
      generalize G[k] = y at c0 c1 c2 HSN
      obtain ⟨yk, yo, ym⟩ := y
      dsimp only at c0 c1 c2 HSN
      have hkn : (k : Int) < (n : Int) := by omega
      go_wp2_with (at_builtin; (refine wpList_append_own_at _ rfl (.tmp 12) (.tmp 18) 22 rfl w.heap.size 9 i0 (.string ⟨#[]⟩) 1 16 Tryz.underlying22 hi hz0 hz1 hz2 rfl (by decide) u3 _ _ rfl (HO.out.alloc _) ⟨W1.heap.size, 0, none⟩ 1 1 [.string (bs ym)] rfl rfl (news_gen _ _ _ (by simp)) (by intro u hu; simp at hu; subst hu; rfl) HM1.out HM2.out (Nat.le_trans HBW.out.size (by simp)) ?_; intro v4 w4 ho4 hg4 _ _; have HO4 := Lib.hid ho4; have HG4 := Lib.hid hg4; clear ho4 hg4))
      go_roundg gg
      case measure => omega
      case rel => exact ⟨k + 1, by go_num, by omega, Lib.hid (by rw [HSN.out, textCells_app]; exact HO4.out), Lib.hid ((fb2 HBW.out (box_below _ _) (Nat.le_refl _)).grown HG4.out (Nat.le_trans HBW.out.size (by simp)) (fun q hq => (HO.out.lt q hq).1))⟩
    · have hkn : k = n := by omega
      subst hkn
      have HE := Lib.hid (show G.take k = G from List.take_of_length_le (by rw [HVL.out]; omega))
      have k1 : ¬ (k : Int) < (k : Int) := by omega
      have ho := HO.out
      rw [HE.out] at ho
      have hlen : (aggNames G).length = k := by rw [names_len, HVL.out]
      rw [← hlen] at ho
      obtain ⟨va, vc, rfl, hT⟩ := own_txts ho
      rw [hlen] at hT
      have HT := Lib.hid hT.a
      clear ho hT
      go_wp2
      go_ret
      exact ⟨va, vc, rfl, HT.out, HBW.out⟩

set_option maxRecDepth 100000 in
set_option maxHeartbeats 2000000 in
theorem gRight_calls (g : AggL) (hx : g.ok) (w : World) :
    Calls Tryz.prog 38 #[g.v] w fun e w' => e = .returned (.bool (aggB g && nameL g.m)) ∧ Below w.heap.size w w' := by
  have HNM := Lib.hid (fun W => rIsName_calls (bs g.m) W hx.2)
  have HNO := Lib.hid (fun W => rIsName_calls (bs g.o) W hx.1)
  simp only [bs_data] at HNM HNO
  have HAB := Lib.hid (show aggB g = (decide (1 ≤ g.k ∧ g.k ≤ 4) && (if g.o = [] then decide (g.k = 1) else nameL g.o)) from rfl)
  have HZ := empty_is g.o
  clear hx
  generalize aggB g = q at HAB ⊢
  obtain ⟨gk, go, gm⟩ := g
  dsimp only at HNM HNO HAB HZ ⊢
  simp only [AggL.v]
  by_cases k1 : gk < 1
  · have HE := Lib.hid (show q = false by rw [HAB.out, decide_eq_false (by omega)]; rfl)
    go_enter Tryz.func38, Tryz.ntmps38
    go_wp2
    go_ret
    exact ⟨by rw [HE.out]; rfl, box_below _ _⟩
  by_cases k4 : 4 < gk
  · have HE := Lib.hid (show q = false by rw [HAB.out, decide_eq_false (by omega)]; rfl)
    go_enter Tryz.func38, Tryz.ntmps38
    go_wp2
    go_ret
    exact ⟨by rw [HE.out]; rfl, box_below _ _⟩
  replace HAB := Lib.hid (show q = (if go = [] then decide (gk = 1) else nameL go) by rw [HAB.out, decide_eq_true (show 1 ≤ gk ∧ gk ≤ 4 by omega)]; rfl)
  cases hm : nameL gm with
  | false =>
    rw [hm] at HNM
    clear hm
    go_enter Tryz.func38, Tryz.ntmps38
    go_wp2_with (go_at_call 51; refine (HNM.out _).mono ?_; rintro e w1 ⟨rfl, rfl⟩)
    go_ret
    exact ⟨by simp, box_below _ _⟩
  | true =>
    rw [hm] at HNM
    clear hm
    by_cases hz : go = []
    · rw [decide_eq_true hz] at HZ
      have HE := Lib.hid (HAB.out.trans (if_pos hz))
      clear hz HAB HNO
      go_enter Tryz.func38, Tryz.ntmps38
      go_wp2_with (go_at_call 51; refine (HNM.out _).mono ?_; rintro e w1 ⟨rfl, rfl⟩)
      go_ret
      exact ⟨by rw [HE.out]; by_cases h : gk = 1 <;> simp [h], box_below _ _⟩
    · rw [decide_eq_false hz] at HZ
      have HE := Lib.hid (HAB.out.trans (if_neg hz))
      clear hz HAB
      go_enter Tryz.func38, Tryz.ntmps38
      go_wp2_with fail
      refine (HNM.out _).mono ?_
      rintro e w1 ⟨rfl, rfl⟩
      go_wp2_with fail
      refine (HNO.out _).mono ?_
      rintro e w2 ⟨rfl, rfl⟩
      go_wp2
      go_ret
      exact ⟨by rw [HE.out]; simp, box_below _ _⟩

theorem digs_dec (n : Nat) : Nm.digsL n 1 = Lib.decDigits n := Nm.digs_one n
set_option maxRecDepth 100000 in
set_option maxHeartbeats 2000000 in
theorem gCount_calls (n : Nat) (hn : n ≤ 999999999) (w : World) : Calls Tryz.prog 48 #[.int .i64 n] w fun e w' => e = .returned (countT n).v ∧ Below w.heap.size w w' := by
  have HD : Hid (∀ W, Calls Tryz.prog 76 #[.int .i64 n, .int .i64 1] W fun e w' => e = .returned (.string (bs (Lib.decDigits n))) ∧ Below W.heap.size W w') := Lib.hid fun W => by
    have := Nm.rDigits_calls n 1 W hn (by omega) (by omega)
    rw [digs_dec] at this
    exact this
  simp only [countT, TermL.v]
  generalize Lib.decDigits n = x at HD ⊢
  obtain ⟨A, hA⟩ : ∃ A, w.heap.size = A := ⟨_, rfl⟩
  have HAE := Lib.hid hA
  obtain ⟨W0, hW0⟩ : ∃ W0, w.alloc (.cells #[.int .i64 0, .string ⟨#[]⟩, .string ⟨#[]⟩, .string ⟨#[]⟩] 37) = W0 := ⟨_, rfl⟩
  have HW0 := Lib.hid hW0
  have HB0 := Lib.hid (show Below w.heap.size w W0 by rw [← hW0]; exact box_below _ _)
  have HX0 := Lib.hid (show Blk W0 A 37 #[.int .i64 0, .string ⟨#[]⟩, .string ⟨#[]⟩, .string ⟨#[]⟩] by rw [← hW0, ← hA]; exact blk_new _ _ _)
  clear hA hW0
  go_enter Tryz.func48, Tryz.ntmps48
  go_wp2_with fail
  rw [HW0.out, HAE.out]
  refine (HD.out _).mono ?_
  rintro e w1 ⟨rfl, hb1⟩
  have HX1 := Lib.hid (blk_on HX0.out hb1 (blk_lt HX0.out))
  have HB1 := Lib.hid (fb2 HB0.out hb1 (Nat.le_refl _))
  clear hb1
  go_wp2_with (refine whole_abs 37 (.tmp 2) (.tmp 5) ⟨rfl, rfl⟩ A #[.int .i64 2, .string (bs x), .string (bs tyIL), .string ⟨#[]⟩] rfl rfl 37 #[.int .i64 0, .string ⟨#[]⟩, .string ⟨#[]⟩, .string ⟨#[]⟩] HX1.out (by kernel_rfl) rfl (by kernel_rfl) ?_; intro w9 hA9 hG9)
  have f0 : w9.cell? ⟨A, 0, none⟩ = some (.int .i64 2) := (blk_cell hA9.out 0).trans rfl
  have f1 : w9.cell? ⟨A, 1, none⟩ = some (.string (bs x)) := (blk_cell hA9.out 1).trans rfl
  have f2 : w9.cell? ⟨A, 2, none⟩ = some (.string (bs tyIL)) := (blk_cell hA9.out 2).trans rfl
  have f3 : w9.cell? ⟨A, 3, none⟩ = some (.string ⟨#[]⟩) := (blk_cell hA9.out 3).trans rfl
  refine bodyPost_ret (v := .agg #[.int .i64 2, .string (bs x), .string (bs tyIL), .string ⟨#[]⟩]) (by simp [results, Tryz.results48, f0, f1, f2, f3, go_sem]) rfl ⟨rfl, ?_⟩
  exact HB1.out.grown hG9.out HB1.out.size (fun j hj => by injection hj with hj; have := HAE.out; omega)

end Go.Proofs.YtdnfaoanaehjhaaGreatDoor

/- May a table be grouped? The document's Check (written by gen/mkrcheck13.py). -/
namespace Go.Proofs.YtdnfaoanaehjhaaGreatDoor
open Go.RowKit Go.Maps

def badA (V : List (List UInt8)) (a : AggL) : Bool := decide (a.m ∈ V) || (!decide (a.o = []) && !decide (a.o ∈ V))
theorem scope_is (V B : List (List UInt8)) (L : List AggL) : scopeG V B L = (!B.any (strayB V) && !L.any (badA V)) := by
  unfold scopeG
  congr 1
  induction L with
  | nil => rfl
  | cons a L ih =>
    have e1 : (oversL (a :: L)).any (strayB V) = ((!decide (a.o = []) && !decide (a.o ∈ V)) || (oversL L).any (strayB V)) := by
      unfold oversL
      rw [List.filter_cons]
      by_cases h : a.o = []
      · simp [h]
      · simp [h, strayB]
    have e2 : ((aggNames (a :: L)).any fun x => !strayB V x) = (decide (a.m ∈ V) || (aggNames L).any fun x => !strayB V x) := by
      unfold aggNames
      rw [List.map_cons, List.any_cons]
      congr 1
      unfold strayB
      simp
    have e3 : badA V a = (decide (a.m ∈ V) || (!decide (a.o = []) && !decide (a.o ∈ V))) := rfl
    rw [e1, e2, List.any_cons, e3, Bool.not_or, Bool.not_or, Bool.not_or, ← ih]
    cases decide (a.m ∈ V) <;> cases (!decide (a.o = []) && !decide (a.o ∈ V)) <;> cases (oversL L).any (strayB V) <;> rfl

set_option maxRecDepth 100000 in
set_option maxHeartbeats 8000000 in
theorem rGCheck_calls (V : List (List UInt8)) (R : List RowL) (B : List (List UInt8)) (L : List AggL) (hx : okV V) (hr : okR R) (hB : okV B) (hL : ∀ g ∈ L, g.ok) (tv : Value) (ba : Option Addr) (bn bc : Nat) (la : Option Addr) (ln lc : Nat) (w : World) (ht : TabA w tv V R) (hb : TxtA w ba bn bc B) (hl : AgA w la ln lc L) (h6 : ln * 16 ≤ 140737488355328) :
    Calls Tryz.prog 12 #[tv, .slice ba bn bc, .slice la ln lc] w fun e w' => e = .returned (.int .i64 (checkG V R B L)) ∧ Below w.heap.size w w' := by
  obtain ⟨va, n, vc, ra, m, rc, rfl, hV, hR⟩ := ht
  obtain ⟨A, hA⟩ : ∃ A, w.heap.size = A := ⟨_, rfl⟩
  obtain ⟨W0, hW0⟩ : ∃ W0, w.alloc (.cells #[.slice va n vc, .slice ra m rc] 25) = W0 := ⟨_, rfl⟩
  have HB0 := Lib.hid (show Below w.heap.size w W0 by rw [← hW0]; exact box_below _ _)
  have HA0 := Lib.hid (show Blk W0 A 25 #[.slice va n vc, .slice ra m rc] by rw [← hW0, ← hA]; exact blk_new _ _ _)
  have HTR := Lib.hid (tabRight_calls V R hx hr va ra n vc m rc W0 (hV.on HB0.out) (hR.on HB0.out))
  have HNB := Lib.hid (fun W (h : Below w.heap.size w W) => rNames_calls B hB ba bn bc W (hb.on h))
  have HNL := Lib.hid (fun W (h : Below w.heap.size w W) => gNames_calls L la ln lc W (hl.on h) h6)
  have HNN := Lib.hid (fun W va vc h => rNames_calls (aggNames L) (names_ok hL) va ln vc W h)
  have HV := Lib.hid hV
  have HXL := Lib.hid hL
  have HBA := Lib.hid hb
  have HLA := Lib.hid hl
  have HBL := Lib.hid hb.len
  have HLL := Lib.hid hl.len
  have hbc := hb.cap
  have hbm := hb.most
  have hlc := hl.cap
  have hlm := hl.most
  unfold maxLen at hbm hlm
  have HAE := Lib.hid hA
  have HW0 := Lib.hid hW0
  have HSC := Lib.hid (scope_is V B L)
  clear hA hW0 hV hR hx hr hB hL hb hl
  cases hq : rightT V R with
  | false =>
    rw [hq] at HTR
    have HE := Lib.hid (check_form (V := V) (R := R) (B := B) (L := L) (by unfold formG; rw [hq]; rfl))
    clear hq HNB HNL HNN
    go_enter Tryz.func12, Tryz.ntmps12
    go_wp2_with fail
    rw [HW0.out, HAE.out]
    refine (HTR.out).mono ?_
    rintro e w1 ⟨rfl, hb1⟩
    have HB1 := Lib.hid (fb2 HB0.out hb1 (Nat.le_refl _))
    clear hb1
    go_wp2
    go_ret
    exact ⟨by rw [HE.out]; rfl, HB1.out⟩
  | true =>
  rw [hq] at HTR
  have HFA := Lib.hid (form_all (B := B) (L := L) hq)
  have HV32 := Lib.hid (right_nodup hq).2.1
  clear hq
  cases p1 : namesB [] B with
  | false =>
    rw [p1] at HNB
    have HE := Lib.hid (check_form (V := V) (R := R) (B := B) (L := L) (by rw [HFA.out, p1]; rfl))
    clear p1 HNL HNN
    go_enter Tryz.func12, Tryz.ntmps12
    go_wp2_with fail
    rw [HW0.out, HAE.out]
    refine (HTR.out).mono ?_
    rintro e w1 ⟨rfl, hb1⟩
    have HB1 := Lib.hid (fb2 HB0.out hb1 (Nat.le_refl _))
    clear hb1
    go_wp2_with fail
    refine (HNB.out _ HB1.out).mono ?_
    rintro e w2 ⟨rfl, hb2⟩
    have HB2 := Lib.hid (fb2 HB1.out hb2 (Nat.le_refl _))
    clear hb2
    go_wp2
    go_ret
    exact ⟨by rw [HE.out]; rfl, HB2.out⟩
  | true =>
  rw [p1] at HNB
  cases p2 : namesB [] (aggNames L) with
  | false =>
    rw [p2] at HNN
    have HE := Lib.hid (check_form (V := V) (R := R) (B := B) (L := L) (by rw [HFA.out, p1, p2]; rfl))
    clear p1 p2
    go_enter Tryz.func12, Tryz.ntmps12
    go_wp2_with fail
    rw [HW0.out, HAE.out]
    refine (HTR.out).mono ?_
    rintro e w1 ⟨rfl, hb1⟩
    have HB1 := Lib.hid (fb2 HB0.out hb1 (Nat.le_refl _))
    clear hb1
    go_wp2_with fail
    refine (HNB.out _ HB1.out).mono ?_
    rintro e w2 ⟨rfl, hb2⟩
    have HB2 := Lib.hid (fb2 HB1.out hb2 (Nat.le_refl _))
    clear hb2
    go_wp2_with fail
    refine (HNL.out _ HB2.out).mono ?_
    rintro e w3 ⟨na, nc, rfl, hT3, hb3⟩
    have HB3 := Lib.hid (fb2 HB2.out hb3 (Nat.le_refl _))
    have HT3 := Lib.hid hT3
    clear hb3 hT3
    go_wp2_with fail
    refine (HNN.out _ na nc HT3.out).mono ?_
    rintro e w4 ⟨rfl, hb4⟩
    have HB4 := Lib.hid (fb2 HB3.out hb4 (Nat.le_refl _))
    clear hb4
    go_wp2
    go_ret
    exact ⟨by rw [HE.out]; rfl, HB4.out⟩
  | true =>
  rw [p2] at HNN
  have HNA := Lib.hid (show ∀ x ∈ aggNames L, nameL x = true from fun x hx => by
    have h := p2
    rw [names_is, Bool.and_eq_true] at h
    exact List.all_eq_true.1 h.1 x hx)
  have HP1 := Lib.hid p1
  have HP2 := Lib.hid p2
  clear p1 p2
  go_enter Tryz.func12, Tryz.ntmps12
  go_wp2_with fail
  rw [HW0.out, HAE.out]
  refine (HTR.out).mono ?_
  rintro e w1 ⟨rfl, hb1⟩
  have HA1 := Lib.hid (blk_on HA0.out hb1 (blk_lt HA0.out))
  have HB1 := Lib.hid (fb2 HB0.out hb1 (Nat.le_refl _))
  clear hb1
  go_wp2_with fail
  refine (HNB.out _ HB1.out).mono ?_
  rintro e w2 ⟨rfl, hb2⟩
  have HA2 := Lib.hid (blk_on HA1.out hb2 (blk_lt HA1.out))
  have HB2 := Lib.hid (fb2 HB1.out hb2 (Nat.le_refl _))
  clear hb2
  go_wp2_with fail
  refine (HNL.out _ HB2.out).mono ?_
  rintro e w3 ⟨na, nc, rfl, hT3, hb3⟩
  have HA3 := Lib.hid (blk_on HA2.out hb3 (blk_lt HA2.out))
  have HB3 := Lib.hid (fb2 HB2.out hb3 (Nat.le_refl _))
  have HT3 := Lib.hid hT3
  clear hb3 hT3
  go_wp2_with fail
  refine (HNN.out _ na nc HT3.out).mono ?_
  rintro e w4 ⟨rfl, hb4⟩
  have HA4 := Lib.hid (blk_on HA3.out hb4 (blk_lt HA3.out))
  have HB4 := Lib.hid (fb2 HB3.out hb4 (Nat.le_refl _))
  clear hb4 HT3 HNN HNL HNB HTR HA0 HA1 HA2 HA3 HB0 HB1 HB2 HB3
  go_wp2
  go_loopg [7] ln (fun g i wr => ∃ k : Nat, i = .int .i64 k ∧ k + g = ln ∧ Hid ((L.take k).any (fun a => !aggB a) = false) ∧ Hid (Below w.heap.size w wr) ∧ Hid (Blk wr A 25 #[.slice va n vc, .slice ra m rc]))
  case atStart => exact ⟨0, rfl, by omega, Lib.hid rfl, HB4, HA4⟩
  case round =>
    obtain ⟨W1, rfl⟩ : ∃ W1, W1 = wr := ⟨_, rfl⟩
    obtain ⟨k, rfl, hkg, HR, HBW, HAW⟩ := hrel
    have k0 : (0 : Int) ≤ (k : Int) := by omega
    by_cases hk : k < ln
    · obtain ⟨gg, rfl⟩ : ∃ gg, gk = gg + 1 := ⟨gk - 1, by omega⟩
      have hkL : k < L.length := by rw [HLL.out]; exact hk
      obtain ⟨g, o, ha, hgw, hcells⟩ := HLA.out.cells (by omega)
      subst ha
      obtain ⟨c0, c1, c2⟩ := (hcells k hkL).on HBW.out hgw
      have HNX := Lib.hid (fun h => anyN_next (p := fun a => !aggB a) HR.out hkL h)
      have HHIT := Lib.hid (fun h => anyN_hit (p := fun a => !aggB a) hkL h)
      have HC := Lib.hid (gRight_calls L[k] (HXL.out _ (List.getElem_mem hkL)) W1)
      have hnm : nameL L[k].m = true := HNA.out _ (List.mem_map.2 ⟨_, List.getElem_mem hkL, rfl⟩)
      rw [hnm, Bool.and_true] at HC
      clear hcells hnm
      generalize L[k] = y at c0 c1 c2 HNX HHIT HC
      have k1 : (k : Int) < (ln : Int) := by omega
      cases hq : aggB y with
      | false =>
        rw [hq] at HC
        have HE := Lib.hid (check_form (V := V) (R := R) (B := B) (L := L) (by rw [HFA.out, HHIT.out (by rw [hq]; rfl)]; simp))
        clear hq HNX HHIT
        obtain ⟨yk, yo, ym⟩ := y
        simp only [AggL.v] at HC
        dsimp only at c0 c1 c2
        go_wp2_with fail
        refine HC.out.mono ?_
        rintro e w5 ⟨rfl, hb5⟩
        have HB5 := Lib.hid (fb2 HBW.out hb5 (Nat.le_refl _))
        clear hb5
        go_wp2
        go_ret
        exact ⟨by rw [HE.out]; rfl, HB5.out⟩
      | true =>
        rw [hq] at HC
        have HN := Lib.hid (HNX.out (by rw [hq]; rfl))
        clear hq HNX HHIT
        obtain ⟨yk, yo, ym⟩ := y
        simp only [AggL.v] at HC
        dsimp only at c0 c1 c2
        go_wp2_with fail
        refine HC.out.mono ?_
        rintro e w5 ⟨rfl, hb5⟩
        have HB5 := Lib.hid (fb2 HBW.out hb5 (Nat.le_refl _))
        have HA5 := Lib.hid (blk_on HAW.out hb5 (blk_lt HAW.out))
        clear hb5
        go_wp2
        go_roundg gg
        case measure => omega
        case rel => exact ⟨k + 1, by go_num, by omega, HN, HB5, HA5⟩
    · have k1 : ¬ (k : Int) < (ln : Int) := by omega
      have HLA1 := Lib.hid (anyN_end HR.out (by rw [HLL.out]; omega))
      have HFT := Lib.hid (show formG V B R L = true by rw [HFA.out, HP1.out, HP2.out, HLA1.out]; rfl)
      obtain ⟨W5, hW5⟩ : ∃ W5, W5 = W1 := ⟨_, rfl⟩
      subst hW5
      have HB5 := HBW
      have HA5 := HAW
      clear HR HBW HAW hkg hk
      go_wp2
      go_loopg [8] bn (fun g i wr => ∃ k : Nat, i = .int .i64 k ∧ k + g = bn ∧ Hid ((B.take k).any (strayB V) = false) ∧ Hid (Below w.heap.size w wr) ∧ Hid (Blk wr A 25 #[.slice va n vc, .slice ra m rc]))
      case atStart => exact ⟨0, rfl, by omega, Lib.hid rfl, HB5, HA5⟩
      case round =>
        clear HB5 HA5 HB4 HA4
        obtain ⟨W1, rfl⟩ : ∃ W1, W1 = wr := ⟨_, rfl⟩
        obtain ⟨k, rfl, hkg, HR, HBW, HAW⟩ := hrel
        have k0 : (0 : Int) ≤ (k : Int) := by omega
        by_cases hk : k < bn
        · obtain ⟨gg, rfl⟩ : ∃ gg, gk = gg + 1 := ⟨gk - 1, by omega⟩
          have hkL : k < B.length := by rw [HBL.out]; exact hk
          obtain ⟨g, o, ha, hgw, hcells⟩ := HBA.out.cells (by omega)
          subst ha
          have c0 := keptC (hcells k hkL) HBW.out hgw
          have q0 : W1.cell? ⟨A, 0, none⟩ = some (.slice va n vc) := (blk_cell HAW.out 0).trans rfl
          have HNX := Lib.hid (fun h => anyN_next (p := strayB V) HR.out hkL h)
          have HHIT := Lib.hid (fun h => anyN_hit (p := strayB V) hkL h)
          have HIN := Lib.hid (fun nn => InA_calls V B[k] va n vc (W1.drewN nn) (HV.out.on (drewN_below HBW.out nn)))
          clear hcells
          generalize B[k] = y at c0 HNX HHIT HIN
          have k1 : (k : Int) < (bn : Int) := by omega
          by_cases hy : y ∈ V
          · rw [decide_eq_true hy] at HIN
            have HN := Lib.hid (HNX.out (by unfold strayB; simp [hy]))
            clear HNX HHIT hy
            go_wp2
            go_quiet (first | (go_at_call 39; exact Calls.quiet_of_same (HIN.out _)))
            go_wp2
            go_roundg gg
            case measure => omega
            case rel => exact ⟨k + 1, by go_num, by omega, HN, Lib.hid (drewN_below HBW.out _), Lib.hid (blk_on HAW.out (drewN_below (Below.refl _ _) _) (blk_lt HAW.out))⟩
          · rw [decide_eq_false hy] at HIN
            have HE := Lib.hid (check_scope (V := V) (R := R) (B := B) (L := L) HFT.out (by rw [HSC.out, HHIT.out (by unfold strayB; simp [hy])]; simp))
            clear HNX HHIT hy
            go_wp2
            go_quiet (first | (go_at_call 39; exact Calls.quiet_of_same (HIN.out _)))
            go_wp2
            go_ret
            exact ⟨by rw [HE.out]; rfl, drewN_below HBW.out _⟩
        · have k1 : ¬ (k : Int) < (bn : Int) := by omega
          have HBS := Lib.hid (anyN_end HR.out (by rw [HBL.out]; omega))
          have hbn : bn ≤ 32 := by have h1 := by_len HP1.out HBS.out; have h2 := HV32.out; have h3 := HBL.out; omega
          obtain ⟨W6, hW6⟩ : ∃ W6, W6 = W1 := ⟨_, rfl⟩
          subst hW6
          have HB6 := HBW
          have HA6 := HAW
          clear HR HBW HAW hkg hk
          go_wp2
          go_loopg [9] ln (fun g i wr => ∃ k : Nat, i = .int .i64 k ∧ k + g = ln ∧ Hid ((L.take k).any (badA V) = false) ∧ Hid (Below w.heap.size w wr) ∧ Hid (Blk wr A 25 #[.slice va n vc, .slice ra m rc]))
          case atStart => exact ⟨0, rfl, by omega, Lib.hid rfl, HB6, HA6⟩
          case round =>
            clear HB6 HA6
            obtain ⟨W1, rfl⟩ : ∃ W1, W1 = wr := ⟨_, rfl⟩
            obtain ⟨k, rfl, hkg, HR, HBW, HAW⟩ := hrel
            have k0 : (0 : Int) ≤ (k : Int) := by omega
            by_cases hk : k < ln
            · obtain ⟨gg, rfl⟩ : ∃ gg, gk = gg + 1 := ⟨gk - 1, by omega⟩
              have hkL : k < L.length := by rw [HLL.out]; exact hk
              obtain ⟨g, o, ha, hgw, hcells⟩ := HLA.out.cells (by omega)
              subst ha
              obtain ⟨c0, c1, c2⟩ := (hcells k hkL).on HBW.out hgw
              have q0 : W1.cell? ⟨A, 0, none⟩ = some (.slice va n vc) := (blk_cell HAW.out 0).trans rfl
              have HNX := Lib.hid (fun h => anyN_next (p := badA V) HR.out hkL h)
              have HHIT := Lib.hid (fun h => anyN_hit (p := badA V) hkL h)
              have HBD := Lib.hid (show badA V L[k] = (decide (L[k].m ∈ V) || (!decide (L[k].o = []) && !decide (L[k].o ∈ V))) from rfl)
              have HI1 := Lib.hid (fun nn => InA_calls V L[k].m va n vc (W1.drewN nn) (HV.out.on (drewN_below HBW.out nn)))
              have HI2 := Lib.hid (fun nn => InA_calls V L[k].o va n vc (W1.drewN nn) (HV.out.on (drewN_below HBW.out nn)))
              clear hcells
              generalize hbd : badA V L[k] = z at HNX HHIT HBD
              clear hbd
              generalize L[k] = y at c0 c1 c2 HBD HI1 HI2
              obtain ⟨yk, yo, ym⟩ := y
              dsimp only at c0 c1 c2 HBD HI1 HI2
              have hz := empty_is yo
              generalize bs yo = so at c1 hz HI2
              generalize bs ym = sm at c2 HI1
              have k1 : (k : Int) < (ln : Int) := by omega
              by_cases hm : ym ∈ V
              · rw [decide_eq_true hm] at HI1
                have HE := Lib.hid (check_scope (V := V) (R := R) (B := B) (L := L) HFT.out (by rw [HSC.out, HHIT.out (by rw [HBD.out, decide_eq_true hm]; rfl)]; simp))
                clear HNX HHIT hm HBD
                go_wp2
                go_quiet (first | (go_at_call 39; exact Calls.quiet_of_same (HI1.out _)))
                go_wp2
                go_ret
                exact ⟨by rw [HE.out]; rfl, drewN_below HBW.out _⟩
              · rw [decide_eq_false hm] at HI1
                by_cases ho : yo = []
                · rw [decide_eq_true ho] at hz
                  have HN := Lib.hid (HNX.out (by rw [HBD.out, decide_eq_false hm, decide_eq_true ho]; rfl))
                  clear HNX HHIT hm HBD ho
                  go_wp2
                  go_quiet (first | (go_at_call 39; exact Calls.quiet_of_same (HI1.out _)))
                  go_wp2
                  go_roundg gg
                  case measure => omega
                  case rel => exact ⟨k + 1, by go_num, by omega, HN, Lib.hid (drewN_below HBW.out _), Lib.hid (blk_on HAW.out (drewN_below (Below.refl _ _) _) (blk_lt HAW.out))⟩
                · rw [decide_eq_false ho] at hz
                  by_cases hv : yo ∈ V
                  · rw [decide_eq_true hv] at HI2
                    have HN := Lib.hid (HNX.out (by rw [HBD.out, decide_eq_false hm, decide_eq_true hv]; simp))
                    clear HNX HHIT hm HBD ho hv
                    go_wp2
                    go_quiet (first | (go_at_call 39; with_reducible exact Calls.quiet_of_same (HI1.out _)) | (go_at_call 39; with_reducible exact Calls.quiet_of_same (HI2.out _)))
                    go_wp2
                    go_roundg gg
                    case measure => omega
                    case rel => exact ⟨k + 1, by go_num, by omega, HN, Lib.hid (drewN_below HBW.out _), Lib.hid (blk_on HAW.out (drewN_below (Below.refl _ _) _) (blk_lt HAW.out))⟩
                  · rw [decide_eq_false hv] at HI2
                    have HE := Lib.hid (check_scope (V := V) (R := R) (B := B) (L := L) HFT.out (by rw [HSC.out, HHIT.out (by rw [HBD.out, decide_eq_false hv, decide_eq_false ho]; simp)]; simp))
                    clear HNX HHIT hm HBD ho hv
                    go_wp2
                    go_quiet (first | (go_at_call 39; with_reducible exact Calls.quiet_of_same (HI1.out _)) | (go_at_call 39; with_reducible exact Calls.quiet_of_same (HI2.out _)))
                    go_wp2
                    go_ret
                    exact ⟨by rw [HE.out]; rfl, drewN_below HBW.out _⟩
            · have k1 : ¬ (k : Int) < (ln : Int) := by omega
              have HLB := Lib.hid (anyN_end HR.out (by rw [HLL.out]; omega))
              have HST := Lib.hid (show scopeG V B L = true by rw [HSC.out, HBS.out, HLB.out]; rfl)
              have gw : IntKind.i64.wrap ((bn : Int) + (ln : Int)) = (bn : Int) + (ln : Int) := by rw [IntKind.wrap_i64]; omega
              by_cases h32 : 32 < bn + ln
              · have HE := Lib.hid (check_long (V := V) (R := R) (B := B) (L := L) HFT.out HST.out (by rw [HBL.out, HLL.out]; exact h32))
                have g32 : (32 : Int) < (bn : Int) + (ln : Int) := by omega
                go_wp2
                go_ret
                exact ⟨by rw [HE.out]; rfl, HBW.out⟩
              · have HE := Lib.hid (check_ok (V := V) (R := R) (B := B) (L := L) HFT.out HST.out (by rw [HBL.out, HLL.out]; exact h32))
                have g32 : ¬ (32 : Int) < (bn : Int) + (ln : Int) := by omega
                go_wp2
                go_ret
                exact ⟨by rw [HE.out]; rfl, HBW.out⟩

end Go.Proofs.YtdnfaoanaehjhaaGreatDoor

/- A term as an argument; the listed tables; a world that holds them (written by gen/mkrow12.py). -/
namespace Go.Proofs.YtdnfaoanaehjhaaGreatDoor
open Go.ChangeShapes Go.WideShapes Go.ChangeAt Go.RowKit Go.Joins
open Go.ChangeMaps (open_string shut_string)

set_option maxRecDepth 100000 in
theorem Tryz.own : ownKnob Tryz.prog.godebug = none := by kernel_rfl

section
variable {H : Type} {enc : TypeId × Value → H}
/- a term's datum -/
def termD (k : Int) (x y z : ByteArray) : DataW H := .agg [.lit (.int .i64 k), .lit (.string x.data.toList), .lit (.string y.data.toList), .lit (.string z.data.toList)]

set_option maxRecDepth 100000 in
theorem open_term {W : World} {base b0 : Nat} {spare : Nat → Bool} {held : Bool} {v : Value} {d : DataW H} {p : List MemPlace} (hv : Value.okWide Tryz.prog W .any b0 37 v) (h : DataW.Trod enc Tryz.prog W base spare held 37 v d p) :
    ∃ (k : Int) (x y z : ByteArray), v = .agg #[.int .i64 k, .string x, .string y, .string z] ∧ d = termD k x y z ∧ p = [] ∧ (Lit.int .i64 k).wf = true ∧ x.size ≤ maxLen ∧ y.size ≤ maxLen ∧ z.size ≤ maxLen := by
  obtain ⟨c0, c1, c2, c3, y0, y1, y2, y3, m, rfl, rfl, rfl, h0, h1, h2, h3⟩ := open_agg4 Tryz.underlying37 (by kernel_rfl) Tryz.cellsTerm hv h
  obtain ⟨k, e0, rfl, wk⟩ := DataW.trod_int Tryz.underlying3 h0
  obtain ⟨x, e1, rfl, wx⟩ := DataW.trod_string Tryz.underlying9 h1
  obtain ⟨y, e2, rfl, wy⟩ := DataW.trod_string Tryz.underlying9 h2
  obtain ⟨z, e3, rfl, wz⟩ := DataW.trod_string Tryz.underlying9 h3
  simp at e0 e1 e2 e3
  subst e0 e1 e2 e3
  exact ⟨k, x, y, z, rfl, rfl, rfl, wk, wx, wy, wz⟩

set_option maxRecDepth 100000 in
theorem shut_term {k : Int} {x y z : ByteArray} (wk : (Lit.int .i64 k).wf = true) (wx : x.size ≤ maxLen) (wy : y.size ≤ maxLen) (wz : z.size ≤ maxLen) (W : World) (base : Nat) (spare : Nat → Bool) (held : Bool) :
    DataW.Trod enc Tryz.prog W base spare held 37 (.agg #[.int .i64 k, .string x, .string y, .string z]) (termD k x y z) [] :=
  shut_agg4 (y0 := (.lit (.int .i64 k), [])) (y1 := (.lit (.string x.data.toList), [])) (y2 := (.lit (.string y.data.toList), [])) (y3 := (.lit (.string z.data.toList), [])) Tryz.underlying37 (by kernel_rfl) Tryz.cellsTerm
    ⟨1, by simp [DataW.trod, Tryz.underlying3, wk]⟩ ⟨1, by simp [DataW.trod, Tryz.underlying9, wx]⟩ ⟨1, by simp [DataW.trod, Tryz.underlying9, wy]⟩ ⟨1, by simp [DataW.trod, Tryz.underlying9, wz]⟩
end

theorem bs_back (x : ByteArray) : bs x.data.toList = x := by
  cases x
  unfold bs
  simp

/- a call of values without memory that leaves all that was there as it was meets what its row asks behind it -/
theorem post_kept {H : Type} {enc : TypeId × Value → H} {P : Program} {f : Func} {s : ChangeSpec} {apart fresh handsOn : Bool} {W W' : World} {args : Array Value} {v : Value} {ds gs : List (DataW H)}
    (hW : DataW.Whole enc P f.params.toList s.vars apart W args.toList ds gs [])
    (hres : ∀ (b : Nat) (sp : Nat → Bool) (hd : Bool), DataW.TrodAll enc P W' b sp hd f.resultTypes.toList (v.resultList f.resultTypes.size) (s.fn H (ds ++ gs)).results [])
    (hargs : ∀ sp : Nat → Bool, DataW.TrodAll enc P W' 0 sp true f.params.toList args.toList (s.fn H (ds ++ gs)).args [])
    (hvars : ∀ sp : Nat → Bool, DataW.TrodVars enc P W' sp s.vars (s.fn H (ds ++ gs)).vars [])
    (hb : Below W.heap.size W W') : s.post enc P f apart fresh handsOn false W args v W' :=
  ⟨ds, gs, [], [], [], [], hW, hres _ _ _, hargs _, hvars _, hb.frame _, fun h => by cases h⟩

/- the tables, off the row's list -/
theorem gPowType : (Tryz.prog.globals[0]?).map (·.type) = some 149 := by kernel_rfl
theorem gDecType : (Tryz.prog.globals[1]?).map (·.type) = some 160 := by kernel_rfl
theorem cell_in {w : World} {a : Addr} {v : Value} (h : w.cell? a = some v) : a.block < w.heap.size := World.block_lt_of_cell? w a h
def theLaid : List (String × DataW Unit) := [("math/bits.deBruijn32tab", Rows.laid_math_bits_deBruijn32tab), ("math/bits.deBruijn64tab", Rows.laid_math_bits_deBruijn64tab), ("internal/strconv.uint64pow10", Rows.laid_internal_strconv_uint64pow10), ("legation/number.powers", Rows.laid_legation_number_powers)]
theorem good_of {W : World} (h0 : laidMetH Tryz.prog theLaid W) : Nm.Good W := by
  have h : laidMet Tryz.prog theLaid W := by
    rw [MakeChecks.laidMetH_plain _ _ _ (by kernel_rfl)] at h0
    exact h0
  have h1 : Lib.TabIs Tryz.prog W "internal/strconv.uint64pow10" .u64 Lib.pow10Tab := Lib.tabIs_of_head (rest := [("legation/number.powers", Rows.laid_legation_number_powers)]) Nm.gDec gDecType Tryz.underlying160 Tryz.underlying135 (by kernel_rfl) (by kernel_rfl) h.tail.tail
  have h2 : Lib.TabIs Tryz.prog W "legation/number.powers" .i64 Nm.powTab := Lib.tabIs_of_head (rest := []) Nm.gPow gPowType Tryz.underlying149 Tryz.underlying2 (by kernel_rfl) (by kernel_rfl) h.tail.tail.tail
  exact ⟨h2, h1, cell_in (h2.cell Nm.gPow 0 (by decide)), cell_in (h1.cell Nm.gDec 0 (by decide))⟩

/- a world that holds the tables: the settled one, each table as its initialiser lays it -/
def lay (h : Array Obj) (g : Nat) (l : List Value) : Array Obj := h.modify g fun
  | .cells _ t frozen => .cells l.toArray t frozen
  | o => o
def tab32 : List Int := [0, 1, 28, 2, 29, 14, 24, 3, 30, 22, 20, 15, 25, 17, 4, 8, 31, 27, 13, 23, 21, 19, 16, 7, 26, 12, 18, 6, 11, 5, 10, 9]
def tab64 : List Int := [0, 1, 56, 2, 57, 49, 28, 3, 61, 58, 42, 50, 38, 29, 17, 4, 62, 47, 59, 36, 45, 43, 51, 22, 53, 39, 33, 30, 24, 18, 12, 5, 63, 55, 48, 27, 60, 41, 37, 16, 46, 35, 44, 21, 52, 32, 23, 11, 54, 26, 40, 15, 34, 20, 31, 10, 25, 14, 19, 9, 13, 8, 7, 6]
noncomputable def laidWorld (os : Os) : World :=
  { World.holding Tryz.prog os ⟨#[], #[], []⟩ with heap := lay (lay (lay (lay (World.holding Tryz.prog os ⟨#[], #[], []⟩).heap 0 (Nm.powTab.map (.int .i64))) 1 (Lib.pow10Tab.map (.int .u64))) 3 (tab32.map (.int .u8))) 4 (tab64.map (.int .u8)) }

end Go.Proofs.YtdnfaoanaehjhaaGreatDoor
