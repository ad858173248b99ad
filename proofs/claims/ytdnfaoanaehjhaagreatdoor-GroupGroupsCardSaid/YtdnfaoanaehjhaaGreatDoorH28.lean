/- RefRight, ShpRefRight, ShpRefNames, put together. -/
import Derived.Test.YtdnfaoanaehjhaaGreatDoorH27
import Derived.Test.YtdnfaoanaehjhaaGreatDoorH4
import Derived.Test.YtdnfaoanaehjhaaGreatDoorH13
import Derived.Deep.QuietTactic
import Derived.BigQuiet

/- What the document's own answers for names, IRIs, languages and right terms come to: the same as package term's, for every text and term. -/
namespace Go.Proofs.YtdnfaoanaehjhaaGreatDoor
open Go.RowKit

set_option maxHeartbeats 400000 in
theorem rIsIri_calls (s : ByteArray) (w : World) (_hs : s.size ≤ maxLen) :
    Calls Tryz.prog 81 #[.string s] w fun e w' => e = .returned (.bool (iriL s.data.toList)) ∧ w' = w := by
  unfold maxLen at _hs
  have HE := Lib.hid (iriL_eq s.data.toList)
  have hsz : s.size = s.data.toList.length := Lib.size_eq s
  have HSZ := Lib.hid hsz
  clear hsz
  obtain ⟨h1, h2⟩ | ⟨h1, h2⟩ | ⟨h1, h2⟩ : (1 ≤ s.size ∧ s.size ≤ 4096) ∨ (1 ≤ s.size ∧ ¬ s.size ≤ 4096) ∨ (¬ 1 ≤ s.size ∧ s.size ≤ 4096) := by omega
  all_goals
    go_enter Tryz.func81, Tryz.ntmps81
    go_wp2_with (go_at_call 79; refine (rAll1_calls _ _ _hs).mono ?_; rintro e w' ⟨rfl, hw⟩; obtain rfl := hw.symm; clear hw)
    go_ret
    exact ⟨ret_bool (by rw [HE.out, ← HSZ.out]; simp [h1, h2]), rfl⟩

set_option maxHeartbeats 400000 in
theorem rIsLang_calls (s : ByteArray) (w : World) (_hs : s.size ≤ maxLen) :
    Calls Tryz.prog 82 #[.string s] w fun e w' => e = .returned (.bool (langL s.data.toList)) ∧ w' = w := by
  unfold maxLen at _hs
  have HE := Lib.hid (langL_eq s.data.toList)
  have hsz : s.size = s.data.toList.length := Lib.size_eq s
  have HSZ := Lib.hid hsz
  clear hsz
  obtain ⟨h1, h2⟩ | ⟨h1, h2⟩ | ⟨h1, h2⟩ : (1 ≤ s.size ∧ s.size ≤ 8) ∨ (1 ≤ s.size ∧ ¬ s.size ≤ 8) ∨ (¬ 1 ≤ s.size ∧ s.size ≤ 8) := by omega
  all_goals
    go_enter Tryz.func82, Tryz.ntmps82
    go_wp2_with (go_at_call 79; refine (rAll4_calls _ _ _hs).mono ?_; rintro e w' ⟨rfl, hw⟩; obtain rfl := hw.symm; clear hw)
    go_ret
    exact ⟨ret_bool (by rw [HE.out, ← HSZ.out]; simp [h1, h2]), rfl⟩

theorem nameL_of (s : ByteArray) (h : 0 < s.size) : nameL s.data.toList = (decide (s.size ≤ 32) && allB wordZ s.data.toList && letterZ (s[0].toNat : Int)) := by
  have e := get_list s 0 h
  have e2 := Lib.size_eq s
  generalize s[0] = c at e
  cases hl : s.data.toList with
  | nil => have e3 : s.size = 0 := by rw [e2, hl]; rfl
           omega
  | cons b r =>
    rw [nameL_eq]
    have hc : b = c := by simpa [hl] using e
    subst hc
    rw [e2, hl, List.length_cons]

theorem letterZ_betw (c : Int) : letterZ c = (betw 97 c 122 || betw 65 c 90) := rfl

set_option maxHeartbeats 400000 in
theorem rIsName_calls (s : ByteArray) (w : World) (_hs : s.size ≤ maxLen) :
    Calls Tryz.prog 51 #[.string s] w fun e w' => e = .returned (.bool (nameL s.data.toList)) ∧ w' = w := by
  unfold maxLen at _hs
  by_cases h1 : 1 ≤ s.size
  · have HE := Lib.hid (nameL_of s h1)
    by_cases h2 : s.size ≤ 32
    · rcases (show allB wordZ s.data.toList = true ∨ allB wordZ s.data.toList = false by cases allB wordZ s.data.toList <;> simp) with hA | hA
      all_goals rcases (show betw 97 (s[0].toNat : Int) 122 = true ∨ betw 97 (s[0].toNat : Int) 122 = false by cases betw 97 (s[0].toNat : Int) 122 <;> simp) with hB | hB
      all_goals rcases (show betw 65 (s[0].toNat : Int) 90 = true ∨ betw 65 (s[0].toNat : Int) 90 = false by cases betw 65 (s[0].toNat : Int) 90 <;> simp) with hC | hC
      all_goals
        go_enter Tryz.func51, Tryz.ntmps51
        go_wp2_with (first | (go_at_call 79; refine (rAll3_calls _ _ _hs).mono ?_; rintro e w' ⟨rfl, hw⟩; obtain rfl := hw.symm; clear hw) | (go_at_call 80; refine (rBetween_calls _ _ _ _).mono ?_; rintro e w' ⟨rfl, hw⟩; obtain rfl := hw.symm; clear hw))
        go_ret
        exact ⟨ret_bool (by rw [HE.out, letterZ_betw]; simp [h2, hA, hB, hC]), rfl⟩
    · go_enter Tryz.func51, Tryz.ntmps51
      go_wp2_with fail
      go_ret
      exact ⟨ret_bool (by rw [HE.out]; simp [h2]), rfl⟩
  · have HE := Lib.hid (show nameL s.data.toList = false by rw [List.eq_nil_of_length_eq_zero (l := s.data.toList) (by rw [← Lib.size_eq]; omega)]; rfl)
    go_enter Tryz.func51, Tryz.ntmps51
    go_wp2_with fail
    go_ret
    exact ⟨ret_bool (by rw [HE.out]), rfl⟩

theorem lit_eq (s : ByteArray) : litL s.data.toList = (decide (s.size ≤ 4096) && allB litZ s.data.toList) := by
  rw [litL_eq, Lib.size_eq]

set_option maxRecDepth 100000 in
set_option maxHeartbeats 2000000 in
theorem rRight_literal (x y z : ByteArray) (w : World) (_hx : x.size ≤ maxLen) (_hy : y.size ≤ maxLen) (_hz : z.size ≤ maxLen) :
    Calls Tryz.prog 52 #[.agg #[.int .i64 2, .string x, .string y, .string z]] w fun e w' => e = .returned (.bool (rightL 2 x.data.toList y.data.toList z.data.toList)) ∧ Below w.heap.size w w' := by
  have HX := Lib.hid (lit_eq x)
  have HY := Lib.hid (Lib.toList_data y)
  have HZ := Lib.hid (Lib.toList_data z)
  have HR := Lib.hid (show rightL 2 x.data.toList y.data.toList z.data.toList = (litL x.data.toList && tagL y.data.toList z.data.toList) from rfl)
  rcases (show y.toList.isEmpty = true ∨ y.toList.isEmpty = false by cases y.toList.isEmpty <;> simp) with hB | hB
  all_goals rcases (show z.toList.isEmpty = true ∨ z.toList.isEmpty = false by cases z.toList.isEmpty <;> simp) with hD | hD
  all_goals rcases (show allB litZ x.data.toList = true ∨ allB litZ x.data.toList = false by cases allB litZ x.data.toList <;> simp) with hA | hA
  all_goals by_cases h4 : x.size ≤ 4096
  all_goals
    go_enter Tryz.func52, Tryz.ntmps52
    go_wp2_with (first | (go_at_call 79; refine (rAll2_calls _ _ _hx).mono ?_; rintro e w' ⟨rfl, hw⟩; subst hw) | (go_at_call 81; refine (rIsIri_calls _ _ _hy).mono ?_; rintro e w' ⟨rfl, hw⟩; subst hw) | (go_at_call 82; refine (rIsLang_calls _ _ _hz).mono ?_; rintro e w' ⟨rfl, hw⟩; subst hw))
    all_goals go_ret
    all_goals exact ⟨ret_bool (by have hB' := hB; have hD' := hD; rw [HY.out] at hB'; rw [HZ.out] at hD'; rw [HR.out, HX.out]; simp [tagL, *]), box_below _ _⟩

set_option maxRecDepth 100000 in
set_option maxHeartbeats 2000000 in
theorem rRight_other (k : Int) (x y z : ByteArray) (w : World) (_hx : x.size ≤ maxLen) (hk : k ≠ 2) :
    Calls Tryz.prog 52 #[.agg #[.int .i64 k, .string x, .string y, .string z]] w fun e w' => e = .returned (.bool (rightL k x.data.toList y.data.toList z.data.toList)) ∧ Below w.heap.size w w' := by
  have HX := Lib.hid (Lib.toList_data x)
  have HY := Lib.hid (Lib.toList_data y)
  have HZ := Lib.hid (Lib.toList_data z)
  have HK := Lib.hid hk
  have g2 : (k == 2) = false := beq_eq_false_iff_ne.2 hk
  clear hk
  rcases (show y.toList.isEmpty = true ∨ y.toList.isEmpty = false by cases y.toList.isEmpty <;> simp) with hB | hB
  all_goals rcases (show z.toList.isEmpty = true ∨ z.toList.isEmpty = false by cases z.toList.isEmpty <;> simp) with hD | hD
  all_goals
    have hB' := hB
    have hD' := hD
    rw [HY.out] at hB'
    rw [HZ.out] at hD'
  · by_cases c0 : k = 0
    · subst c0
      go_enter Tryz.func52, Tryz.ntmps52
      go_wp2
      go_ret
      exact ⟨ret_bool (by rw [HX.out]; simp [rightL, bareL, hB', hD']), box_below _ _⟩
    by_cases c1 : k = 1
    · subst c1
      go_enter Tryz.func52, Tryz.ntmps52
      go_wp2_with (go_at_call 81; refine (rIsIri_calls _ _ _hx).mono ?_; rintro e w' ⟨rfl, hw⟩; subst hw)
      go_ret
      exact ⟨ret_bool (by simp [rightL, bareL, hB', hD']), box_below _ _⟩
    by_cases c3 : k = 3
    · subst c3
      go_enter Tryz.func52, Tryz.ntmps52
      go_wp2_with (go_at_call 51; refine (rIsName_calls _ _ _hx).mono ?_; rintro e w' ⟨rfl, hw⟩; subst hw)
      go_ret
      exact ⟨ret_bool (by simp [rightL, bareL, hB', hD']), box_below _ _⟩
    by_cases c4 : k = 4
    · subst c4
      go_enter Tryz.func52, Tryz.ntmps52
      go_wp2_with (go_at_call 51; refine (rIsName_calls _ _ _hx).mono ?_; rintro e w' ⟨rfl, hw⟩; subst hw)
      go_ret
      exact ⟨ret_bool (by simp [rightL, bareL, hB', hD']), box_below _ _⟩
    · have g0 : (k == 0) = false := beq_eq_false_iff_ne.2 c0
      have g1 : (k == 1) = false := beq_eq_false_iff_ne.2 c1
      have g3 : (k == 3) = false := beq_eq_false_iff_ne.2 c3
      have g4 : (k == 4) = false := beq_eq_false_iff_ne.2 c4
      have HR := Lib.hid (show rightL k x.data.toList y.data.toList z.data.toList = false by have := HK.out; simp [rightL, c0, c1, c3, c4, this])
      clear c0 c1 c3 c4
      go_enter Tryz.func52, Tryz.ntmps52
      go_wp2
      go_ret
      exact ⟨ret_bool (by rw [HR.out]), box_below _ _⟩
  all_goals
    have HR := Lib.hid (show rightL k x.data.toList y.data.toList z.data.toList = false by
      have := HK.out
      unfold rightL bareL
      rw [hB', hD']
      repeat' split
      all_goals simp_all)
    go_enter Tryz.func52, Tryz.ntmps52
    go_wp2
    go_ret
    exact ⟨ret_bool (by rw [HR.out]), box_below _ _⟩

theorem rRight_calls (k : Int) (x y z : ByteArray) (w : World) (hx : x.size ≤ maxLen) (hy : y.size ≤ maxLen) (hz : z.size ≤ maxLen) :
    Calls Tryz.prog 52 #[.agg #[.int .i64 k, .string x, .string y, .string z]] w fun e w' => e = .returned (.bool (rightL k x.data.toList y.data.toList z.data.toList)) ∧ Below w.heap.size w w' := by
  by_cases h : k = 2
  · subst h; exact rRight_literal x y z w hx hy hz
  · exact rRight_other k x y z w hx h

end Go.Proofs.YtdnfaoanaehjhaaGreatDoor

/- Which tables are right, by the document's own answer (written by gen/mkrefright12.py). -/
namespace Go.Proofs.YtdnfaoanaehjhaaGreatDoor
open Go.RowKit Go.Sort

theorem TabIn.drew {w wr : World} {vs rs : Value} (h : TabIn w vs rs wr) (n : Nat) : TabIn w vs rs (wr.drewN n) := h.on (drew_below (Below.refl _ _) n)
theorem rightT_long {V : List (List UInt8)} {R : List RowL} (h : 32 < V.length ∨ 4096 < R.length) : rightT V R = false := by
  unfold rightT
  rcases h with h | h
  · rw [decide_eq_false (show ¬ V.length ≤ 32 by omega)]; simp
  · rw [decide_eq_false (show ¬ R.length ≤ 4096 by omega)]; simp
theorem rightT_names {V : List (List UInt8)} {R : List RowL} (h : namesB [] V = false) : rightT V R = false := by unfold rightT; rw [h]; simp
theorem rightT_rows {V : List (List UInt8)} {R : List RowL} (h : R.all (rowT V.length) = false) : rightT V R = false := by unfold rightT; rw [h]; simp
theorem rightT_yes {V : List (List UInt8)} {R : List RowL} (h1 : V.length ≤ 32) (h2 : R.length ≤ 4096) (h3 : namesB [] V = true) (h4 : R.all (rowT V.length) = true) : rightT V R = true := by unfold rightT; rw [h3, h4, decide_eq_true h1, decide_eq_true h2]; rfl

set_option maxRecDepth 100000 in
set_option maxHeartbeats 4000000 in
theorem tabRight_calls (V : List (List UInt8)) (R : List (List TermL)) (hx : ∀ x ∈ V, (bs x).size ≤ maxLen) (hr : ∀ r ∈ R, ∀ t ∈ r, t.ok) (va ra : Option Addr) (n vc m rc : Nat) (w : World) (hV : TxtA w va n vc V) (hR : RowA w ra m rc R) :
    Calls Tryz.prog 19 #[.agg #[.slice va n vc, .slice ra m rc]] w fun e w' => e = .returned (.bool (rightT V R)) ∧ Below w.heap.size w w' := by
  have HV := Lib.hid hV
  have HR := Lib.hid hR
  have HX := Lib.hid hx
  have HOK := Lib.hid hr
  have HVL := Lib.hid hV.len
  have HRL := Lib.hid hR.len
  have hvc := hV.cap
  have hvm := hV.most
  have hrc := hR.cap
  have hrm := hR.most
  unfold maxLen at hvm hrm
  clear hV hR hx hr
  have HT0 := Lib.hid (fun T => TabIn.new w (.slice va n vc) (.slice ra m rc) T)
  by_cases h32 : 32 < n
  · have HE := Lib.hid (rightT_long (V := V) (R := R) (.inl (by rw [HVL.out]; exact h32)))
    have g1 : (32 : Int) < (n : Int) := by omega
    go_enter Tryz.func19, Tryz.ntmps19
    go_wp2
    go_ret
    exact ⟨by rw [HE.out]; rfl, box_below _ _⟩
  by_cases h64 : 4096 < m
  · have HE := Lib.hid (rightT_long (V := V) (R := R) (.inr (by rw [HRL.out]; exact h64)))
    have g1 : ¬ (32 : Int) < (n : Int) := by omega
    have g2 : (4096 : Int) < (m : Int) := by omega
    go_enter Tryz.func19, Tryz.ntmps19
    go_wp2
    go_ret
    exact ⟨by rw [HE.out]; rfl, box_below _ _⟩
  have g1 : ¬ (32 : Int) < (n : Int) := by omega
  have g2 : ¬ (4096 : Int) < (m : Int) := by omega
  go_enter Tryz.func19, Tryz.ntmps19
  go_wp2
  go_loopg [3] n (fun g i wr => ∃ k : Nat, i = .int .i64 k ∧ k + g = n ∧ Hid (NamesR V k) ∧ Hid (TabIn w (.slice va n vc) (.slice ra m rc) wr))
  case atStart => exact ⟨0, rfl, by omega, Lib.hid (names_start V), Lib.hid (HT0.out _)⟩
  case round =>
    obtain ⟨W1, rfl⟩ : ∃ W1, W1 = wr := ⟨_, rfl⟩
    obtain ⟨k, rfl, hkg, HN, HT⟩ := hrel
    obtain ⟨t0, t1, hbW, hXW⟩ := HT.out
    have HBW := Lib.hid hbW
    clear hbW
    by_cases hk : k < n
    · obtain ⟨gg, rfl⟩ : ∃ gg, gk = gg + 1 := ⟨gk - 1, by omega⟩
      have hkL : k < V.length := by rw [HVL.out]; exact hk
      obtain ⟨g, o, ha, hgw, hcells⟩ := HV.out.cells (by omega)
      subst ha
      have hgW : g < W1.heap.size := Nat.lt_of_lt_of_le hgw HBW.out.size
      have c0 := (HBW.out.cell (p := ⟨g, o + k, none⟩) hgw).trans (hcells k hkL)
      have HNX := Lib.hid (fun h1 h2 => names_next HN.out hkL h1 h2)
      have HST := Lib.hid (fun h1 => names_stop HN.out hkL h1)
      have HNM := Lib.hid (fun W => rIsName_calls (bs V[k]) W (HX.out _ (List.getElem_mem hkL)))
      have HIN := Lib.hid (fun nn => InA_calls (V.take k) V[k] (some ⟨g, o, none⟩) k vc (W1.drewN nn) ((HV.out.cut (Nat.le_of_lt hk)).on (HT.out.drew nn).2.2.1))
      simp only [bs_data] at HNM
      clear hcells
      generalize V[k] = y at c0 HNX HST HNM HIN
      have hb1 : nameL y = true ∨ nameL y = false := by cases nameL y <;> simp
      have hk0 : (0 : Int) ≤ (k : Int) := by omega
      have hkn : (k : Int) < (n : Int) := by omega
      rcases hb1 with hb1 | hb1
      · rw [hb1] at HNM
        by_cases hin : y ∈ V.take k
        · rw [decide_eq_true hin] at HIN
          have HE := Lib.hid (rightT_names (R := R) (HST.out (fun c => c.2 hin)))
          clear HNX HST hin hb1
          go_wp2
          go_quiet (first | (go_at_call 51; exact Calls.quiet_of_same (HNM.out _)) | (go_at_call 39; exact Calls.quiet_of_same (HIN.out _)))
          go_wp2
          go_ret
          exact ⟨by rw [HE.out]; rfl, (HT.out.drew _).2.2.1⟩
        · rw [decide_eq_false hin] at HIN
          have HN2 := Lib.hid (HNX.out hb1 hin)
          clear HNX HST hin hb1
          go_wp2
          go_quiet (first | (go_at_call 51; exact Calls.quiet_of_same (HNM.out _)) | (go_at_call 39; exact Calls.quiet_of_same (HIN.out _)))
          go_wp2
          go_roundg gg
          case measure => omega
          case rel => exact ⟨k + 1, by go_num, by omega, HN2, Lib.hid (HT.out.drew _)⟩
      · rw [hb1] at HNM
        have HE := Lib.hid (rightT_names (R := R) (HST.out (fun c => by rw [hb1] at c; exact absurd c.1 (by simp))))
        clear HNX HST hb1
        go_wp2
        go_quiet (first | (go_at_call 51; exact Calls.quiet_of_same (HNM.out _)) | (go_at_call 39; exact Calls.quiet_of_same (HIN.out _)))
        go_wp2
        go_ret
        exact ⟨by rw [HE.out]; rfl, (HT.out.drew _).2.2.1⟩
    · have HNA := Lib.hid (names_end HN.out (by rw [HVL.out]; omega))
      have k1 : ¬ (k : Int) < (n : Int) := by omega
      go_wp2
      clear t0 t1 hXW HBW HN
      go_loopg [4] m (fun g i wr => ∃ k : Nat, i = .int .i64 k ∧ k + g = m ∧ Hid (AllR (rowT n) R k) ∧ Hid (TabIn w (.slice va n vc) (.slice ra m rc) wr))
      case atStart => exact ⟨0, rfl, by omega, Lib.hid (all_start _ R), HT⟩
      case round =>
        obtain ⟨W2, rfl⟩ : ∃ W2, W2 = wr := ⟨_, rfl⟩
        obtain ⟨j, rfl, hjg, HA, HT2⟩ := hrel
        obtain ⟨t0, t1, hbW, hXW⟩ := HT2.out
        have HBW := Lib.hid hbW
        clear hbW
        by_cases hj : j < m
        · obtain ⟨gg, rfl⟩ : ∃ gg, gk = gg + 1 := ⟨gk - 1, by omega⟩
          have hjL : j < R.length := by rw [HRL.out]; exact hj
          obtain ⟨g, o, ha, hgw, hcells⟩ := HR.out.cells (by omega)
          subst ha
          have hgW : g < W2.heap.size := Nat.lt_of_lt_of_le hgw HBW.out.size
          obtain ⟨a', c', hcell, htrm⟩ := hcells j hjL
          have c0 := (HBW.out.cell (p := ⟨g, o + j, none⟩) hgw).trans hcell
          have HRD := Lib.hid htrm
          have HRC := Lib.hid hcell
          have HNX := Lib.hid (fun h1 => all_next HA.out hjL h1)
          have HST := Lib.hid (fun h1 => all_stop HA.out hjL h1)
          have HO2 := Lib.hid (HOK.out _ (List.getElem_mem hjL))
          clear hcells htrm hcell
          generalize R[j] = row at c0 HNX HST HRD HO2 HRC
          have hj0 : (0 : Int) ≤ (j : Int) := by omega
          have hjm : (j : Int) < (m : Int) := by omega
          have hcc := HRD.out.most
          have hcl := HRD.out.cap
          unfold maxLen at hcc
          obtain ⟨q, hq⟩ : ∃ q, row.length = q := ⟨_, rfl⟩
          rw [hq] at c0 hcl HRC
          have HQ := Lib.hid hq
          clear hq
          by_cases hqn : q = n
          · subst hqn
            have hne : ((q : Int) != (q : Int)) = false := bne_self_eq_false _
            go_wp2
            go_quiet (fail)
            go_wp2
            clear t0 t1 hXW c0 hgW
            go_loopg [5] q (fun gh i wr => ∃ k : Nat, i = .int .i64 k ∧ k + gh = q ∧ Hid (AllR cellT row k) ∧ Hid (TabIn w (.slice va q vc) (.slice (some ⟨g, o, none⟩) m rc) wr))
            case atStart => exact ⟨0, rfl, by omega, Lib.hid (all_start _ row), Lib.hid (HT2.out.drew _)⟩
            case round =>
              obtain ⟨W3, rfl⟩ : ∃ W3, W3 = wr := ⟨_, rfl⟩
              obtain ⟨l, rfl, hlg, HA3, HT3⟩ := hrel
              obtain ⟨t0, t1, hbW, hXW⟩ := HT3.out
              have HBW3 := Lib.hid hbW
              clear hbW
              have hgW : g < W3.heap.size := Nat.lt_of_lt_of_le hgw HBW3.out.size
              have c0 := (HBW3.out.cell (p := ⟨g, o + j, none⟩) hgw).trans HRC.out
              by_cases hl : l < q
              · obtain ⟨hh, rfl⟩ : ∃ hh, gk = hh + 1 := ⟨gk - 1, by omega⟩
                have hlL : l < row.length := by rw [HQ.out]; exact hl
                obtain ⟨g', o', ha', hgw', hcells'⟩ := HRD.out.cells (by omega)
                subst ha'
                have hgW' : g' < W3.heap.size := Nat.lt_of_lt_of_le hgw' HBW3.out.size
                obtain ⟨d0, d1, d2, d3⟩ := (hcells' l hlL).on HBW3.out hgw'
                have HNX3 := Lib.hid (fun h1 => all_next HA3.out hlL h1)
                have HST3 := Lib.hid (fun h1 => all_stop HA3.out hlL h1)
                have cV := fun W => rRight_calls row[l].k (bs row[l].x) (bs row[l].y) (bs row[l].z) W (HO2.out _ (List.getElem_mem hlL)).1 (HO2.out _ (List.getElem_mem hlL)).2.1 (HO2.out _ (List.getElem_mem hlL)).2.2
                simp only [bs_data] at cV
                clear hcells'
                have HCT := Lib.hid (show cellT row[l] = (rightL row[l].k row[l].x row[l].y row[l].z && !decide (row[l].k = 4)) from rfl)
                generalize row[l] = t at d0 d1 d2 d3 HNX3 HST3 cV HCT
                generalize cellT t = b at HCT HNX3 HST3
                obtain ⟨tk, tx, ty, tz⟩ := t
                dsimp only at d0 d1 d2 d3 cV HCT
                cases hrl : rightL tk tx ty tz with
                | false =>
                  rw [hrl] at cV
                  have HE := Lib.hid (rightT_rows (V := V) (R := R) (by rw [HVL.out]; exact HST.out (by unfold rowT; rw [HST3.out (HCT.out.trans (by rw [hrl]; rfl))]; simp)))
                  clear HNX3 HST3 hrl
                  go_wp2_with fail
                  refine (cV _).mono ?_
                  rintro e w2 ⟨rfl, hb2⟩
                  have HT4 := Lib.hid (HT3.out.on hb2)
                  have t2 := HT4.out.2.1
                  replace c0 := keptC c0 hb2 hgW
                  replace d0 := keptC d0 hb2 hgW'
                  replace d1 := keptC d1 hb2 hgW'
                  replace d2 := keptC d2 hb2 hgW'
                  replace d3 := keptC d3 hb2 hgW'
                  clear hb2 cV t0 t1
                  go_wp2
                  go_ret
                  exact ⟨by rw [HE.out]; rfl, HT4.out.2.2.1⟩
                | true =>
                  rw [hrl] at cV
                  by_cases h4 : tk = 4
                  · have HE := Lib.hid (rightT_rows (V := V) (R := R) (by rw [HVL.out]; exact HST.out (by unfold rowT; rw [HST3.out (HCT.out.trans (by rw [decide_eq_true h4]; simp))]; simp)))
                    have g4 : (tk == 4) = true := beq_iff_eq.2 h4
                    clear HNX3 HST3 hrl h4
                    go_wp2_with fail
                    refine (cV _).mono ?_
                    rintro e w2 ⟨rfl, hb2⟩
                    have HT4 := Lib.hid (HT3.out.on hb2)
                    have t2 := HT4.out.2.1
                    replace c0 := keptC c0 hb2 hgW
                    replace d0 := keptC d0 hb2 hgW'
                    replace d1 := keptC d1 hb2 hgW'
                    replace d2 := keptC d2 hb2 hgW'
                    replace d3 := keptC d3 hb2 hgW'
                    clear hb2 cV t0 t1
                    go_wp2
                    go_ret
                    exact ⟨by rw [HE.out]; rfl, HT4.out.2.2.1⟩
                  · have HA4 := Lib.hid (HNX3.out (HCT.out.trans (by rw [hrl, decide_eq_false h4]; rfl)))
                    have g4 : (tk == 4) = false := beq_eq_false_iff_ne.2 h4
                    clear HNX3 HST3 hrl h4
                    go_wp2_with fail
                    refine (cV _).mono ?_
                    rintro e w2 ⟨rfl, hb2⟩
                    have HT4 := Lib.hid (HT3.out.on hb2)
                    have t2 := HT4.out.2.1
                    replace c0 := keptC c0 hb2 hgW
                    replace d0 := keptC d0 hb2 hgW'
                    replace d1 := keptC d1 hb2 hgW'
                    replace d2 := keptC d2 hb2 hgW'
                    replace d3 := keptC d3 hb2 hgW'
                    clear hb2 cV t0 t1
                    go_wp2
                    go_roundg hh
                    case measure => omega
                    case rel => exact ⟨l + 1, by go_num, by omega, HA4, HT4⟩
              · have HRZ := Lib.hid (HNX.out (by unfold rowT; rw [all_end HA3.out (by rw [HQ.out]; omega), HQ.out, decide_eq_true rfl]; rfl))
                have k1 : ¬ (l : Int) < (q : Int) := by omega
                clear HNX HST
                go_wp2
                go_roundg gg
                case measure => omega
                case rel => exact ⟨j + 1, by go_num, by omega, HRZ, HT3⟩
          · have hne : ((q : Int) != (n : Int)) = true := bne_iff_ne.2 (by omega)
            have HE := Lib.hid (rightT_rows (V := V) (R := R) (by rw [HVL.out]; exact HST.out (by unfold rowT; rw [HQ.out, decide_eq_false hqn]; rfl)))
            go_wp2
            go_quiet (fail)
            go_wp2
            go_ret
            exact ⟨by rw [HE.out]; rfl, (HT2.out.drew _).2.2.1⟩
        · have HRA := Lib.hid (all_end HA.out (by rw [HRL.out]; omega))
          have k1 : ¬ (j : Int) < (m : Int) := by omega
          have HE := Lib.hid (rightT_yes (V := V) (R := R) (by rw [HVL.out]; omega) (by rw [HRL.out]; omega) HNA.out (by rw [HVL.out]; exact HRA.out))
          go_wp2
          go_ret
          exact ⟨by rw [HE.out]; rfl, HBW.out⟩

end Go.Proofs.YtdnfaoanaehjhaaGreatDoor

/- Are texts names, each once: the document's Names. -/
namespace Go.Proofs.YtdnfaoanaehjhaaGreatDoor
open Go.RowKit Go.Sort

set_option maxRecDepth 100000 in
set_option maxHeartbeats 4000000 in
theorem rNames_calls (V : List (List UInt8)) (hx : ∀ x ∈ V, (bs x).size ≤ maxLen) (va : Option Addr) (n vc : Nat) (w : World) (hV : TxtA w va n vc V) :
    Calls Tryz.prog 36 #[.slice va n vc] w fun e w' => e = .returned (.bool (namesB [] V)) ∧ Below w.heap.size w w' := by
  have HV := Lib.hid hV
  have HX := Lib.hid hx
  have HVL := Lib.hid hV.len
  have hvc := hV.cap
  have hvm := hV.most
  unfold maxLen at hvm
  clear hV hx
  go_enter Tryz.func36, Tryz.ntmps36
  go_wp2
  go_loopg [3] n (fun g i wr => ∃ k : Nat, i = .int .i64 k ∧ k + g = n ∧ Hid (NamesR V k) ∧ Hid (Below w.heap.size w wr))
  case atStart => exact ⟨0, rfl, by omega, Lib.hid (names_start V), Lib.hid (Below.refl _ _)⟩
  case round =>
    obtain ⟨W1, rfl⟩ : ∃ W1, W1 = wr := ⟨_, rfl⟩
    obtain ⟨k, rfl, hkg, HN, HBW⟩ := hrel
    by_cases hk : k < n
    · obtain ⟨gg, rfl⟩ : ∃ gg, gk = gg + 1 := ⟨gk - 1, by omega⟩
      have hkL : k < V.length := by rw [HVL.out]; exact hk
      obtain ⟨g, o, ha, hgw, hcells⟩ := HV.out.cells (by omega)
      subst ha
      have hgW : g < W1.heap.size := Nat.lt_of_lt_of_le hgw HBW.out.size
      have c0 := (HBW.out.cell (p := ⟨g, o + k, none⟩) hgw).trans (hcells k hkL)
      have HNX := Lib.hid (fun h1 h2 => names_next HN.out hkL h1 h2)
      have HST := Lib.hid (fun h1 => names_stop HN.out hkL h1)
      have HNM := Lib.hid (fun W => rIsName_calls (bs V[k]) W (HX.out _ (List.getElem_mem hkL)))
      have HIN := Lib.hid (fun nn => InA_calls (V.take k) V[k] (some ⟨g, o, none⟩) k vc (W1.drewN nn) ((HV.out.cut (Nat.le_of_lt hk)).on (drewN_below HBW.out nn)))
      simp only [bs_data] at HNM
      clear hcells
      generalize V[k] = y at c0 HNX HST HNM HIN
      have hb1 : nameL y = true ∨ nameL y = false := by cases nameL y <;> simp
      have hk0 : (0 : Int) ≤ (k : Int) := by omega
      have hkn : (k : Int) < (n : Int) := by omega
      rcases hb1 with hb1 | hb1
      · rw [hb1] at HNM
        by_cases hin : y ∈ V.take k
        · rw [decide_eq_true hin] at HIN
          have HE := Lib.hid (HST.out (fun c => c.2 hin))
          clear HNX HST hin hb1
          go_wp2
          go_quiet (first | (go_at_call 51; exact Calls.quiet_of_same (HNM.out _)) | (go_at_call 39; exact Calls.quiet_of_same (HIN.out _)))
          go_wp2
          go_ret
          exact ⟨by rw [HE.out]; rfl, drewN_below HBW.out _⟩
        · rw [decide_eq_false hin] at HIN
          have HN2 := Lib.hid (HNX.out hb1 hin)
          clear HNX HST hin hb1
          go_wp2
          go_quiet (first | (go_at_call 51; exact Calls.quiet_of_same (HNM.out _)) | (go_at_call 39; exact Calls.quiet_of_same (HIN.out _)))
          go_wp2
          go_roundg gg
          case measure => omega
          case rel => exact ⟨k + 1, by go_num, by omega, HN2, Lib.hid (drewN_below HBW.out _)⟩
      · rw [hb1] at HNM
        have HE := Lib.hid (HST.out (fun c => by rw [hb1] at c; exact absurd c.1 (by simp)))
        clear HNX HST hb1
        go_wp2
        go_quiet (first | (go_at_call 51; exact Calls.quiet_of_same (HNM.out _)) | (go_at_call 39; exact Calls.quiet_of_same (HIN.out _)))
        go_wp2
        go_ret
        exact ⟨by rw [HE.out]; rfl, drewN_below HBW.out _⟩
    · have HNA := Lib.hid (names_end HN.out (by rw [HVL.out]; omega))
      have k1 : ¬ (k : Int) < (n : Int) := by omega
      go_wp2
      go_ret
      exact ⟨by rw [HNA.out]; rfl, HBW.out⟩

end Go.Proofs.YtdnfaoanaehjhaaGreatDoor
