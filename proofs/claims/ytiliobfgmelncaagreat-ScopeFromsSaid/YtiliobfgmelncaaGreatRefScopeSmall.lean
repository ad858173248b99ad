/- What may stand in a table, names looked for, patterns: by the document's own answer. -/
import Derived.Test.YtiliobfgmelncaaGreatScopeSlice
import Derived.Test.YtiliobfgmelncaaGreatRefTrips
namespace Go.Proofs.YtiliobfgmelncaaGreat
open Go.RowKit

set_option maxHeartbeats 1000000 in
theorem InA_calls (L : List (List UInt8)) (x : List UInt8) (a : Option Addr) (n c : Nat) (w : World) (h : TxtA w a n c L) :
    Calls Tryz.prog 37 #[.slice a n c, .string (bs x)] w fun e w' => e = .returned (.bool (decide (x ∈ L))) ∧ w' = w := by
  have hn := h.len
  have hc := h.cap
  have hm := h.most
  have HX := Lib.hid h.cells
  have HN := Lib.hid hn
  clear h hn
  unfold maxLen at hm
  go_enter Tryz.func37, Tryz.ntmps37
  go_wp2
  go_loop [5] (fun i => ∃ k : Nat, k ≤ n ∧ i = .int .i64 k ∧ Hid (¬ x ∈ L.take k)) (fun i => n - (intOf i).toNat)
  case atStart => exact ⟨0, Nat.zero_le _, rfl, by show ¬ _; simp⟩
  case round =>
    obtain ⟨k, hk, rfl, hno⟩ := hrel
    by_cases hlt : k < n
    · have hlt' : k < L.length := by rw [HN.out]; exact hlt
      obtain ⟨g, o, ha, hgw, hcells⟩ := HX.out (by omega)
      subst ha
      have hc := hcells k hlt'
      clear hcells
      have hts : x ∈ L.take (k + 1) ↔ x ∈ L.take k ∨ x = L[k] := by rw [List.take_succ_eq_append_getElem hlt', List.mem_append, List.mem_singleton]
      obtain ⟨y, hy⟩ : ∃ y, L[k] = y := ⟨_, rfl⟩
      rw [hy] at hc hts
      by_cases he : x = y
      · have HIN := Lib.hid (show decide (x ∈ L) = true from decide_eq_true (by rw [he, ← hy]; exact List.getElem_mem hlt'))
        have heq : (bs y).toList = (bs x).toList := by rw [he]
        clear hts hy he
        go_wp2
        go_ret
        exact ⟨ret_bool HIN.out.symm, rfl⟩
      · have HNX := Lib.hid (show ¬ x ∈ L.take (k + 1) from fun c => (hts.1 c).elim hno.out he)
        have hne : ((bs y).toList == (bs x).toList) = false := by rw [bs_toList, bs_toList]; exact beq_eq_false_iff_ne.2 (fun c => he c.symm)
        clear hts hy he
        go_wp2
        exact ⟨⟨k + 1, by omega, by go_num, HNX⟩, by simp [intOf]; omega⟩
    · have HIN := Lib.hid (show decide (x ∈ L) = false from decide_eq_false (by have := hno.out; rwa [List.take_of_length_le (by rw [HN.out]; omega)] at this))
      go_wp2
      go_ret
      exact ⟨ret_bool HIN.out.symm, rfl⟩

set_option maxRecDepth 100000 in
set_option maxHeartbeats 2000000 in
theorem rvalue_calls (t : TermL) (ht : t.ok) (w : World) : Calls Tryz.prog 54 #[t.v] w fun e w' => e = .returned (.bool (valueZ t)) ∧ Below w.heap.size w w' := by
  obtain ⟨k, x, y, z⟩ := t
  have HT := Lib.hid ht
  clear ht
  simp only [TermL.v]
  have HV := Lib.hid (show valueZ ⟨k, x, y, z⟩ = (rightL k x y z && (decide (k = 0) || decide (k = 1) || decide (k = 2))) from rfl)
  cases hr : rightL k x y z with
  | false =>
    have HR := Lib.hid hr
    rw [hr] at HV
    clear hr
    go_enter Tryz.func54, Tryz.ntmps54
    go_wp2_with fail
    refine (rRight_calls k (bs x) (bs y) (bs z) _ HT.out.1 HT.out.2.1 HT.out.2.2).mono ?_
    rintro e w1 ⟨rfl, hb1⟩
    simp only [bs_data]
    rw [HR.out]
    obtain ⟨hc, hf⟩ := bcell hb1
    have hz : w.heap.size < w1.heap.size := by have := hb1.size; simp at this; omega
    go_wp2
    go_ret
    exact ⟨by rw [HV.out]; rfl, one_box hb1⟩
  | true =>
    have HR := Lib.hid hr
    rw [hr] at HV
    clear hr
    by_cases h0 : k = 0
    · subst h0
      go_enter Tryz.func54, Tryz.ntmps54
      go_wp2_with fail
      refine (rRight_calls 0 (bs x) (bs y) (bs z) _ HT.out.1 HT.out.2.1 HT.out.2.2).mono ?_
      rintro e w1 ⟨rfl, hb1⟩
      simp only [bs_data]
      rw [HR.out]
      obtain ⟨hc, hf⟩ := bcell hb1
      have hz : w.heap.size < w1.heap.size := by have := hb1.size; simp at this; omega
      go_wp2
      go_ret
      exact ⟨by rw [HV.out]; rfl, one_box hb1⟩
    · by_cases h1 : k = 1
      · subst h1
        go_enter Tryz.func54, Tryz.ntmps54
        go_wp2_with fail
        refine (rRight_calls 1 (bs x) (bs y) (bs z) _ HT.out.1 HT.out.2.1 HT.out.2.2).mono ?_
        rintro e w1 ⟨rfl, hb1⟩
        simp only [bs_data]
        rw [HR.out]
        obtain ⟨hc, hf⟩ := bcell hb1
        have hz : w.heap.size < w1.heap.size := by have := hb1.size; simp at this; omega
        go_wp2
        go_ret
        exact ⟨by rw [HV.out]; rfl, one_box hb1⟩
      · by_cases h2 : k = 2
        · subst h2
          go_enter Tryz.func54, Tryz.ntmps54
          go_wp2_with fail
          refine (rRight_calls 2 (bs x) (bs y) (bs z) _ HT.out.1 HT.out.2.1 HT.out.2.2).mono ?_
          rintro e w1 ⟨rfl, hb1⟩
          simp only [bs_data]
          rw [HR.out]
          obtain ⟨hc, hf⟩ := bcell hb1
          have hz : w.heap.size < w1.heap.size := by have := hb1.size; simp at this; omega
          go_wp2
          go_ret
          exact ⟨by rw [HV.out]; rfl, one_box hb1⟩
        · have g0 : (k == 0) = false := beq_eq_false_iff_ne.2 h0
          have g1 : (k == 1) = false := beq_eq_false_iff_ne.2 h1
          have g2 : (k == 2) = false := beq_eq_false_iff_ne.2 h2
          rw [decide_eq_false h0, decide_eq_false h1, decide_eq_false h2] at HV
          clear h0 h1 h2
          go_enter Tryz.func54, Tryz.ntmps54
          go_wp2_with fail
          refine (rRight_calls k (bs x) (bs y) (bs z) _ HT.out.1 HT.out.2.1 HT.out.2.2).mono ?_
          rintro e w1 ⟨rfl, hb1⟩
          simp only [bs_data]
          rw [HR.out]
          obtain ⟨hc, hf⟩ := bcell hb1
          have hz : w.heap.size < w1.heap.size := by have := hb1.size; simp at this; omega
          go_wp2
          go_ret
          exact ⟨by rw [HV.out]; rfl, one_box hb1⟩

theorem patsB_long {T : List TripL} (h : 32 < T.length) : patsB T = false := by unfold patsB; rw [decide_eq_false (by omega)]; simp
set_option maxRecDepth 100000 in
set_option maxHeartbeats 2000000 in
theorem rpatterns_calls (T : List TripL) (hok : ∀ t ∈ T, t.ok) (a : Option Addr) (n c : Nat) (w : World) (hv : TrpA w a n c T) :
    Calls Tryz.prog 28 #[.slice a n c] w fun e w' => e = .returned (.bool (patsB T)) ∧ Below w.heap.size w w' := by
  have HV := Lib.hid hv
  have HOK := Lib.hid hok
  have HL := Lib.hid hv.len
  have hcp := hv.cap
  have hms := hv.most
  unfold maxLen at hms
  clear hv hok
  go_enter Tryz.func28, Tryz.ntmps28
  go_wp2
  go_loopg [3] n (fun g i wr => ∃ k : Nat, i = .int .i64 k ∧ k + g = n ∧ Hid (AllR patB T k) ∧ Hid (Below w.heap.size w wr))
  case atStart => exact ⟨0, rfl, by omega, Lib.hid (all_start patB T), Lib.hid (Below.refl _ _)⟩
  case round =>
    obtain ⟨W1, rfl⟩ : ∃ W1, W1 = wr := ⟨_, rfl⟩
    obtain ⟨k, rfl, hkg, HR, HB⟩ := hrel
    by_cases hk : k < n
    · have hkL : k < T.length := by rw [HL.out]; exact hk
      obtain ⟨gg, rfl⟩ : ∃ gg, gk = gg + 1 := ⟨gk - 1, by omega⟩
      obtain ⟨g, o, ha, hgw, hcells⟩ := HV.out.cells (by omega)
      subst ha
      have hgW : g < W1.heap.size := Nat.lt_of_lt_of_le hgw HB.out.size
      obtain ⟨hs, hp, ho⟩ := hcells k hkL
      obtain ⟨c0, c1, c2, c3⟩ := hs.on HB.out hgw
      obtain ⟨c4, c5, c6, c7⟩ := hp.on HB.out hgw
      obtain ⟨c8, c9, c10, c11⟩ := ho.on HB.out hgw
      have hpok := HOK.out T[k] (List.getElem_mem hkL)
      have HNX := Lib.hid (fun h1 => all_next HR.out hkL h1)
      have HST := Lib.hid (fun h1 => all_stop HR.out hkL h1)
      clear hcells hs hp ho
      generalize T[k] = t at c0 c1 c2 c3 c4 c5 c6 c7 c8 c9 c10 c11 hpok HNX HST
      have HPT := Lib.hid (fun W => rPat_calls t hpok W)
      clear hpok
      have hbb : patB t = true ∨ patB t = false := by cases patB t <;> simp
      generalize patB t = b at hbb HPT HNX HST
      obtain ⟨⟨k1, x1, y1, z1⟩, ⟨k2, x2, y2, z2⟩, ⟨k3, x3, y3, z3⟩⟩ := t
      simp only [TripL.v] at HPT
      dsimp only at c0 c1 c2 c3 c4 c5 c6 c7 c8 c9 c10 c11
      rcases hbb with rfl | rfl
      · have HR2 := Lib.hid (HNX.out rfl)
        clear HNX HST
        go_wp2_with fail
        refine (HPT.out _).mono ?_
        rintro e w2 ⟨rfl, hb2⟩
        have HB2 := Lib.hid (HB.out.trans (hb2.mono HB.out.size))
        clear hb2
        go_wp2
        go_roundg gg
        case measure => omega
        case rel => exact ⟨k + 1, by go_num, by omega, HR2, HB2⟩
      · have HE := Lib.hid (show patsB T = false by unfold patsB; rw [HST.out rfl]; rfl)
        clear HNX HST
        go_wp2_with fail
        refine (HPT.out _).mono ?_
        rintro e w2 ⟨rfl, hb2⟩
        have HB2 := Lib.hid (HB.out.trans (hb2.mono HB.out.size))
        clear hb2
        go_wp2
        go_ret
        exact ⟨by rw [HE.out]; rfl, HB2.out⟩
    · have HA := Lib.hid (all_end HR.out (by rw [HL.out]; omega))
      have k1 : ¬ (k : Int) < (n : Int) := by omega
      by_cases h32 : n ≤ 32
      · have HE := Lib.hid (show patsB T = true by unfold patsB; rw [HA.out, HL.out, decide_eq_true h32]; rfl)
        have k2 : (n : Int) ≤ 32 := by omega
        go_wp2
        go_ret
        exact ⟨by rw [HE.out]; rfl, HB.out⟩
      · have HE := Lib.hid (patsB_long (T := T) (by rw [HL.out]; omega))
        have k2 : ¬ (n : Int) ≤ 32 := by omega
        go_wp2
        go_ret
        exact ⟨by rw [HE.out]; rfl, HB.out⟩

end Go.Proofs.YtiliobfgmelncaaGreat
