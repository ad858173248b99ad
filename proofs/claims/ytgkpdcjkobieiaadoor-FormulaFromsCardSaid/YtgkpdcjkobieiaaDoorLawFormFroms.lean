/- Where the parts begin whose result any part makes: the walk of the statement's function. -/
import Derived.Test.YtgkpdcjkobieiaaDoorFormAwake
import Derived.Test.YtgkpdcjkobieiaaDoorFormFrom
import Derived.Test.YtgkpdcjkobieiaaDoorRefFs
namespace Go.Proofs.YtgkpdcjkobieiaaDoor
open Go.RowKit

theorem ArgP.cut {w : World} {a : Option Addr} {n c : Nat} {L : List PartL} (h : ArgP w a n c L) {m : Nat} (hm : m ≤ n) : ArgP w a m c (L.take m) := by
  have hl := h.len
  have hc := h.cap
  refine ⟨by rw [List.length_take]; omega, by omega, h.most, fun h0 => ?_⟩
  obtain ⟨g, o, he, hg, hcell⟩ := h.cells (by omega)
  refine ⟨g, o, he, hg, fun j hj => ?_⟩
  rw [List.length_take] at hj
  have := hcell j (by omega)
  simpa [List.getElem_take] using this
theorem chk_cases (L : List PartL) : chkE L ≠ 0 ∨ (chkE L = 0 ∧ ∃ hh, Hts L hh) := by
  by_cases h : chkE L = 0
  · refine .inr ⟨h, ?_⟩
    unfold chkE at h
    split at h
    · simp at h
    · split at h
      · rename_i hc
        obtain ⟨hh, h0, _, hs⟩ := hts_of L 0 1 hc
        exact ⟨hh, h0, hs⟩
      · simp at h
  · exact .inl h

set_option maxRecDepth 100000 in
set_option maxHeartbeats 2000000 in
theorem formFroms_short (L : List PartL) (hok : ∀ p ∈ L, p.ok) (a : Option Addr) (n c : Nat) (i : Int) (w : World) (hv : ArgP w a n c L) (hn : n ≤ 40) (hg : Good w.heap.size w) :
    Calls Tryd.prog 3 #[.slice a n c, .int .i64 i] w fun e w' => e = .returned (.bool true) ∧ Below w.heap.size w w' := by
  have HG := Lib.hid (fun W (hW : Below w.heap.size w W) => hg.next hW)
  have HAW := Lib.hid (fun W (hW : Good W.heap.size W) => awake_calls W hW)
  have HCK := Lib.hid (fun W (hW : Below w.heap.size w W) => rFCheck_calls L hok a n c W (hv.on hW))
  have hcap := hv.cap
  have hmost := hv.most
  unfold maxLen at hmost
  have g0 : ¬ (40 : Int) < (n : Int) := by omega
  rcases chk_cases L with hE | ⟨hE, hh, H⟩
  · have HFR := Lib.hid (fFrom_bad L hok a n c i w hv hE)
    obtain ⟨E, hEe⟩ : ∃ E, chkE L = E := ⟨_, rfl⟩
    rw [hEe] at HFR HCK hE
    have g1 : (E == 0) = false := beq_eq_false_iff_ne.2 hE
    have g2 : (E != 0) = true := bne_iff_ne.2 hE
    have g3 : (E != E) = false := by simp
    clear hv hok hEe hE hg
    go_enter Tryd.func3, Tryd.ntmps3
    go_wp2_with fail
    refine HFR.out.mono ?_
    rintro e w1 ⟨rfl, hb1⟩
    have HB1 := Lib.hid hb1
    clear hb1
    go_wp2_with fail
    refine (HCK.out _ HB1.out).mono ?_
    rintro e w2 ⟨rfl, hb2⟩
    have HB2 := Lib.hid (step_below HB1.out hb2)
    clear hb2
    go_wp2_with fail
    refine (HAW.out _ (HG.out _ HB2.out)).mono ?_
    rintro e w3 ⟨rfl, hb3⟩
    have HB3 := Lib.hid (step_below HB2.out hb3)
    clear hb3
    go_wp2
    go_ret
    exact ⟨rfl, HB3.out⟩
  · by_cases hi : i < 0 ∨ (n : Int) ≤ i
    · have HFR := Lib.hid (fFrom_range L hok a n c i w hv hE hi)
      rw [hE] at HCK
      have gi : decide (i < 0) = true ∨ (decide (i < 0) = false ∧ decide ((n : Int) ≤ i) = true) := by
        by_cases h : i < 0
        · exact .inl (decide_eq_true h)
        · exact .inr ⟨decide_eq_false h, decide_eq_true (by omega)⟩
      clear hv hok hE hg H hi
      rcases gi with gi | ⟨gi, gi2⟩
      all_goals
        go_enter Tryd.func3, Tryd.ntmps3
        go_wp2_with fail
        refine HFR.out.mono ?_
        rintro e w1 ⟨rfl, hb1⟩
        have HB1 := Lib.hid hb1
        clear hb1
        go_wp2_with fail
        refine (HCK.out _ HB1.out).mono ?_
        rintro e w2 ⟨rfl, hb2⟩
        have HB2 := Lib.hid (step_below HB1.out hb2)
        clear hb2
        go_wp2_with fail
        refine (HAW.out _ (HG.out _ HB2.out)).mono ?_
        rintro e w3 ⟨rfl, hb3⟩
        have HB3 := Lib.hid (step_below HB2.out hb3)
        clear hb3
        go_wp2
        go_ret
        exact ⟨rfl, HB3.out⟩
    · obtain ⟨j, rfl⟩ := Int.eq_ofNat_of_zero_le (show 0 ≤ i by omega)
      have hj : j < n := by omega
      obtain ⟨p, F⟩ := from_ex H (show j < L.length by rw [hv.len]; exact hj)
      have HFR := Lib.hid (fFrom_good L hok a n c w hv hE hh H (by omega) j p hj F)
      have HRF := Lib.hid (fun W (hW : Below w.heap.size w W) => rFrom_calls L hok a n c W (hv.on hW) hh H (by omega) j p hj F)
      rw [hE] at HCK
      have gi : decide ((j : Int) < 0) = false := decide_eq_false (by omega)
      have gi2 : ¬ (n : Int) ≤ (j : Int) := by omega
      have gi3 : ¬ n ≤ j := by omega
      clear hv hok hE hg H F hi
      go_enter Tryd.func3, Tryd.ntmps3
      go_wp2_with fail
      refine HFR.out.mono ?_
      rintro e w1 ⟨rfl, hb1⟩
      have HB1 := Lib.hid hb1
      clear hb1
      go_wp2_with fail
      refine (HCK.out _ HB1.out).mono ?_
      rintro e w2 ⟨rfl, hb2⟩
      have HB2 := Lib.hid (step_below HB1.out hb2)
      clear hb2
      go_wp2_with fail
      refine (HRF.out _ HB2.out).mono ?_
      rintro e w3 ⟨rfl, hb3⟩
      have HB3 := Lib.hid (step_below HB2.out hb3)
      clear hb3
      go_wp2_with fail
      refine (HAW.out _ (HG.out _ HB3.out)).mono ?_
      rintro e w4 ⟨rfl, hb4⟩
      have HB4 := Lib.hid (step_below HB3.out hb4)
      clear hb4
      go_wp2
      go_ret
      exact ⟨rfl, HB4.out⟩

set_option maxRecDepth 100000 in
set_option maxHeartbeats 2000000 in
theorem formFroms_long (L : List PartL) (hok : ∀ p ∈ L, p.ok) (a : Option Addr) (n c : Nat) (i : Int) (w : World) (hv : ArgP w a 40 c L) (hn : 40 < n) (hg : Good w.heap.size w) :
    Calls Tryd.prog 3 #[.slice a n c, .int .i64 i] w fun e w' => e = .returned (.bool true) ∧ Below w.heap.size w w' := by
  have HG := Lib.hid (fun W (hW : Below w.heap.size w W) => hg.next hW)
  have HAW := Lib.hid (fun W (hW : Good W.heap.size W) => awake_calls W hW)
  have HCK := Lib.hid (fun W (hW : Below w.heap.size w W) => rFCheck_calls L hok a 40 c W (hv.on hW))
  have hcap := hv.cap
  have hmost := hv.most
  unfold maxLen at hmost
  have g0 : (40 : Int) < (n : Int) := by omega
  have g00 : (40 : Int) ≤ (c : Int) := by omega
  rcases chk_cases L with hE | ⟨hE, hh, H⟩
  · have HFR := Lib.hid (fFrom_bad L hok a 40 c i w hv hE)
    obtain ⟨E, hEe⟩ : ∃ E, chkE L = E := ⟨_, rfl⟩
    rw [hEe] at HFR HCK hE
    have g1 : (E == 0) = false := beq_eq_false_iff_ne.2 hE
    have g2 : (E != 0) = true := bne_iff_ne.2 hE
    have g3 : (E != E) = false := by simp
    clear hv hok hEe hE hg
    go_enter Tryd.func3, Tryd.ntmps3
    go_wp2_with fail
    refine HFR.out.mono ?_
    rintro e w1 ⟨rfl, hb1⟩
    have HB1 := Lib.hid hb1
    clear hb1
    go_wp2_with fail
    refine (HCK.out _ HB1.out).mono ?_
    rintro e w2 ⟨rfl, hb2⟩
    have HB2 := Lib.hid (step_below HB1.out hb2)
    clear hb2
    go_wp2_with fail
    refine (HAW.out _ (HG.out _ HB2.out)).mono ?_
    rintro e w3 ⟨rfl, hb3⟩
    have HB3 := Lib.hid (step_below HB2.out hb3)
    clear hb3
    go_wp2
    go_ret
    exact ⟨rfl, HB3.out⟩
  · by_cases hi : i < 0 ∨ (40 : Int) ≤ i
    · have HFR := Lib.hid (fFrom_range L hok a 40 c i w hv hE hi)
      rw [hE] at HCK
      have gi : decide (i < 0) = true ∨ (decide (i < 0) = false ∧ decide ((40 : Int) ≤ i) = true) := by
        by_cases h : i < 0
        · exact .inl (decide_eq_true h)
        · exact .inr ⟨decide_eq_false h, decide_eq_true (by omega)⟩
      clear hv hok hE hg H hi
      rcases gi with gi | ⟨gi, gi2⟩
      all_goals
        go_enter Tryd.func3, Tryd.ntmps3
        go_wp2_with fail
        refine HFR.out.mono ?_
        rintro e w1 ⟨rfl, hb1⟩
        have HB1 := Lib.hid hb1
        clear hb1
        go_wp2_with fail
        refine (HCK.out _ HB1.out).mono ?_
        rintro e w2 ⟨rfl, hb2⟩
        have HB2 := Lib.hid (step_below HB1.out hb2)
        clear hb2
        go_wp2_with fail
        refine (HAW.out _ (HG.out _ HB2.out)).mono ?_
        rintro e w3 ⟨rfl, hb3⟩
        have HB3 := Lib.hid (step_below HB2.out hb3)
        clear hb3
        go_wp2
        go_ret
        exact ⟨rfl, HB3.out⟩
    · obtain ⟨j, rfl⟩ := Int.eq_ofNat_of_zero_le (show 0 ≤ i by omega)
      have hj : j < 40 := by omega
      obtain ⟨p, F⟩ := from_ex H (show j < L.length by rw [hv.len]; exact hj)
      have HFR := Lib.hid (fFrom_good L hok a 40 c w hv hE hh H (by omega) j p hj F)
      have HRF := Lib.hid (fun W (hW : Below w.heap.size w W) => rFrom_calls L hok a 40 c W (hv.on hW) hh H (by omega) j p hj F)
      rw [hE] at HCK
      have gi : decide ((j : Int) < 0) = false := decide_eq_false (by omega)
      have gi2 : ¬ (40 : Int) ≤ (j : Int) := by omega
      have gi3 : ¬ 40 ≤ j := by omega
      clear hv hok hE hg H F hi
      go_enter Tryd.func3, Tryd.ntmps3
      go_wp2_with fail
      refine HFR.out.mono ?_
      rintro e w1 ⟨rfl, hb1⟩
      have HB1 := Lib.hid hb1
      clear hb1
      go_wp2_with fail
      refine (HCK.out _ HB1.out).mono ?_
      rintro e w2 ⟨rfl, hb2⟩
      have HB2 := Lib.hid (step_below HB1.out hb2)
      clear hb2
      go_wp2_with fail
      refine (HRF.out _ HB2.out).mono ?_
      rintro e w3 ⟨rfl, hb3⟩
      have HB3 := Lib.hid (step_below HB2.out hb3)
      clear hb3
      go_wp2_with fail
      refine (HAW.out _ (HG.out _ HB3.out)).mono ?_
      rintro e w4 ⟨rfl, hb4⟩
      have HB4 := Lib.hid (step_below HB3.out hb4)
      clear hb4
      go_wp2
      go_ret
      exact ⟨rfl, HB4.out⟩

theorem formFroms_calls (L : List PartL) (hok : ∀ p ∈ L, p.ok) (a : Option Addr) (n c : Nat) (i : Int) (w : World) (hv : ArgP w a n c L) (hg : Good w.heap.size w) :
    Calls Tryd.prog 3 #[.slice a n c, .int .i64 i] w fun e w' => e = .returned (.bool true) ∧ Below w.heap.size w w' := by
  by_cases hn : n ≤ 40
  · exact formFroms_short L hok a n c i w hv hn hg
  · exact formFroms_long (L.take 40) (fun p hp => hok p (List.mem_of_mem_take hp)) a n c i w (hv.cut (by omega)) (by omega) hg

end Go.Proofs.YtgkpdcjkobieiaaDoor
