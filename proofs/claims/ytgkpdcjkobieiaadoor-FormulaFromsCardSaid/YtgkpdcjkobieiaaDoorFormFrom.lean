/- Where the parts begin whose result a part makes: package formula's From, for every row and place. -/
import Derived.Test.YtgkpdcjkobieiaaDoorFormCheck
namespace Go.Proofs.YtgkpdcjkobieiaaDoor
open Go.RowKit

theorem fFrom_bad (L : List PartL) (hok : ∀ p ∈ L, p.ok) (a : Option Addr) (n c : Nat) (i : Int) (w : World) (hv : ArgP w a n c L) (hE : chkE L ≠ 0) :
    Calls Tryd.prog 5 #[.slice a n c, .int .i64 i] w fun e w' => e = .returned (.tuple #[.int .i64 0, .int .i64 (chkE L)]) ∧ Below w.heap.size w w' := by
  have HC := Lib.hid (fCheck_calls L hok a n c w hv)
  obtain ⟨E, hEe⟩ : ∃ E, chkE L = E := ⟨_, rfl⟩
  rw [hEe] at HC hE ⊢
  have g1 : (E != 0) = true := bne_iff_ne.2 hE
  clear hv hok hEe hE
  go_enter Tryd.func5, Tryd.ntmps5
  go_wp2
  go_step3
  go_wp2_with fail
  refine HC.out.mono ?_
  rintro e w1 ⟨rfl, hb1⟩
  go_wp2
  rw [Exit.noGoto_ret]
  go_ret2
  exact ⟨rfl, hb1⟩

theorem fFrom_range (L : List PartL) (hok : ∀ p ∈ L, p.ok) (a : Option Addr) (n c : Nat) (i : Int) (w : World) (hv : ArgP w a n c L) (hE : chkE L = 0) (hi : i < 0 ∨ (n : Int) ≤ i) :
    Calls Tryd.prog 5 #[.slice a n c, .int .i64 i] w fun e w' => e = .returned (.tuple #[.int .i64 0, .int .i64 1]) ∧ Below w.heap.size w w' := by
  have HC := Lib.hid (fCheck_calls L hok a n c w hv)
  rw [hE] at HC
  have gi : decide (i < 0) = true ∨ (decide (i < 0) = false ∧ decide ((n : Int) ≤ i) = true) := by
    by_cases h : i < 0
    · exact .inl (decide_eq_true h)
    · exact .inr ⟨decide_eq_false h, decide_eq_true (by omega)⟩
  clear hv hok hE hi
  rcases gi with gi | ⟨gi, gi2⟩
  all_goals
    go_enter Tryd.func5, Tryd.ntmps5
    go_wp2
    go_step3
    go_wp2_with fail
    refine HC.out.mono ?_
    rintro e w1 ⟨rfl, hb1⟩
    go_wp2
    rw [Exit.noGoto_ret]
    go_ret2
    exact ⟨rfl, hb1⟩

set_option maxRecDepth 100000 in
set_option maxHeartbeats 2000000 in
theorem fFrom_good (L : List PartL) (hok : ∀ p ∈ L, p.ok) (a : Option Addr) (n c : Nat) (w : World) (hv : ArgP w a n c L) (hE : chkE L = 0) (hh : Nat → Nat) (H : Hts L hh) (hl : n ≤ 256) (i p : Nat) (hi : i < n) (F : FromAt hh i p) :
    Calls Tryd.prog 5 #[.slice a n c, .int .i64 i] w fun e w' => e = .returned (.tuple #[.int .i64 p, .int .i64 0]) ∧ Below w.heap.size w w' := by
  have HC := Lib.hid (fCheck_calls L hok a n c w hv)
  rw [hE] at HC
  have HV := Lib.hid hv
  have HL := Lib.hid hv.len
  obtain ⟨g, o, ha, hgw, hcells⟩ := hv.cells (by omega)
  subst ha
  have HCL := Lib.hid hcells
  have HH := Lib.hid H
  have HF := Lib.hid F
  have hpi := F.le
  have i0 : (0 : Int) ≤ (i : Int) := by omega
  have i1 : (i : Int) < (n : Int) := by omega
  have gi : decide ((i : Int) < 0) = false := decide_eq_false (by omega)
  have gi2 : decide ((n : Int) ≤ (i : Int)) = false := decide_eq_false (by omega)
  have gi3 : ¬ n ≤ i := by omega
  clear hv hok hE H F hcells
  go_enter Tryd.func5, Tryd.ntmps5
  go_wp2
  go_step3
  go_wp2_with fail
  refine HC.out.mono ?_
  rintro e w1 ⟨rfl, hb1⟩
  have HB1 := Lib.hid hb1
  clear hb1
  go_wp2
  go_step3
  go_wp2
  go_loopg [7, 8] (i - p) (fun g q m wr => ∃ qn mn : Nat, q = .int .i64 qn ∧ m = .int .i64 mn ∧ p + g = qn ∧ qn ≤ i ∧ Hid (mn + hh (i + 1) = 1 + hh (qn + 1)) ∧ Hid (Below w.heap.size w wr))
  case atStart => exact ⟨i, 1, rfl, rfl, by omega, Nat.le_refl _, Lib.hid rfl, HB1⟩
  case round =>
    obtain ⟨W1, rfl⟩ : ∃ W1, W1 = wr := ⟨_, rfl⟩
    obtain ⟨q, m, rfl, rfl, hqg, hqi, HM, HB⟩ := hrel
    have hqL : q < L.length := by rw [HL.out]; omega
    have hgW : g < W1.heap.size := Nat.lt_of_lt_of_le hgw HB.out.size
    obtain ⟨c0, c1, c2, c3, c4, c5, c6⟩ := (HCL.out q hqL).on HB.out hgw
    have hs := HH.out.step q hqL
    have hz : q = p → nd L[q] = 0 := fun e => by subst e; exact (from_first HH.out (by rw [HL.out]; exact hi) HF.out).1
    have hup : p < q → hh (i + 1) ≤ hh q := fun h => HF.out.up q h (by omega)
    have hm := HM.out
    have hA256 := hts_le HH.out (q + 1) (by omega)
    have hB256 := hts_le HH.out q (by omega)
    have hmb : m ≤ 300 := by omega
    have hm1 : q = p → m = 1 := fun e => by
      have e2 := (from_first HH.out (by rw [HL.out]; exact hi) HF.out).2
      rw [e] at hm
      omega
    generalize L[q] = x at c0 c1 c2 c3 c4 c5 c6 hs hz
    have HND := Lib.hid (fun W => Needs_calls x W)
    have hx := (need_good hs.1).1
    obtain ⟨pk, ⟨tk, tx, ty, tz⟩, pm, pc⟩ := x
    simp only [PartL.v] at HND
    dsimp only at c0 c1 c2 c3 c4 c5 c6
    rw [hx] at HND
    obtain ⟨D, hD⟩ : ∃ D, nd ⟨pk, ⟨tk, tx, ty, tz⟩, pm, pc⟩ = D := ⟨_, rfl⟩
    rw [hD] at HND hs hz
    have hst := hs.2
    have hD300 : D ≤ 300 := by omega
    have q0 : (0 : Int) ≤ (q : Int) := by omega
    have q1 : (q : Int) < (n : Int) := by omega
    clear hx hD hs hqL HM hA256 hB256
    obtain ⟨A, hA⟩ : ∃ A, hh (q + 1) = A := ⟨_, rfl⟩
    obtain ⟨B, hBq⟩ : ∃ B, hh q = B := ⟨_, rfl⟩
    obtain ⟨Z, hZ⟩ : ∃ Z, hh (i + 1) = Z := ⟨_, rfl⟩
    rw [hA, hBq] at hst
    rw [hA, hZ] at hm
    rw [hBq, hZ] at hup
    by_cases hqp : q = p
    · obtain rfl := hz hqp
      obtain rfl := hm1 hqp
      subst hqp
      clear hst hm hup hz hm1 hA hBq hZ
      go_wp2_with fail
      refine (HND.out _).mono ?_
      rintro e w2 ⟨rfl, hb2⟩
      have HB2 := Lib.hid (HB.out.trans (hb2.mono HB.out.size))
      clear hb2
      go_wp2
      rw [Exit.noGoto_ret]
      go_ret2
      exact ⟨rfl, HB2.out⟩
    · have hup2 := hup (by omega)
      have HNEXT := Lib.hid (show m + D - 1 + hh (i + 1) = 1 + hh (q - 1 + 1) by rw [show q - 1 + 1 = q by omega, hBq, hZ]; omega)
      obtain ⟨gg, rfl⟩ : ∃ gg, gk = gg + 1 := ⟨gk - 1, by omega⟩
      by_cases hD0 : D = 0
      · subst hD0
        have hm2 : 2 ≤ m := by omega
        have gm : (1 : Int) < (m : Int) := by omega
        clear hst hm hup hz hm1 hA hBq hZ hup2
        go_wp2_with fail
        refine (HND.out _).mono ?_
        rintro e w2 ⟨rfl, hb2⟩
        have HB2 := Lib.hid (HB.out.trans (hb2.mono HB.out.size))
        clear hb2
        go_wp2
        go_roundg gg
        case measure => omega
        case rel => exact ⟨q - 1, m + 0 - 1, by (congr 1; omega), by (congr 1; omega), by omega, by omega, HNEXT, HB2⟩
      · have gD : (0 : Int) < (D : Int) := by omega
        clear hst hm hup hz hm1 hA hBq hZ hup2
        go_wp2_with fail
        refine (HND.out _).mono ?_
        rintro e w2 ⟨rfl, hb2⟩
        have HB2 := Lib.hid (HB.out.trans (hb2.mono HB.out.size))
        clear hb2
        go_wp2
        go_roundg gg
        case measure => omega
        case rel => exact ⟨q - 1, m + D - 1, by (congr 1; omega), by (congr 1; omega), by omega, by omega, HNEXT, HB2⟩

end Go.Proofs.YtgkpdcjkobieiaaDoor
