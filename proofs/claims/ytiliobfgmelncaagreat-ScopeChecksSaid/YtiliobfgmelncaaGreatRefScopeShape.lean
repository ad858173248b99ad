/- Which rows of operations are shaped, and where the operations begin whose result one makes: by the document's own answer. -/
import Derived.Test.YtiliobfgmelncaaGreatScopePlains
import Derived.Test.YtiliobfgmelncaaGreatRefScopeRight
namespace Go.Proofs.YtiliobfgmelncaaGreat
open Go.RowKit

/- a slice of operations, wherever it begins -/
structure OpsA (w : World) (a : Option Addr) (n c : Nat) (C : List OpL) : Prop where
  len : C.length = n
  cap : n ≤ c
  most : c ≤ maxLen
  cells : 0 < n → ∃ g o, a = some ⟨g, o, none⟩ ∧ g < w.heap.size ∧ ∀ j (h : j < C.length), ∃ A, Op7 w g (o + j * 7) C[j] A ∧ OpIn w C[j] A
theorem OpsA.on {w w' : World} {a : Option Addr} {n c : Nat} {C : List OpL} (h : OpsA w a n c C) (hb : Below w.heap.size w w') : OpsA w' a n c C := by
  refine ⟨h.len, h.cap, h.most, fun h0 => ?_⟩
  obtain ⟨g, o, ha, hg, hc⟩ := h.cells h0
  refine ⟨g, o, ha, Nat.lt_of_lt_of_le hg hb.size, fun j hj => ?_⟩
  obtain ⟨A, h1, h2⟩ := hc j hj
  exact ⟨A, h1.on hb hg, h2.on hb⟩

set_option maxRecDepth 100000 in
set_option maxHeartbeats 4000000 in
theorem rshaped_calls (C : List OpL) (hok : ∀ o ∈ C, OpOk o) (a : Option Addr) (n c : Nat) (w : World) (hv : OpsA w a n c C) :
    Calls Tryz.prog 35 #[.slice a n c] w fun e w' => e = .returned (.bool (shB C)) ∧ Below w.heap.size w w' := by
  have HV := Lib.hid hv
  have HOK := Lib.hid hok
  have HL := Lib.hid hv.len
  have hcp := hv.cap
  have hms := hv.most
  unfold maxLen at hms
  clear hv hok
  go_enter Tryz.func35, Tryz.ntmps35
  go_wp2
  go_loopg [3, 4] n (fun g r i wr => ∃ k h : Nat, i = .int .i64 k ∧ r = .int .i64 h ∧ k + g = n ∧ h ≤ k ∧ Hid (ShR C k h) ∧ Hid (Below w.heap.size w wr))
  case atStart => exact ⟨0, 0, rfl, rfl, by omega, Nat.le_refl _, Lib.hid (shR_start C), Lib.hid (Below.refl _ _)⟩
  case round =>
    obtain ⟨W1, rfl⟩ : ∃ W1, W1 = wr := ⟨_, rfl⟩
    obtain ⟨k, h, rfl, rfl, hkg, hhk, HR, HB⟩ := hrel
    by_cases hk : k < n
    · have hkL : k < C.length := by rw [HL.out]; exact hk
      obtain ⟨g, o, ha, hgw, hcells⟩ := HV.out.cells (by omega)
      subst ha
      have hgW : g < W1.heap.size := Nat.lt_of_lt_of_le hgw HB.out.size
      obtain ⟨A, h7, hin⟩ := hcells k hkL
      have H7 := Lib.hid (fun W (hb : Below w.heap.size w W) => (Op7.on h7 hb hgw : Op7 W g (o + k * 7) C[k] A))
      have HIN := Lib.hid (hin.on HB.out)
      have HNX := Lib.hid (fun h1 h2 => shR_next HR.out hkL h1 h2)
      have HST := Lib.hid (fun h1 => shR_stop HR.out hkL h1)
      have HOO := Lib.hid (HOK.out C[k] (List.getElem_mem hkL))
      clear hcells h7 hin
      generalize C[k] = p at H7 HIN HNX HST HOO
      have HND := Lib.hid (fun W => rONeeds_calls p A W)
      have HRT := Lib.hid (rORight_calls p A W1 HOO.out HIN.out)
      have HGD := Lib.hid (fun hg => @needO_right p hg)
      have hc0 := H7.out W1 HB.out
      obtain ⟨pk, pT, pV, pR, pF, pm, ps⟩ := p
      obtain ⟨ta, tn, tc, va, vn, vc, ra, rn, rc, fa, fn, fc⟩ := A
      simp only [OpL.v] at HND HRT
      simp only [Op7] at H7 hc0
      obtain ⟨c0, c1, c2, c3, c4, c5, c6⟩ := hc0
      dsimp only at HND HGD
      obtain ⟨x, hx⟩ : ∃ x, needO pk = x := ⟨_, rfl⟩
      rw [hx] at HND HGD
      obtain ⟨G, hG⟩ : ∃ G, rightO ⟨pk, pT, pV, pR, pF, pm, ps⟩ = G := ⟨_, rfl⟩
      obtain ⟨D, hD⟩ : ∃ D, ndO ⟨pk, pT, pV, pR, pF, pm, ps⟩ = D := ⟨_, rfl⟩
      rw [hG] at HNX HST HRT HGD
      rw [hD] at HNX HST HGD
      have k0 : (0 : Int) ≤ (k : Int) := by omega
      have k1 : (k : Int) < (n : Int) := by omega
      clear hx hG hD hkL hk HR HOO HIN
      obtain ⟨gg, rfl⟩ : ∃ gg, gk = gg + 1 := ⟨gk - 1, by omega⟩
      cases G with
      | false =>
        have HE := Lib.hid (HST.out (fun c => by simp at c))
        clear HNX HST HGD
        go_wp2_with fail
        refine HRT.out.mono ?_
        rintro e w2 ⟨rfl, hb2⟩
        have HB2 := Lib.hid (HB.out.trans (hb2.mono HB.out.size))
        clear hb2
        go_wp2
        go_ret
        exact ⟨by rw [HE.out]; rfl, HB2.out⟩
      | true =>
        obtain rfl := HGD.out rfl
        by_cases hxh : D ≤ h
        · have gh : decide ((h : Int) < (D : Int)) = false := decide_eq_false (by omega)
          have HN2 := Lib.hid (HNX.out rfl hxh)
          clear HNX HST
          go_wp2_with fail
          refine HRT.out.mono ?_
          rintro e w2 ⟨rfl, hb2⟩
          have HB2 := Lib.hid (HB.out.trans (hb2.mono HB.out.size))
          have hgW2 : g < w2.heap.size := Nat.lt_of_lt_of_le hgW hb2.size
          clear hb2 c0 c1 c2 c3 c4 c5 c6
          obtain ⟨c0, c1, c2, c3, c4, c5, c6⟩ := H7.out w2 HB2.out
          go_wp2_with fail
          refine (HND.out _).mono ?_
          rintro e w3 ⟨rfl, hb3⟩
          have HB3 := Lib.hid (HB2.out.trans (hb3.mono HB2.out.size))
          have hgW3 : g < w3.heap.size := Nat.lt_of_lt_of_le hgW2 hb3.size
          clear hb3 c0 c1 c2 c3 c4 c5 c6
          obtain ⟨c0, c1, c2, c3, c4, c5, c6⟩ := H7.out w3 HB3.out
          go_wp2_with fail
          refine (HND.out _).mono ?_
          rintro e w4 ⟨rfl, hb4⟩
          have HB4 := Lib.hid (HB3.out.trans (hb4.mono HB3.out.size))
          clear hb4
          go_wp2
          go_roundg gg
          case measure => omega
          case rel => exact ⟨k + 1, h - D + 1, by go_num, by (congr 1; omega), by omega, by omega, HN2, HB4⟩
        · have gh : decide ((h : Int) < (D : Int)) = true := decide_eq_true (by omega)
          have HE := Lib.hid (HST.out (fun c => by omega))
          clear HNX HST
          go_wp2_with fail
          refine HRT.out.mono ?_
          rintro e w2 ⟨rfl, hb2⟩
          have HB2 := Lib.hid (HB.out.trans (hb2.mono HB.out.size))
          have hgW2 : g < w2.heap.size := Nat.lt_of_lt_of_le hgW hb2.size
          clear hb2 c0 c1 c2 c3 c4 c5 c6
          obtain ⟨c0, c1, c2, c3, c4, c5, c6⟩ := H7.out w2 HB2.out
          go_wp2_with fail
          refine (HND.out _).mono ?_
          rintro e w3 ⟨rfl, hb3⟩
          have HB3 := Lib.hid (HB2.out.trans (hb3.mono HB2.out.size))
          clear hb3
          go_wp2
          go_ret
          exact ⟨by rw [HE.out]; rfl, HB3.out⟩
    · have HE := Lib.hid (shR_end HR.out (by rw [HL.out]; omega))
      have k1 : ¬ (k : Int) < (n : Int) := by omega
      by_cases h1 : h = 1
      · subst h1
        have HE2 := Lib.hid (HE.out.trans (decide_eq_true rfl))
        clear hhk HE
        go_wp2
        go_ret
        exact ⟨by rw [HE2.out]; rfl, HB.out⟩
      · have g2 : ((h : Int) == 1) = false := beq_eq_false_iff_ne.2 (by omega)
        have HE2 := Lib.hid (HE.out.trans (decide_eq_false h1))
        clear h1 HE
        go_wp2
        go_ret
        exact ⟨by rw [HE2.out]; rfl, HB.out⟩

set_option maxRecDepth 100000 in
set_option maxHeartbeats 4000000 in
theorem rOFrom_calls (C : List OpL) (a : Option Addr) (n c : Nat) (w : World) (hv : OpsA w a n c C) (hh : Nat → Nat) (H : HtO C hh) (hl : n ≤ 128) (i p : Nat) (hi : i < n) (F : FromAt hh i p) :
    Calls Tryz.prog 19 #[.slice a n c, .int .i64 i] w fun e w' => e = .returned (.int .i64 p) ∧ Below w.heap.size w w' := by
  have hL := hv.len
  have HV := Lib.hid hv
  have HH := Lib.hid H
  have HF := Lib.hid F
  have hcap := hv.cap
  have hmost := hv.most
  have hpi := F.le
  have i0 : (0 : Int) ≤ (i : Int) := by omega
  have i1 : (i : Int) < (n : Int) := by omega
  have HL := Lib.hid hL
  clear hv H F hL
  unfold maxLen at hmost
  go_enter Tryz.func19, Tryz.ntmps19
  go_wp2
  go_loopg [5, 6] (i - p) (fun g r q wr => ∃ (qn : Nat) (x : Int), q = .int .i64 qn ∧ r = .int .i64 x ∧ p + g = qn ∧ qn ≤ i ∧ Hid (x = 1 + (hh (qn + 1) : Int) - hh (i + 1)) ∧ Hid (Below w.heap.size w wr))
  case atStart => exact ⟨i, 1, rfl, rfl, by omega, Nat.le_refl _, Lib.hid (by omega), Lib.hid (Below.refl _ _)⟩
  case round =>
    obtain ⟨W1, rfl⟩ : ∃ W1, W1 = wr := ⟨_, rfl⟩
    obtain ⟨q, x, rfl, rfl, hqg, hqi, HX, HB⟩ := hrel
    have hqL : q < C.length := by rw [HL.out]; omega
    obtain ⟨g, o, ha, hgw, hcells⟩ := HV.out.cells (by omega)
    subst ha
    have hgW : g < W1.heap.size := Nat.lt_of_lt_of_le hgw HB.out.size
    obtain ⟨A, h7, hin⟩ := hcells q hqL
    have hc0 := Op7.on h7 HB.out hgw
    obtain ⟨hgood, hnd, hst⟩ := HH.out.step q hqL
    have hnd2 := ndO_le C[q]
    have hnn := needO_right hgood
    clear hcells h7 hin hgood
    generalize C[q] = u at hc0 hnd hst hnd2 hnn
    have HND := Lib.hid (fun W => rONeeds_calls u A W)
    obtain ⟨pk, pT, pV, pR, pF, pm, ps⟩ := u
    obtain ⟨ta, tn, tc, va, vn, vc, ra, rn, rc, fa, fn, fc⟩ := A
    simp only [OpL.v] at HND
    simp only [Op7] at hc0
    obtain ⟨c0, c1, c2, c3, c4, c5, c6⟩ := hc0
    dsimp only at HND hnn
    rw [hnn] at HND
    clear hnn
    generalize ndO ⟨pk, pT, pV, pR, pF, pm, ps⟩ = D at HND hnd hst hnd2
    have hb1 := htO_le HH.out (i + 1) (by rw [HL.out]; omega)
    have hb2 := htO_le HH.out (q + 1) (by rw [HL.out]; omega)
    have q0 : (0 : Int) ≤ (q : Int) := by omega
    have q1 : (q : Int) < (n : Int) := by omega
    have x1 : -200 ≤ x ∧ x ≤ 200 := by have := HX.out; omega
    have hxx : x + (D : Int) - 1 = 1 + (hh q : Int) - hh (i + 1) := by have := HX.out; omega
    have e1 : IntKind.i64.wrap (x + (D : Int)) = x + (D : Int) := IntWalk.i64_in _ (by omega)
    have e2 : IntKind.i64.wrap (x + (D : Int) - 1) = x + (D : Int) - 1 := IntWalk.i64_in _ (by omega)
    have HXX := Lib.hid hxx
    have hz1 : q = p → ((x + (D : Int) - 1) == 0) = true := fun h => by
      have := HF.out.at_
      rw [← h] at this
      exact beq_iff_eq.2 (by omega)
    have hz2 : q ≠ p → ((x + (D : Int) - 1) == 0) = false := fun h => by
      have := HF.out.up q (by omega) (by omega)
      exact beq_eq_false_iff_ne.2 (by omega)
    clear hxx hnd hst hb1 hb2
    by_cases hqp : q = p
    · have gz := hz1 hqp
      subst hqp
      clear hz1 hz2
      go_wp2_with fail
      refine (HND.out _).mono ?_
      rintro e w2 ⟨rfl, hb2⟩
      have HB2 := Lib.hid (HB.out.trans (hb2.mono HB.out.size))
      clear hb2
      go_wp2
      go_ret
      exact ⟨rfl, HB2.out⟩
    · have gz := hz2 hqp
      clear hz1 hz2
      obtain ⟨gg, rfl⟩ : ∃ gg, gk = gg + 1 := ⟨gk - 1, by omega⟩
      go_wp2_with fail
      refine (HND.out _).mono ?_
      rintro e w2 ⟨rfl, hb2⟩
      have HB2 := Lib.hid (HB.out.trans (hb2.mono HB.out.size))
      clear hb2
      go_wp2
      go_roundg gg
      case measure => omega
      case rel => exact ⟨q - 1, x + (D : Int) - 1, by (congr 1; omega), by first | rfl | (congr 1; omega), by omega, by omega, Lib.hid (by rw [HXX.out, show q - 1 + 1 = q by omega]), HB2⟩

theorem rSecond_calls (C : List OpL) (a : Option Addr) (n c : Nat) (w : World) (hv : OpsA w a n c C) (hh : Nat → Nat) (H : HtO C hh) (hl : n ≤ 128) (i p : Nat) (hi : i + 1 < n) (F : FromAt hh i p) :
    Calls Tryz.prog 61 #[.slice a n c, .int .i64 ((i : Int) + 1)] w fun e w' => e = .returned (.int .i64 p) ∧ Below w.heap.size w w' := by
  have HC := Lib.hid (rOFrom_calls C a n c w hv hh H hl i p (by omega) F)
  have e1 : ((i : Int) + 1) - 1 = (i : Int) := by omega
  have e2 : IntKind.i64.wrap (i : Int) = (i : Int) := IntWalk.i64_in _ (by omega)
  clear hv H F
  go_enter Tryz.func61, Tryz.ntmps61
  go_wp2_with fail
  refine HC.out.mono ?_
  rintro e w2 ⟨rfl, hb2⟩
  go_wp2
  go_ret
  exact ⟨rfl, hb2⟩

end Go.Proofs.YtiliobfgmelncaaGreat
