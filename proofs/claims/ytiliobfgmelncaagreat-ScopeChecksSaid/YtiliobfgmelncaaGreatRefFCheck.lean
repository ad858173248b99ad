/- Which rows of parts are formulas, by the document's own answer, for every row. -/
import Derived.Test.YtiliobfgmelncaaGreatFormCheck
import Derived.Test.YtiliobfgmelncaaGreatRefFRight
namespace Go.Proofs.YtiliobfgmelncaaGreat
open Go.RowKit

set_option maxRecDepth 100000 in
set_option maxHeartbeats 2000000 in
theorem rFCheck_calls (L : List PartL) (hok : ∀ p ∈ L, p.ok) (a : Option Addr) (n c : Nat) (w : World) (hv : ArgP w a n c L) :
    Calls Tryz.prog 27 #[.slice a n c] w fun e w' => e = .returned (.int .i64 (chkE L)) ∧ Below w.heap.size w w' := by
  have HV := Lib.hid hv
  have HOK := Lib.hid hok
  have HL := Lib.hid hv.len
  clear hv hok
  by_cases h256 : 256 < n
  · have HE := Lib.hid (show chkE L = 3 by unfold chkE; rw [if_pos (by rw [HL.out]; exact h256)])
    have g1 : (256 : Int) < (n : Int) := by omega
    go_enter Tryz.func27, Tryz.ntmps27
    go_wp2
    go_ret
    exact ⟨by rw [HE.out]; rfl, Below.refl _ _⟩
  · have g1 : ¬ (256 : Int) < (n : Int) := by omega
    have HN256 := Lib.hid (show ¬ 256 < L.length by rw [HL.out]; exact h256)
    go_enter Tryz.func27, Tryz.ntmps27
    go_wp2
    go_loopg [3, 4] n (fun g r i wr => ∃ k h : Nat, i = .int .i64 k ∧ r = .int .i64 h ∧ k + g = n ∧ h ≤ k ∧ Hid (ChkR L k h) ∧ Hid (Below w.heap.size w wr))
    case atStart => exact ⟨0, 0, rfl, rfl, by omega, Nat.le_refl _, Lib.hid (chkR_start L), Lib.hid (Below.refl _ _)⟩
    case round =>
      obtain ⟨W1, rfl⟩ : ∃ W1, W1 = wr := ⟨_, rfl⟩
      obtain ⟨k, h, rfl, rfl, hkg, hhk, HR, HB⟩ := hrel
      by_cases hk : k < n
      · have hkL : k < L.length := by rw [HL.out]; exact hk
        obtain ⟨g, o, ha, hgw, hcells⟩ := HV.out.cells (by omega)
        subst ha
        have hgW : g < W1.heap.size := Nat.lt_of_lt_of_le hgw HB.out.size
        obtain ⟨c0, c1, c2, c3, c4, c5, c6⟩ := (hcells k hkL).on HB.out hgw
        have hpok := HOK.out L[k] (List.getElem_mem hkL)
        have HNX := Lib.hid (fun h1 h2 => chkR_next HR.out hkL h1 h2)
        have HST := Lib.hid (fun h1 => chkR_stop HR.out hkL h1 HN256.out)
        clear hcells
        generalize L[k] = p at c0 c1 c2 c3 c4 c5 c6 hpok HNX HST
        have HND := Lib.hid (fun W => rNeeds_calls p W)
        have HRT := Lib.hid (fun W => rFRight_calls p hpok W)
        have HGD := Lib.hid (fun hg => (@need_good p hg).2.1)
        obtain ⟨pk, ⟨tk, tx, ty, tz⟩, pm, pc⟩ := p
        simp only [PartL.v] at HND HRT
        dsimp only at c0 c1 c2 c3 c4 c5 c6
        obtain ⟨x, hx⟩ : ∃ x, refNeed ⟨pk, ⟨tk, tx, ty, tz⟩, pm, pc⟩ = x := ⟨_, rfl⟩
        rw [hx] at HND HGD
        obtain ⟨G, hG⟩ : ∃ G, goodM ⟨pk, ⟨tk, tx, ty, tz⟩, pm, pc⟩ = G := ⟨_, rfl⟩
        obtain ⟨D, hD⟩ : ∃ D, nd ⟨pk, ⟨tk, tx, ty, tz⟩, pm, pc⟩ = D := ⟨_, rfl⟩
        rw [hG] at HNX HST HRT HGD
        rw [hD] at HNX HST HGD
        have k0 : (0 : Int) ≤ (k : Int) := by omega
        have k1 : (k : Int) < (n : Int) := by omega
        clear hx hG hD hpok hkL hk HR
        obtain ⟨gg, rfl⟩ : ∃ gg, gk = gg + 1 := ⟨gk - 1, by omega⟩
        cases G with
        | false =>
          have HE := Lib.hid (HST.out (fun c => by simp at c))
          clear HNX HST HGD
          go_wp2_with fail
          refine (HRT.out _).mono ?_
          rintro e w2 ⟨rfl, hb2⟩
          obtain ⟨d0, d1, d2, d3, d4, d5, d6⟩ := CellsP.on (p := ⟨pk, ⟨tk, tx, ty, tz⟩, pm, pc⟩) (o := o + k * 7) ⟨c0, c1, c2, c3, c4, c5, c6⟩ hb2 hgW
          have HB2 := Lib.hid (HB.out.trans (hb2.mono HB.out.size))
          dsimp only at d0 d1 d2 d3 d4 d5 d6
          clear c0 c1 c2 c3 c4 c5 c6
          have hgW2 : g < w2.heap.size := Nat.lt_of_lt_of_le hgW hb2.size
          clear hb2
          go_wp2
          go_ret
          exact ⟨by rw [HE.out]; rfl, HB2.out⟩
        | true =>
          obtain rfl := HGD.out rfl
          by_cases hxh : D ≤ h
          · have gh : decide ((h : Int) < (D : Int)) = false := decide_eq_false (by omega)
            have HN2 := Lib.hid (HNX.out rfl hxh)
            clear HNX HST
            go_wp2_with fail
            refine (HRT.out _).mono ?_
            rintro e w2 ⟨rfl, hb2⟩
            obtain ⟨d0, d1, d2, d3, d4, d5, d6⟩ := CellsP.on (p := ⟨pk, ⟨tk, tx, ty, tz⟩, pm, pc⟩) (o := o + k * 7) ⟨c0, c1, c2, c3, c4, c5, c6⟩ hb2 hgW
            have HB2 := Lib.hid (HB.out.trans (hb2.mono HB.out.size))
            dsimp only at d0 d1 d2 d3 d4 d5 d6
            clear c0 c1 c2 c3 c4 c5 c6
            have hgW2 : g < w2.heap.size := Nat.lt_of_lt_of_le hgW hb2.size
            clear hb2
            go_wp2_with fail
            refine (HND.out _).mono ?_
            rintro e w3 ⟨rfl, hb3⟩
            obtain ⟨c0, c1, c2, c3, c4, c5, c6⟩ := CellsP.on (p := ⟨pk, ⟨tk, tx, ty, tz⟩, pm, pc⟩) (o := o + k * 7) ⟨d0, d1, d2, d3, d4, d5, d6⟩ hb3 hgW2
            have HB3 := Lib.hid (HB2.out.trans (hb3.mono HB2.out.size))
            dsimp only at c0 c1 c2 c3 c4 c5 c6
            clear hb3
            go_wp2_with fail
            refine (HND.out _).mono ?_
            rintro e w4 ⟨rfl, hb4⟩
            have HB4 := Lib.hid (HB3.out.trans (hb4.mono HB3.out.size))
            clear hb4
            go_wp2
            go_roundg gg
            case measure => omega
            case rel => exact ⟨k + 1, h - D + 1, by go_num, by (congr 1; omega), by omega, by omega, HN2, HB4⟩
          · have gh : decide ((h : Int) < (D : Int)) = true := decide_eq_true (by omega)
            have HE := Lib.hid (HST.out (fun c => by omega))
            clear HNX HST
            go_wp2_with fail
            refine (HRT.out _).mono ?_
            rintro e w2 ⟨rfl, hb2⟩
            obtain ⟨d0, d1, d2, d3, d4, d5, d6⟩ := CellsP.on (p := ⟨pk, ⟨tk, tx, ty, tz⟩, pm, pc⟩) (o := o + k * 7) ⟨c0, c1, c2, c3, c4, c5, c6⟩ hb2 hgW
            have HB2 := Lib.hid (HB.out.trans (hb2.mono HB.out.size))
            dsimp only at d0 d1 d2 d3 d4 d5 d6
            clear c0 c1 c2 c3 c4 c5 c6
            have hgW2 : g < w2.heap.size := Nat.lt_of_lt_of_le hgW hb2.size
            clear hb2
            go_wp2_with fail
            refine (HND.out _).mono ?_
            rintro e w3 ⟨rfl, hb3⟩
            obtain ⟨c0, c1, c2, c3, c4, c5, c6⟩ := CellsP.on (p := ⟨pk, ⟨tk, tx, ty, tz⟩, pm, pc⟩) (o := o + k * 7) ⟨d0, d1, d2, d3, d4, d5, d6⟩ hb3 hgW2
            have HB3 := Lib.hid (HB2.out.trans (hb3.mono HB2.out.size))
            dsimp only at c0 c1 c2 c3 c4 c5 c6
            clear hb3
            go_wp2
            go_ret
            exact ⟨by rw [HE.out]; rfl, HB3.out⟩
      · have hk0 : gk = 0 := by omega
        subst hk0
        have HE := Lib.hid (chkR_end HR.out (by rw [HL.out]; omega) HN256.out)
        have k1 : ¬ (k : Int) < (n : Int) := by omega
        by_cases h1 : h = 1
        · subst h1
          clear hhk
          go_wp2
          go_ret
          exact ⟨by rw [HE.out]; rfl, HB.out⟩
        · have g2 : ((h : Int) != 1) = true := bne_iff_ne.2 (by omega)
          have HE2 := Lib.hid (HE.out.trans (if_neg h1))
          clear h1 HE
          go_wp2
          go_ret
          exact ⟨by rw [HE2.out]; rfl, HB.out⟩

end Go.Proofs.YtiliobfgmelncaaGreat
