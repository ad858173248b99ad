/- Which rows of parts are formulas, by the document's own answer, for every row. Where the parts begin whose result a part makes, by the document's own answer, for every formula of at most forty parts and every place in it. -/
import Derived.Test.YtgkpdcjkobieiaaDoorFormCheck
import Derived.Test.YtgkpdcjkobieiaaDoorRefFRight
namespace Go.Proofs.YtgkpdcjkobieiaaDoor
open Go.RowKit

set_option maxRecDepth 100000 in
set_option maxHeartbeats 2000000 in
theorem rFCheck_calls (L : List PartL) (hok : ∀ p ∈ L, p.ok) (a : Option Addr) (n c : Nat) (w : World) (hv : ArgP w a n c L) :
    Calls Tryd.prog 6 #[.slice a n c] w fun e w' => e = .returned (.int .i64 (chkE L)) ∧ Below w.heap.size w w' := by
  have HV := Lib.hid hv
  have HOK := Lib.hid hok
  have HL := Lib.hid hv.len
  clear hv hok
  by_cases h256 : 256 < n
  · have HE := Lib.hid (show chkE L = 3 by unfold chkE; rw [if_pos (by rw [HL.out]; exact h256)])
    have g1 : (256 : Int) < (n : Int) := by omega
    go_enter Tryd.func6, Tryd.ntmps6
    go_wp2
    go_ret
    exact ⟨by rw [HE.out]; rfl, Below.refl _ _⟩
  · have g1 : ¬ (256 : Int) < (n : Int) := by omega
    have HN256 := Lib.hid (show ¬ 256 < L.length by rw [HL.out]; exact h256)
    go_enter Tryd.func6, Tryd.ntmps6
    go_wp2
    go_loopg [3, 4] n (fun g r i wr => ∃ k h : Nat, i = .int .i64 k ∧ r = .int .i64 h ∧ k + g = n ∧ h ≤ k ∧ Hid (ChkR L k h) ∧ Hid (Below w.heap.size w wr))
    case atStart => exact ⟨0, 0, rfl, rfl, by omega, Nat.le_refl _, Lib.hid (chkR_start L), Lib.hid (Below.refl _ _)⟩
    case round =>
      obtain ⟨W1, rfl⟩ : ∃ W1, W1 = wr := ⟨_, rfl⟩
      obtain ⟨k, h, rfl, rfl, hkg, hhk, HR, HB⟩ := hrel
      by_cases hk : k < n
      · have hkL : k < L.length := by rw [HL.out]; exact hk
        obtain ⟨g, o, ha, hgw, hcells⟩ := HV.out.cells (by omega)
        subst ha
        have hgW : g < W1.heap.size := Nat.lt_of_lt_of_le hgw HB.out.size
        obtain ⟨c0, c1, c2, c3, c4, c5, c6⟩ := (hcells k hkL).on HB.out hgw
        have hpok := HOK.out L[k] (List.getElem_mem hkL)
        have HNX := Lib.hid (fun h1 h2 => chkR_next HR.out hkL h1 h2)
        have HST := Lib.hid (fun h1 => chkR_stop HR.out hkL h1 HN256.out)
        clear hcells
        generalize L[k] = p at c0 c1 c2 c3 c4 c5 c6 hpok HNX HST
        have HND := Lib.hid (fun W => rNeeds_calls p W)
        have HRT := Lib.hid (fun W => rFRight_calls p hpok W)
        have HGD := Lib.hid (fun hg => (@need_good p hg).2.1)
        obtain ⟨pk, ⟨tk, tx, ty, tz⟩, pm, pc⟩ := p
        simp only [PartL.v] at HND HRT
        dsimp only at c0 c1 c2 c3 c4 c5 c6
        obtain ⟨x, hx⟩ : ∃ x, refNeed ⟨pk, ⟨tk, tx, ty, tz⟩, pm, pc⟩ = x := ⟨_, rfl⟩
        rw [hx] at HND HGD
        obtain ⟨G, hG⟩ : ∃ G, goodM ⟨pk, ⟨tk, tx, ty, tz⟩, pm, pc⟩ = G := ⟨_, rfl⟩
        obtain ⟨D, hD⟩ : ∃ D, nd ⟨pk, ⟨tk, tx, ty, tz⟩, pm, pc⟩ = D := ⟨_, rfl⟩
        rw [hG] at HNX HST HRT HGD
        rw [hD] at HNX HST HGD
        have k0 : (0 : Int) ≤ (k : Int) := by omega
        have k1 : (k : Int) < (n : Int) := by omega
        clear hx hG hD hpok hkL hk HR
        obtain ⟨gg, rfl⟩ : ∃ gg, gk = gg + 1 := ⟨gk - 1, by omega⟩
        cases G with
        | false =>
          have HE := Lib.hid (HST.out (fun c => by simp at c))
          clear HNX HST HGD
          go_wp2_with fail
          refine (HRT.out _).mono ?_
          rintro e w2 ⟨rfl, hb2⟩
          obtain ⟨d0, d1, d2, d3, d4, d5, d6⟩ := CellsP.on (p := ⟨pk, ⟨tk, tx, ty, tz⟩, pm, pc⟩) (o := o + k * 7) ⟨c0, c1, c2, c3, c4, c5, c6⟩ hb2 hgW
          have HB2 := Lib.hid (HB.out.trans (hb2.mono HB.out.size))
          dsimp only at d0 d1 d2 d3 d4 d5 d6
          clear c0 c1 c2 c3 c4 c5 c6
          have hgW2 : g < w2.heap.size := Nat.lt_of_lt_of_le hgW hb2.size
          clear hb2
          go_wp2
          go_ret
          exact ⟨by rw [HE.out]; rfl, HB2.out⟩
        | true =>
          obtain rfl := HGD.out rfl
          by_cases hxh : D ≤ h
          · have gh : decide ((h : Int) < (D : Int)) = false := decide_eq_false (by omega)
            have HN2 := Lib.hid (HNX.out rfl hxh)
            clear HNX HST
            go_wp2_with fail
            refine (HRT.out _).mono ?_
            rintro e w2 ⟨rfl, hb2⟩
            obtain ⟨d0, d1, d2, d3, d4, d5, d6⟩ := CellsP.on (p := ⟨pk, ⟨tk, tx, ty, tz⟩, pm, pc⟩) (o := o + k * 7) ⟨c0, c1, c2, c3, c4, c5, c6⟩ hb2 hgW
            have HB2 := Lib.hid (HB.out.trans (hb2.mono HB.out.size))
            dsimp only at d0 d1 d2 d3 d4 d5 d6
            clear c0 c1 c2 c3 c4 c5 c6
            have hgW2 : g < w2.heap.size := Nat.lt_of_lt_of_le hgW hb2.size
            clear hb2
            go_wp2_with fail
            refine (HND.out _).mono ?_
            rintro e w3 ⟨rfl, hb3⟩
            obtain ⟨c0, c1, c2, c3, c4, c5, c6⟩ := CellsP.on (p := ⟨pk, ⟨tk, tx, ty, tz⟩, pm, pc⟩) (o := o + k * 7) ⟨d0, d1, d2, d3, d4, d5, d6⟩ hb3 hgW2
            have HB3 := Lib.hid (HB2.out.trans (hb3.mono HB2.out.size))
            dsimp only at c0 c1 c2 c3 c4 c5 c6
            clear hb3
            go_wp2_with fail
            refine (HND.out _).mono ?_
            rintro e w4 ⟨rfl, hb4⟩
            have HB4 := Lib.hid (HB3.out.trans (hb4.mono HB3.out.size))
            clear hb4
            go_wp2
            go_roundg gg
            case measure => omega
            case rel => exact ⟨k + 1, h - D + 1, by go_num, by (congr 1; omega), by omega, by omega, HN2, HB4⟩
          · have gh : decide ((h : Int) < (D : Int)) = true := decide_eq_true (by omega)
            have HE := Lib.hid (HST.out (fun c => by omega))
            clear HNX HST
            go_wp2_with fail
            refine (HRT.out _).mono ?_
            rintro e w2 ⟨rfl, hb2⟩
            obtain ⟨d0, d1, d2, d3, d4, d5, d6⟩ := CellsP.on (p := ⟨pk, ⟨tk, tx, ty, tz⟩, pm, pc⟩) (o := o + k * 7) ⟨c0, c1, c2, c3, c4, c5, c6⟩ hb2 hgW
            have HB2 := Lib.hid (HB.out.trans (hb2.mono HB.out.size))
            dsimp only at d0 d1 d2 d3 d4 d5 d6
            clear c0 c1 c2 c3 c4 c5 c6
            have hgW2 : g < w2.heap.size := Nat.lt_of_lt_of_le hgW hb2.size
            clear hb2
            go_wp2_with fail
            refine (HND.out _).mono ?_
            rintro e w3 ⟨rfl, hb3⟩
            obtain ⟨c0, c1, c2, c3, c4, c5, c6⟩ := CellsP.on (p := ⟨pk, ⟨tk, tx, ty, tz⟩, pm, pc⟩) (o := o + k * 7) ⟨d0, d1, d2, d3, d4, d5, d6⟩ hb3 hgW2
            have HB3 := Lib.hid (HB2.out.trans (hb3.mono HB2.out.size))
            dsimp only at c0 c1 c2 c3 c4 c5 c6
            clear hb3
            go_wp2
            go_ret
            exact ⟨by rw [HE.out]; rfl, HB3.out⟩
      · have hk0 : gk = 0 := by omega
        subst hk0
        have HE := Lib.hid (chkR_end HR.out (by rw [HL.out]; omega) HN256.out)
        have k1 : ¬ (k : Int) < (n : Int) := by omega
        by_cases h1 : h = 1
        · subst h1
          clear hhk
          go_wp2
          go_ret
          exact ⟨by rw [HE.out]; rfl, HB.out⟩
        · have g2 : ((h : Int) != 1) = true := bne_iff_ne.2 (by omega)
          have HE2 := Lib.hid (HE.out.trans (if_neg h1))
          clear h1 HE
          go_wp2
          go_ret
          exact ⟨by rw [HE2.out]; rfl, HB.out⟩

end Go.Proofs.YtgkpdcjkobieiaaDoor

namespace Go.Proofs.YtgkpdcjkobieiaaDoor
open Go.RowKit

/- a piece of a slice of parts -/
theorem ArgP.piece {w : World} {g o n c : Nat} {L : List PartL} (h : ArgP w (some ⟨g, o, none⟩) n c L) {a b : Nat} (hab : a < b) (hb : b ≤ n) : ArgP w (some ⟨g, o + a * 7, none⟩) (b - a) (c - a) ((L.drop a).take (b - a)) := by
  have hl := h.len
  have hc := h.cap
  have hm := h.most
  refine ⟨by rw [List.length_take, List.length_drop]; omega, by omega, by omega, fun _ => ?_⟩
  obtain ⟨g', o', he, hg, hcell⟩ := h.cells (by omega)
  simp only [Option.some.injEq, Addr.mk.injEq, and_true] at he
  obtain ⟨rfl, rfl⟩ := he
  refine ⟨g, o + a * 7, rfl, hg, fun j hj => ?_⟩
  rw [List.length_take, List.length_drop] at hj
  have := hcell (a + j) (by omega)
  rw [show o + (a + j) * 7 = o + a * 7 + j * 7 by omega] at this
  simpa [List.getElem_take, List.getElem_drop] using this

set_option maxRecDepth 100000 in
set_option maxHeartbeats 2000000 in
theorem rFrom_calls (L : List PartL) (hok : ∀ p ∈ L, p.ok) (a : Option Addr) (n c : Nat) (w : World) (hv : ArgP w a n c L) (hh : Nat → Nat) (H : Hts L hh) (hl : n ≤ 256) (i p : Nat) (hi : i < n) (F : FromAt hh i p) :
    Calls Tryd.prog 8 #[.slice a n c, .int .i64 i] w fun e w' => e = .returned (.int .i64 p) ∧ Below w.heap.size w w' := by
  have hL := hv.len
  obtain ⟨g, o, ha, hgw, hcells⟩ := hv.cells (by omega)
  subst ha
  have hcap := hv.cap
  have hmost := hv.most
  have HC := Lib.hid (fun b (hb : b ≤ i) W (hW : Below w.heap.size w W) => rFCheck_calls ((L.drop b).take (i + 1 - b)) (fun x hx => hok x (List.mem_of_mem_drop (List.mem_of_mem_take hx))) (some ⟨g, o + b * 7, none⟩) (i + 1 - b) (c - b) W ((hv.on hW).piece (by omega) (by omega)))
  have HG := Lib.hid (from_good H (by omega) (by omega) F)
  have HBD := Lib.hid (fun b h1 h2 => from_bad H (a := b) (by omega) F h1 h2)
  have hpi := F.le
  have i0 : (0 : Int) ≤ (i : Int) := by omega
  have i1 : (i : Int) < (n : Int) := by omega
  clear hv hok H F hcells
  unfold maxLen at hmost
  go_enter Tryd.func8, Tryd.ntmps8
  go_wp2
  go_loopg [5] (i - p) (fun g q wr => ∃ qn : Nat, q = .int .i64 qn ∧ p + g = qn ∧ qn ≤ i ∧ Hid (Below w.heap.size w wr))
  case atStart => exact ⟨i, rfl, by omega, Nat.le_refl _, Lib.hid (Below.refl _ _)⟩
  case round =>
    obtain ⟨W1, rfl⟩ : ∃ W1, W1 = wr := ⟨_, rfl⟩
    obtain ⟨q, rfl, hqg, hqi, HB⟩ := hrel
    have HCQ := Lib.hid (HC.out q hqi W1 HB.out)
    have q0 : (0 : Int) ≤ (q : Int) := by omega
    have q1 : (q : Int) ≤ (i : Int) + 1 := by omega
    have q2 : (i : Int) + 1 ≤ (c : Int) := by omega
    by_cases hqp : q = p
    · subst hqp
      rw [HG.out] at HCQ
      go_wp2_with fail
      refine HCQ.out.mono ?_
      rintro e w2 ⟨rfl, hb2⟩
      have HB2 := Lib.hid (HB.out.trans (hb2.mono HB.out.size))
      clear hb2
      go_wp2
      go_ret
      exact ⟨rfl, HB2.out⟩
    · have hbad := HBD.out q (by omega) hqi
      obtain ⟨E, hE⟩ : ∃ E, chkE ((L.drop q).take (i + 1 - q)) = E := ⟨_, rfl⟩
      rw [hE] at HCQ hbad
      have gE : (E == 0) = false := beq_eq_false_iff_ne.2 hbad
      clear hE hbad
      obtain ⟨gg, rfl⟩ : ∃ gg, gk = gg + 1 := ⟨gk - 1, by omega⟩
      go_wp2_with fail
      refine HCQ.out.mono ?_
      rintro e w2 ⟨rfl, hb2⟩
      have HB2 := Lib.hid (HB.out.trans (hb2.mono HB.out.size))
      clear hb2
      go_wp2
      go_roundg gg
      case measure => omega
      case rel => exact ⟨q - 1, by (congr 1; omega), by omega, by omega, HB2⟩

end Go.Proofs.YtgkpdcjkobieiaaDoor
