/- Which rows of parts are formulas: package formula's Check, for every row. -/
import Derived.Test.YtiliobfgmelncaaFormNeedss
import Derived.Test.YtiliobfgmelncaaFormRights
import Derived.Deep.LoopGhost
namespace Go.Proofs.Ytiliobfgmelncaa
open Go.RowKit

def CellsP (w : World) (g o : Nat) (p : PartL) : Prop :=
  w.cell? ⟨g, o, none⟩ = some (.int .i64 p.k) ∧ w.cell? ⟨g, o + 1, none⟩ = some (.int .i64 p.t.k) ∧ w.cell? ⟨g, o + 2, none⟩ = some (.string (bs p.t.x)) ∧ w.cell? ⟨g, o + 3, none⟩ = some (.string (bs p.t.y)) ∧
  w.cell? ⟨g, o + 4, none⟩ = some (.string (bs p.t.z)) ∧ w.cell? ⟨g, o + 5, none⟩ = some (.string (bs p.m)) ∧ w.cell? ⟨g, o + 6, none⟩ = some (.int .i64 p.c)
theorem CellsP.on {w w' : World} {g o B : Nat} {p : PartL} (h : CellsP w g o p) (hb : Below B w w') (hg : g < B) : CellsP w' g o p := by
  obtain ⟨c0, c1, c2, c3, c4, c5, c6⟩ := h
  exact ⟨(hb.cell (p := ⟨g, _, none⟩) hg).trans c0, (hb.cell (p := ⟨g, _, none⟩) hg).trans c1, (hb.cell (p := ⟨g, _, none⟩) hg).trans c2, (hb.cell (p := ⟨g, _, none⟩) hg).trans c3, (hb.cell (p := ⟨g, _, none⟩) hg).trans c4, (hb.cell (p := ⟨g, _, none⟩) hg).trans c5, (hb.cell (p := ⟨g, _, none⟩) hg).trans c6⟩
/- a slice of parts, wherever it begins -/
structure ArgP (w : World) (a : Option Addr) (n c : Nat) (L : List PartL) : Prop where
  len : L.length = n
  cap : n ≤ c
  most : c ≤ maxLen
  cells : 0 < n → ∃ g o, a = some ⟨g, o, none⟩ ∧ g < w.heap.size ∧ ∀ j (h : j < L.length), CellsP w g (o + j * 7) L[j]
theorem ArgP.on {w w' : World} {a : Option Addr} {n c : Nat} {L : List PartL} (h : ArgP w a n c L) (hb : Below w.heap.size w w') : ArgP w' a n c L := by
  refine ⟨h.len, h.cap, h.most, fun h0 => ?_⟩
  obtain ⟨g, o, ha, hg, hc⟩ := h.cells h0
  exact ⟨g, o, ha, Nat.lt_of_lt_of_le hg hb.size, fun j hj => (hc j hj).on hb hg⟩
theorem chk_drop {L : List PartL} {k : Nat} (hk : k < L.length) : L.drop k = L[k] :: L.drop (k + 1) := List.drop_eq_getElem_cons hk
/- what a round keeps -/
def ChkR (L : List PartL) (k h : Nat) : Prop := chkGo L 0 = chkGo (L.drop k) h ∧ h ≤ k
theorem chkR_start (L : List PartL) : ChkR L 0 0 := ⟨rfl, Nat.le_refl _⟩
theorem chkR_next {L : List PartL} {k h : Nat} (H : ChkR L k h) (hk : k < L.length) (hg : goodM L[k] = true) (hn : nd L[k] ≤ h) : ChkR L (k + 1) (h - nd L[k] + 1) := by
  refine ⟨?_, by have := H.2; omega⟩
  rw [H.1, chk_drop hk, chk_step hg hn]
theorem chkR_stop {L : List PartL} {k h : Nat} (H : ChkR L k h) (hk : k < L.length) (hg : ¬ (goodM L[k] = true ∧ nd L[k] ≤ h)) (hl : ¬ 256 < L.length) : chkE L = 2 := by
  unfold chkE
  rw [if_neg hl, H.1, chk_drop hk, chk_stop hg, if_neg (by simp)]
theorem chkR_end {L : List PartL} {k h : Nat} (H : ChkR L k h) (hk : L.length ≤ k) (hl : ¬ 256 < L.length) : chkE L = if h = 1 then 0 else 2 := by
  unfold chkE
  rw [if_neg hl, H.1, List.drop_eq_nil_of_le hk]
  simp [chkGo]

set_option maxRecDepth 100000 in
set_option maxHeartbeats 2000000 in
theorem fCheck_calls (L : List PartL) (hok : ∀ p ∈ L, p.ok) (a : Option Addr) (n c : Nat) (w : World) (hv : ArgP w a n c L) :
    Calls Try.prog 46 #[.slice a n c] w fun e w' => e = .returned (.int .i64 (chkE L)) ∧ Below w.heap.size w w' := by
  have HV := Lib.hid hv
  have HOK := Lib.hid hok
  have HL := Lib.hid hv.len
  clear hv hok
  by_cases h256 : 256 < n
  · have HE := Lib.hid (show chkE L = 3 by unfold chkE; rw [if_pos (by rw [HL.out]; exact h256)])
    have g1 : (256 : Int) < (n : Int) := by omega
    go_enter Try.func46, Try.ntmps46
    go_wp2
    go_ret
    exact ⟨by rw [HE.out]; rfl, Below.refl _ _⟩
  · have g1 : ¬ (256 : Int) < (n : Int) := by omega
    have HN256 := Lib.hid (show ¬ 256 < L.length by rw [HL.out]; exact h256)
    go_enter Try.func46, Try.ntmps46
    go_wp2
    go_loopg [3, 12] n (fun g r i wr => ∃ k h : Nat, i = .int .i64 k ∧ r = .int .i64 h ∧ k + g = n ∧ h ≤ k ∧ Hid (ChkR L k h) ∧ Hid (Below w.heap.size w wr))
    case atStart => exact ⟨0, 0, rfl, rfl, by omega, Nat.le_refl _, Lib.hid (chkR_start L), Lib.hid (Below.refl _ _)⟩
    case round =>
      obtain ⟨W1, rfl⟩ : ∃ W1, W1 = wr := ⟨_, rfl⟩
      obtain ⟨k, h, rfl, rfl, hkg, hhk, HR, HB⟩ := hrel
      by_cases hk : k < n
      · have hkL : k < L.length := by rw [HL.out]; exact hk
        obtain ⟨g, o, ha, hgw, hcells⟩ := HV.out.cells (by omega)
        subst ha
        have hgW : g < W1.heap.size := Nat.lt_of_lt_of_le hgw HB.out.size
        obtain ⟨c0, c1, c2, c3, c4, c5, c6⟩ := (hcells k hkL).on HB.out hgw
        have hpok := HOK.out L[k] (List.getElem_mem hkL)
        have HNX := Lib.hid (fun h1 h2 => chkR_next HR.out hkL h1 h2)
        have HST := Lib.hid (fun h1 => chkR_stop HR.out hkL h1 HN256.out)
        clear hcells
        generalize L[k] = p at c0 c1 c2 c3 c4 c5 c6 hpok HNX HST
        have HND := Lib.hid (fun W => Needs_calls p W)
        have HRT := Lib.hid (fun W => fRight_calls p hpok W)
        have hneed : goodM p = (decide (0 ≤ needM p) && rightM p) := rfl
        have hnd : nd p = (needM p).toNat := rfl
        obtain ⟨pk, ⟨tk, tx, ty, tz⟩, pm, pc⟩ := p
        simp only [PartL.v] at HND HRT
        dsimp only at c0 c1 c2 c3 c4 c5 c6
        obtain ⟨x, hx⟩ : ∃ x, needM ⟨pk, ⟨tk, tx, ty, tz⟩, pm, pc⟩ = x := ⟨_, rfl⟩
        obtain ⟨rt, hrt⟩ : ∃ rt, rightM ⟨pk, ⟨tk, tx, ty, tz⟩, pm, pc⟩ = rt := ⟨_, rfl⟩
        rw [hx] at HND hneed hnd
        rw [hrt] at HRT hneed
        obtain ⟨G, hG⟩ : ∃ G, goodM ⟨pk, ⟨tk, tx, ty, tz⟩, pm, pc⟩ = G := ⟨_, rfl⟩
        obtain ⟨D, hD⟩ : ∃ D, nd ⟨pk, ⟨tk, tx, ty, tz⟩, pm, pc⟩ = D := ⟨_, rfl⟩
        rw [hG] at HNX HST hneed
        rw [hD] at HNX HST hnd
        have k0 : (0 : Int) ≤ (k : Int) := by omega
        have k1 : (k : Int) < (n : Int) := by omega
        clear hx hrt hG hD hpok hkL hk HR
        obtain ⟨gg, rfl⟩ : ∃ gg, gk = gg + 1 := ⟨gk - 1, by omega⟩
        by_cases hx0 : 0 ≤ x
        · have gx : decide (x < 0) = false := decide_eq_false (by omega)
          by_cases hxh : x ≤ h
          · have gh : decide ((h : Int) < x) = false := decide_eq_false (by omega)
            cases rt with
            | false =>
              have HE := Lib.hid (HST.out (fun c => by rw [hneed] at c; simp at c))
              clear hneed hnd hx0 hxh HNX HST
              go_wp2_with fail
              refine (HND.out _).mono ?_
              rintro e w2 ⟨rfl, hb2⟩
              obtain ⟨hc, hf⟩ := bcell hb2
              have hbX := hb2.mono (show W1.heap.size ≤ _ by simp)
              have hall : Below W1.heap.size W1 w2 := by
                refine Below.trans ?_ hbX
                repeat (with_reducible (first | exact Below.refl _ _ | refine Below.setCell ?_ (by first | exact Nat.le_refl _ | omega | (simp; omega)) _ | refine Below.alloc ?_ (by first | exact Nat.le_refl _ | omega | (simp; omega)) _))
              have HB2 := Lib.hid hb2
              have HALL := Lib.hid hall
              clear hb2 hbX hall
              go_wp2_with fail
              refine (HRT.out _).mono ?_
              rintro e w3 ⟨rfl, hb3⟩
              have HB3 := Lib.hid (HB.out.trans ((HALL.out.trans (hb3.mono HALL.out.size)).mono HB.out.size))
              clear hb3
              go_wp2
              go_ret
              exact ⟨by rw [HE.out]; rfl, HB3.out⟩
            | true =>
              have hGt : G = true := by rw [hneed, decide_eq_true hx0]; rfl
              have hDh : D ≤ h := by omega
              have HN2 := Lib.hid (HNX.out hGt hDh)
              have HXD := Lib.hid (show x = (D : Int) by omega)
              have hDx : (D : Int) = x := by omega
              clear hneed hnd hx0 HNX HST hGt
              go_wp2_with fail
              refine (HND.out _).mono ?_
              rintro e w2 ⟨rfl, hb2⟩
              obtain ⟨hc, hf⟩ := bcell hb2
              have hbX := hb2.mono (show W1.heap.size ≤ _ by simp)
              have hall : Below W1.heap.size W1 w2 := by
                refine Below.trans ?_ hbX
                repeat (with_reducible (first | exact Below.refl _ _ | refine Below.setCell ?_ (by first | exact Nat.le_refl _ | omega | (simp; omega)) _ | refine Below.alloc ?_ (by first | exact Nat.le_refl _ | omega | (simp; omega)) _))
              have HB2 := Lib.hid hb2
              have HALL := Lib.hid hall
              clear hb2 hbX hall
              go_wp2_with fail
              refine (HRT.out _).mono ?_
              rintro e w3 ⟨rfl, hb3⟩
              have HB3 := Lib.hid (HB.out.trans ((HALL.out.trans (hb3.mono HALL.out.size)).mono HB.out.size))
              clear hb3
              go_wp2
              go_roundg gg
              case measure => omega
              case rel => exact ⟨k + 1, h - D + 1, by go_num, by (congr 1; omega), by omega, by omega, HN2, HB3⟩
          · have gh : decide ((h : Int) < x) = true := decide_eq_true (by omega)
            have HE := Lib.hid (HST.out (fun c => by omega))
            clear hneed hnd hx0 hxh HNX HST
            go_wp2_with fail
            refine (HND.out _).mono ?_
            rintro e w2 ⟨rfl, hb2⟩
            obtain ⟨hc, hf⟩ := bcell hb2
            have hbX := hb2.mono (show W1.heap.size ≤ _ by simp)
            have hall : Below W1.heap.size W1 w2 := by
              refine Below.trans ?_ hbX
              repeat (with_reducible (first | exact Below.refl _ _ | refine Below.setCell ?_ (by first | exact Nat.le_refl _ | omega | (simp; omega)) _ | refine Below.alloc ?_ (by first | exact Nat.le_refl _ | omega | (simp; omega)) _))
            have HB2 := Lib.hid hb2
            have HALL := Lib.hid hall
            clear hb2 hbX hall
            go_wp2
            go_ret
            exact ⟨by rw [HE.out]; rfl, HB.out.trans (HALL.out.mono HB.out.size)⟩
        · have gx : decide (x < 0) = true := decide_eq_true (by omega)
          have HE := Lib.hid (HST.out (fun c => by rw [hneed, decide_eq_false hx0] at c; simp at c))
          clear hneed hnd hx0 HNX HST
          go_wp2_with fail
          refine (HND.out _).mono ?_
          rintro e w2 ⟨rfl, hb2⟩
          obtain ⟨hc, hf⟩ := bcell hb2
          have hbX := hb2.mono (show W1.heap.size ≤ _ by simp)
          have hall : Below W1.heap.size W1 w2 := by
            refine Below.trans ?_ hbX
            repeat (with_reducible (first | exact Below.refl _ _ | refine Below.setCell ?_ (by first | exact Nat.le_refl _ | omega | (simp; omega)) _ | refine Below.alloc ?_ (by first | exact Nat.le_refl _ | omega | (simp; omega)) _))
          have HB2 := Lib.hid hb2
          have HALL := Lib.hid hall
          clear hb2 hbX hall
          go_wp2
          go_ret
          exact ⟨by rw [HE.out]; rfl, HB.out.trans (HALL.out.mono HB.out.size)⟩
      · have hk0 : gk = 0 := by omega
        subst hk0
        have HE := Lib.hid (chkR_end HR.out (by rw [HL.out]; omega) HN256.out)
        have k1 : ¬ (k : Int) < (n : Int) := by omega
        by_cases h1 : h = 1
        · subst h1
          clear hhk
          go_wp2
          go_ret
          exact ⟨by rw [HE.out]; rfl, HB.out⟩
        · have g2 : ((h : Int) != 1) = true := bne_iff_ne.2 (by omega)
          have HE2 := Lib.hid (HE.out.trans (if_neg h1))
          clear h1 HE
          go_wp2
          go_ret
          exact ⟨by rw [HE2.out]; rfl, HB.out⟩

end Go.Proofs.Ytiliobfgmelncaa
