/- Are two right tables' variables the same, whatever their order: package shape's sameVars. -/
import Derived.Test.YtkfemnjblbnclaaGreatDoorGMap
import Derived.Test.YtkfemnjblbnclaaGreatDoorGCount
namespace Go.Proofs.YtkfemnjblbnclaaGreatDoor
open Go.RowKit Go.Maps

def varsSame (V U : List (List UInt8)) : Bool := decide (V.length = U.length ∧ ∀ x ∈ V, x ∈ U)
structure SvR (w : World) (b : Nat) (V U : List (List UInt8)) (k : Nat) (wr : World) : Prop where
  map : MapS wr b (leftN V (U.take k)) (leftM V (U.take k))
  below : Below w.heap.size w wr
theorem SvR.next {w W w5 : World} {b k : Nat} {V U : List (List UInt8)} (h : SvR w b V U k W) (hn : V.Nodup) (hk : k < U.length) (hb : w.heap.size ≤ b) (h5 : MapS w5 b (if (leftM V (U.take k) U[k]).isSome then leftN V (U.take k) - 1 else leftN V (U.take k)) (updG (leftM V (U.take k)) U[k] none)) (g5 : W.grownBy w5 (some b)) : SvR w b V U (k + 1) w5 := by
  refine ⟨?_, h.below.grown g5 h.below.size (fun j hj => by cases hj; exact hb)⟩
  rw [List.take_succ_eq_append_getElem hk, leftN_snoc hn]
  rw [leftM_snoc, leftM_some] at h5
  simpa using h5

set_option maxRecDepth 100000 in
set_option maxHeartbeats 4000000 in
theorem sameVars_calls (V U : List (List UInt8)) (hV : okV V) (hU : okV U) (hnd : V.Nodup) (va : Option Addr) (n vc : Nat) (ua : Option Addr) (m uc : Nat) (w : World) (h1 : TxtA w va n vc V) (h2 : TxtA w ua m uc U) :
    Calls Tryz.prog 58 #[.slice va n vc, .slice ua m uc] w fun e w' => e = .returned (.bool (varsSame V U)) ∧ Below w.heap.size w w' := by
  have HCO := Lib.hid (scols_calls V hV va n vc w h1)
  have HU := Lib.hid h2
  have HOK := Lib.hid hU
  have HND := Lib.hid hnd
  have HVL := Lib.hid h1.len
  have HUL := Lib.hid h2.len
  have c1 := h1.cap
  have c2 := h1.most
  have c3 := h2.cap
  have c4 := h2.most
  unfold maxLen at c2 c4
  clear h1 h2 hV hU hnd
  go_enter Tryz.func58, Tryz.ntmps58
  go_wp2_with fail
  refine HCO.out.mono ?_
  rintro e w1 ⟨b, rfl, hb, hm1, hb1⟩
  have HBE := Lib.hid (show w.heap.size ≤ b by rw [hb]; exact Nat.le_refl _)
  have HS0 := Lib.hid (show SvR w b V U 0 w1 from ⟨by rw [List.take_zero, leftN_nil, leftM_nil, ← (cnt_nodup V).2 HND.out]; exact hm1, hb1⟩)
  clear hb hm1 hb1 HCO
  go_wp2
  go_loopg [7, 12] m (fun g _ i wr => ∃ k : Nat, i = .int .i64 k ∧ k + g = m ∧ Hid (SvR w b V U k wr))
  case atStart => exact ⟨0, rfl, by omega, HS0⟩
  case round =>
    obtain ⟨W1, rfl⟩ : ∃ W1, W1 = wr := ⟨_, rfl⟩
    obtain ⟨k, rfl, hkg, HR⟩ := hrel
    by_cases hk : k < m
    · obtain ⟨gg, rfl⟩ : ∃ gg, gk = gg + 1 := ⟨gk - 1, by omega⟩
      have hkU : k < U.length := by rw [HUL.out]; exact hk
      obtain ⟨g, o, ha, hgw, hcells⟩ := HU.out.cells (by omega)
      subst ha
      have c0 := keptC (hcells k hkU) HR.out.below hgw
      have hok := Lib.hid (show okS U[k] from HOK.out _ (List.getElem_mem hkU))
      have HNX := Lib.hid (fun w5 h5 g5 => HR.out.next (w5 := w5) HND.out hkU HBE.out h5 g5)
      clear hcells
      generalize U[k] = y at c0 hok HNX
      have k0 : (0 : Int) ≤ (k : Int) := by omega
      have k1 : (k : Int) < (m : Int) := by omega
      go_wp2_with (at_delete; refine wpList_del_g rfl _ _ 87 rfl keyS Tryz.underlying87 rfl HR.out.map y hok.out rfl ?_; intro w5 h5 g5; have HN5 := Lib.hid (HNX.out w5 h5 g5); clear h5 g5)
      go_roundg gg
      case measure => omega
      case rel => exact ⟨k + 1, by go_num, by omega, HN5⟩
    · have HE := Lib.hid (show U.take k = U from List.take_of_length_le (by rw [HUL.out]; omega))
      have k1 : ¬ (k : Int) < (m : Int) := by omega
      have hm := HR.out.map
      rw [HE.out] at hm
      have hlen := fun ty => run_len_g Tryz.underlying87 hm ty
      have hz := leftN_zero V U
      obtain ⟨s, hs⟩ : ∃ s, leftN V U = s := ⟨_, rfl⟩
      rw [hs] at hlen hz
      by_cases hnm : n = m
      · by_cases hs0 : s = 0
        · have HA := Lib.hid (show varsSame V U = true from decide_eq_true ⟨by rw [HVL.out, HUL.out]; exact hnm, hz.1 hs0⟩)
          have g1 : ((n : Int) == (m : Int)) = true := beq_iff_eq.2 (by omega)
          subst hs0
          subst hnm
          clear hz hs hm
          go_wp2
          go_ret
          exact ⟨by rw [HA.out]; rfl, HR.out.below⟩
        · have HA := Lib.hid (show varsSame V U = false from decide_eq_false (fun c => hs0 (hz.2 c.2)))
          have g1 : ((n : Int) == (m : Int)) = true := beq_iff_eq.2 (by omega)
          have g2 : ((s : Int) == 0) = false := beq_eq_false_iff_ne.2 (by omega)
          subst hnm
          clear hz hs hm
          go_wp2
          go_ret
          exact ⟨by rw [HA.out]; rfl, HR.out.below⟩
      · have HA := Lib.hid (show varsSame V U = false from decide_eq_false (fun c => hnm (by rw [← HVL.out, ← HUL.out]; exact c.1)))
        have g1 : ((n : Int) == (m : Int)) = false := beq_eq_false_iff_ne.2 (by omega)
        clear hz hs hm hlen
        go_wp2
        go_ret
        exact ⟨by rw [HA.out]; rfl, HR.out.below⟩

end Go.Proofs.YtkfemnjblbnclaaGreatDoor
