/- Are texts names, each once: the document's Names. -/
import Derived.Test.YtkfemnjblbnclaaGreatDoorShpRefRight
namespace Go.Proofs.YtkfemnjblbnclaaGreatDoor
open Go.RowKit Go.Sort

set_option maxRecDepth 100000 in
set_option maxHeartbeats 4000000 in
theorem rNames_calls (V : List (List UInt8)) (hx : ∀ x ∈ V, (bs x).size ≤ maxLen) (va : Option Addr) (n vc : Nat) (w : World) (hV : TxtA w va n vc V) :
    Calls Tryz.prog 20 #[.slice va n vc] w fun e w' => e = .returned (.bool (namesB [] V)) ∧ Below w.heap.size w w' := by
  have HV := Lib.hid hV
  have HX := Lib.hid hx
  have HVL := Lib.hid hV.len
  have hvc := hV.cap
  have hvm := hV.most
  unfold maxLen at hvm
  clear hV hx
  go_enter Tryz.func20, Tryz.ntmps20
  go_wp2
  go_loopg [3] n (fun g i wr => ∃ k : Nat, i = .int .i64 k ∧ k + g = n ∧ Hid (NamesR V k) ∧ Hid (Below w.heap.size w wr))
  case atStart => exact ⟨0, rfl, by omega, Lib.hid (names_start V), Lib.hid (Below.refl _ _)⟩
  case round =>
    obtain ⟨W1, rfl⟩ : ∃ W1, W1 = wr := ⟨_, rfl⟩
    obtain ⟨k, rfl, hkg, HN, HBW⟩ := hrel
    by_cases hk : k < n
    · obtain ⟨gg, rfl⟩ : ∃ gg, gk = gg + 1 := ⟨gk - 1, by omega⟩
      have hkL : k < V.length := by rw [HVL.out]; exact hk
      obtain ⟨g, o, ha, hgw, hcells⟩ := HV.out.cells (by omega)
      subst ha
      have hgW : g < W1.heap.size := Nat.lt_of_lt_of_le hgw HBW.out.size
      have c0 := (HBW.out.cell (p := ⟨g, o + k, none⟩) hgw).trans (hcells k hkL)
      have HNX := Lib.hid (fun h1 h2 => names_next HN.out hkL h1 h2)
      have HST := Lib.hid (fun h1 => names_stop HN.out hkL h1)
      have HNM := Lib.hid (fun W => rIsName_calls (bs V[k]) W (HX.out _ (List.getElem_mem hkL)))
      have HIN := Lib.hid (fun nn => InA_calls (V.take k) V[k] (some ⟨g, o, none⟩) k vc (W1.drewN nn) ((HV.out.cut (Nat.le_of_lt hk)).on (drewN_below HBW.out nn)))
      simp only [bs_data] at HNM
      clear hcells
      generalize V[k] = y at c0 HNX HST HNM HIN
      have hb1 : nameL y = true ∨ nameL y = false := by cases nameL y <;> simp
      have hk0 : (0 : Int) ≤ (k : Int) := by omega
      have hkn : (k : Int) < (n : Int) := by omega
      rcases hb1 with hb1 | hb1
      · rw [hb1] at HNM
        by_cases hin : y ∈ V.take k
        · rw [decide_eq_true hin] at HIN
          have HE := Lib.hid (HST.out (fun c => c.2 hin))
          clear HNX HST hin hb1
          go_wp2
          go_quiet (first | (go_at_call 38; exact Calls.quiet_of_same (HNM.out _)) | (go_at_call 46; exact Calls.quiet_of_same (HIN.out _)))
          go_wp2
          go_ret
          exact ⟨by rw [HE.out]; rfl, drewN_below HBW.out _⟩
        · rw [decide_eq_false hin] at HIN
          have HN2 := Lib.hid (HNX.out hb1 hin)
          clear HNX HST hin hb1
          go_wp2
          go_quiet (first | (go_at_call 38; exact Calls.quiet_of_same (HNM.out _)) | (go_at_call 46; exact Calls.quiet_of_same (HIN.out _)))
          go_wp2
          go_roundg gg
          case measure => omega
          case rel => exact ⟨k + 1, by go_num, by omega, HN2, Lib.hid (drewN_below HBW.out _)⟩
      · rw [hb1] at HNM
        have HE := Lib.hid (HST.out (fun c => by rw [hb1] at c; exact absurd c.1 (by simp)))
        clear HNX HST hb1
        go_wp2
        go_quiet (first | (go_at_call 38; exact Calls.quiet_of_same (HNM.out _)) | (go_at_call 46; exact Calls.quiet_of_same (HIN.out _)))
        go_wp2
        go_ret
        exact ⟨by rw [HE.out]; rfl, drewN_below HBW.out _⟩
    · have HNA := Lib.hid (names_end HN.out (by rw [HVL.out]; omega))
      have k1 : ¬ (k : Int) < (n : Int) := by omega
      go_wp2
      go_ret
      exact ⟨by rw [HNA.out]; rfl, HBW.out⟩

end Go.Proofs.YtkfemnjblbnclaaGreatDoor
