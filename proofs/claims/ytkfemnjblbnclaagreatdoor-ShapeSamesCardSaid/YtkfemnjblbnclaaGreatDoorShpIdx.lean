/- Is there one of which a function says yes? (slices.IndexFunc, slices.ContainsFunc.) -/
import Derived.Test.YtkfemnjblbnclaaGreatDoorShpSlice
import Derived.Shelf.Abstract
import Derived.Deep.LoopGhost
namespace Go.Proofs.YtkfemnjblbnclaaGreatDoor
open Go.RowKit Go.Shelf

theorem anyN_next {α : Type} {p : α → Bool} {l : List α} {k : Nat} (h : (l.take k).any p = false) (hk : k < l.length) (h1 : p l[k] = false) : (l.take (k + 1)).any p = false := by
  rw [List.take_succ_eq_append_getElem hk, List.any_append, h]; simp [h1]
theorem anyN_hit {α : Type} {p : α → Bool} {l : List α} {k : Nat} (hk : k < l.length) (h1 : p l[k] = true) : l.any p = true := List.any_eq_true.2 ⟨_, List.getElem_mem hk, h1⟩
theorem anyN_end {α : Type} {p : α → Bool} {l : List α} {k : Nat} (h : (l.take k).any p = false) (hk : l.length ≤ k) : l.any p = false := by rwa [List.take_of_length_le hk] at h

set_option maxRecDepth 100000 in
set_option maxHeartbeats 4000000 in
theorem idxR_calls (L : List (List TermL)) (p : (List TermL) → Bool) (gf : Nat) (lb : Array Value) (eg : ∀ args w, (callFunc gf args).run Tryz.prog w = .ok (.enter gf args) w) (a : Option Addr) (n c : Nat) (w : World) (hv : RowA w a n c L)
    (hp : ∀ W (j : Nat) (h : j < L.length) (a' : Option Addr) (c' : Nat), Below w.heap.size w W → TrmA W a' L[j].length c' L[j] → Calls Tryz.prog gf (#[.slice a' L[j].length c'] ++ lb) W fun e w' => e = .returned (.bool (p L[j])) ∧ Below W.heap.size W w') :
    Calls Tryz.prog 91 #[.slice a n c, .func (.func gf) #[] lb] w fun e w' => ∃ r : Int, e = .returned (.int .i64 r) ∧ decide (0 ≤ r) = L.any p ∧ Below w.heap.size w w' := by
  have HV := Lib.hid hv
  have HP := Lib.hid hp
  have HL := Lib.hid hv.len
  have hcp := hv.cap
  have hms := hv.most
  unfold maxLen at hms
  clear hv hp
  go_enter Tryz.func91, Tryz.ntmps91
  go_wp2
  go_loopg [5, 8] n (fun g _ i wr => ∃ k : Nat, i = .int .i64 k ∧ k + g = n ∧ Hid ((L.take k).any p = false) ∧ Hid (Below w.heap.size w wr))
  case atStart => exact ⟨0, rfl, by omega, Lib.hid rfl, Lib.hid (Below.refl _ _)⟩
  case round =>
    obtain ⟨W1, rfl⟩ : ∃ W1, W1 = wr := ⟨_, rfl⟩
    obtain ⟨k, rfl, hkg, HR, HB⟩ := hrel
    by_cases hk : k < n
    · have hkL : k < L.length := by rw [HL.out]; exact hk
      obtain ⟨gg, rfl⟩ : ∃ gg, gk = gg + 1 := ⟨gk - 1, by omega⟩
      obtain ⟨g, o, ha, hgw, hcells⟩ := HV.out.cells (by omega)
      subst ha
      have hgW : g < W1.heap.size := Nat.lt_of_lt_of_le hgw HB.out.size
      obtain ⟨a', c', hcell, htrm⟩ := hcells k hkL
      have c0 := (HB.out.cell (p := ⟨g, o + k, none⟩) hgw).trans hcell
      have HC := Lib.hid (HP.out W1 k hkL a' c' HB.out (htrm.on HB.out))
      have HHIT := Lib.hid (fun h1 => anyN_hit (p := p) hkL h1)
      have HNX := Lib.hid (fun h1 => anyN_next (p := p) HR.out hkL h1)
      clear hcells
      clear hcell htrm
      generalize L[k] = y at c0 HC HHIT HNX
      have k0 : (0 : Int) ≤ (k : Int) := by omega
      have k1 : (k : Int) < (n : Int) := by omega
      cases hq : p y with
      | true =>
        rw [hq] at HC HNX HHIT
        have HE := Lib.hid (HHIT.out rfl)
        clear HNX HHIT hq
        go_wp2_with (go_at_fn gf; refine HC.out.mono ?_; rintro e w2 ⟨rfl, hb2⟩; have HB2 := Lib.hid (HB.out.trans (hb2.mono HB.out.size)); clear hb2)
        go_ret
        exact ⟨k, rfl, by rw [HE.out]; exact decide_eq_true k0, HB2.out⟩
      | false =>
        rw [hq] at HC HNX HHIT
        have HN2 := Lib.hid (HNX.out rfl)
        clear HNX HHIT hq
        go_wp2_with (go_at_fn gf; refine HC.out.mono ?_; rintro e w2 ⟨rfl, hb2⟩; have HB2 := Lib.hid (HB.out.trans (hb2.mono HB.out.size)); clear hb2)
        go_roundg gg
        case measure => omega
        case rel => exact ⟨k + 1, by go_num, by omega, HN2, HB2⟩
    · have HE := Lib.hid (anyN_end HR.out (by rw [HL.out]; omega))
      have k1 : ¬ (k : Int) < (n : Int) := by omega
      go_wp2
      go_ret
      exact ⟨-1, rfl, by rw [HE.out]; rfl, HB.out⟩
theorem hasR_calls (L : List (List TermL)) (p : (List TermL) → Bool) (gf : Nat) (lb : Array Value) (eg : ∀ args w, (callFunc gf args).run Tryz.prog w = .ok (.enter gf args) w) (a : Option Addr) (n c : Nat) (w : World) (hv : RowA w a n c L)
    (hp : ∀ W (j : Nat) (h : j < L.length) (a' : Option Addr) (c' : Nat), Below w.heap.size w W → TrmA W a' L[j].length c' L[j] → Calls Tryz.prog gf (#[.slice a' L[j].length c'] ++ lb) W fun e w' => e = .returned (.bool (p L[j])) ∧ Below W.heap.size W w') :
    Calls Tryz.prog 70 #[.slice a n c, .func (.func gf) #[] lb] w fun e w' => e = .returned (.bool (L.any p)) ∧ Below w.heap.size w w' := by
  have HC := Lib.hid (idxR_calls L p gf lb eg a n c w hv hp)
  clear hv hp
  go_enter Tryz.func70, Tryz.ntmps70
  go_wp2_with (go_at_call 91; refine HC.out.mono ?_; rintro e w2 ⟨r, rfl, hr, hb2⟩; have HR := Lib.hid hr; clear hr)
  go_ret
  exact ⟨by rw [← HR.out]; rfl, hb2⟩

set_option maxRecDepth 100000 in
set_option maxHeartbeats 4000000 in
theorem idxT_calls (L : List TermL) (p : TermL → Bool) (gf : Nat) (lb : Array Value) (eg : ∀ args w, (callFunc gf args).run Tryz.prog w = .ok (.enter gf args) w) (a : Option Addr) (n c : Nat) (w : World) (hv : TrmA w a n c L)
    (hp : ∀ W (j : Nat) (h : j < L.length), Below w.heap.size w W → Calls Tryz.prog gf (#[L[j].v] ++ lb) W fun e w' => e = .returned (.bool (p L[j])) ∧ Below W.heap.size W w') :
    Calls Tryz.prog 116 #[.slice a n c, .func (.func gf) #[] lb] w fun e w' => ∃ r : Int, e = .returned (.int .i64 r) ∧ decide (0 ≤ r) = L.any p ∧ Below w.heap.size w w' := by
  have HV := Lib.hid hv
  have HP := Lib.hid hp
  have HL := Lib.hid hv.len
  have hcp := hv.cap
  have hms := hv.most
  unfold maxLen at hms
  clear hv hp
  go_enter Tryz.func116, Tryz.ntmps116
  go_wp2
  go_loopg [5, 8] n (fun g _ i wr => ∃ k : Nat, i = .int .i64 k ∧ k + g = n ∧ Hid ((L.take k).any p = false) ∧ Hid (Below w.heap.size w wr))
  case atStart => exact ⟨0, rfl, by omega, Lib.hid rfl, Lib.hid (Below.refl _ _)⟩
  case round =>
    obtain ⟨W1, rfl⟩ : ∃ W1, W1 = wr := ⟨_, rfl⟩
    obtain ⟨k, rfl, hkg, HR, HB⟩ := hrel
    by_cases hk : k < n
    · have hkL : k < L.length := by rw [HL.out]; exact hk
      obtain ⟨gg, rfl⟩ : ∃ gg, gk = gg + 1 := ⟨gk - 1, by omega⟩
      obtain ⟨g, o, ha, hgw, hcells⟩ := HV.out.cells (by omega)
      subst ha
      have hgW : g < W1.heap.size := Nat.lt_of_lt_of_le hgw HB.out.size
      obtain ⟨c0, c1, c2, c3⟩ := (hcells k hkL).on HB.out hgw
      have HC := Lib.hid (HP.out W1 k hkL HB.out)
      have HHIT := Lib.hid (fun h1 => anyN_hit (p := p) hkL h1)
      have HNX := Lib.hid (fun h1 => anyN_next (p := p) HR.out hkL h1)
      clear hcells
      generalize L[k] = y at c0 c1 c2 c3 HC HHIT HNX
      simp only [TermL.v] at HC
      have k0 : (0 : Int) ≤ (k : Int) := by omega
      have k1 : (k : Int) < (n : Int) := by omega
      cases hq : p y with
      | true =>
        rw [hq] at HC HNX HHIT
        have HE := Lib.hid (HHIT.out rfl)
        clear HNX HHIT hq
        go_wp2_with (go_at_fn gf; refine HC.out.mono ?_; rintro e w2 ⟨rfl, hb2⟩; have HB2 := Lib.hid (HB.out.trans (hb2.mono HB.out.size)); clear hb2)
        go_ret
        exact ⟨k, rfl, by rw [HE.out]; exact decide_eq_true k0, HB2.out⟩
      | false =>
        rw [hq] at HC HNX HHIT
        have HN2 := Lib.hid (HNX.out rfl)
        clear HNX HHIT hq
        go_wp2_with (go_at_fn gf; refine HC.out.mono ?_; rintro e w2 ⟨rfl, hb2⟩; have HB2 := Lib.hid (HB.out.trans (hb2.mono HB.out.size)); clear hb2)
        go_roundg gg
        case measure => omega
        case rel => exact ⟨k + 1, by go_num, by omega, HN2, HB2⟩
    · have HE := Lib.hid (anyN_end HR.out (by rw [HL.out]; omega))
      have k1 : ¬ (k : Int) < (n : Int) := by omega
      go_wp2
      go_ret
      exact ⟨-1, rfl, by rw [HE.out]; rfl, HB.out⟩
theorem hasT_calls (L : List TermL) (p : TermL → Bool) (gf : Nat) (lb : Array Value) (eg : ∀ args w, (callFunc gf args).run Tryz.prog w = .ok (.enter gf args) w) (a : Option Addr) (n c : Nat) (w : World) (hv : TrmA w a n c L)
    (hp : ∀ W (j : Nat) (h : j < L.length), Below w.heap.size w W → Calls Tryz.prog gf (#[L[j].v] ++ lb) W fun e w' => e = .returned (.bool (p L[j])) ∧ Below W.heap.size W w') :
    Calls Tryz.prog 92 #[.slice a n c, .func (.func gf) #[] lb] w fun e w' => e = .returned (.bool (L.any p)) ∧ Below w.heap.size w w' := by
  have HC := Lib.hid (idxT_calls L p gf lb eg a n c w hv hp)
  clear hv hp
  go_enter Tryz.func92, Tryz.ntmps92
  go_wp2_with (go_at_call 116; refine HC.out.mono ?_; rintro e w2 ⟨r, rfl, hr, hb2⟩; have HR := Lib.hid hr; clear hr)
  go_ret
  exact ⟨by rw [← HR.out]; rfl, hb2⟩

set_option maxRecDepth 100000 in
set_option maxHeartbeats 4000000 in
theorem idxS_calls (L : List (List UInt8)) (p : List UInt8 → Bool) (gf : Nat) (lb : Array Value) (eg : ∀ args w, (callFunc gf args).run Tryz.prog w = .ok (.enter gf args) w) (a : Option Addr) (n c : Nat) (w : World) (hv : TxtA w a n c L)
    (hp : ∀ W (j : Nat) (h : j < L.length), Below w.heap.size w W → Calls Tryz.prog gf (#[.string (bs L[j])] ++ lb) W fun e w' => e = .returned (.bool (p L[j])) ∧ Below W.heap.size W w') :
    Calls Tryz.prog 114 #[.slice a n c, .func (.func gf) #[] lb] w fun e w' => ∃ r : Int, e = .returned (.int .i64 r) ∧ decide (0 ≤ r) = L.any p ∧ Below w.heap.size w w' := by
  have HV := Lib.hid hv
  have HP := Lib.hid hp
  have HL := Lib.hid hv.len
  have hcp := hv.cap
  have hms := hv.most
  unfold maxLen at hms
  clear hv hp
  go_enter Tryz.func114, Tryz.ntmps114
  go_wp2
  go_loopg [5, 8] n (fun g _ i wr => ∃ k : Nat, i = .int .i64 k ∧ k + g = n ∧ Hid ((L.take k).any p = false) ∧ Hid (Below w.heap.size w wr))
  case atStart => exact ⟨0, rfl, by omega, Lib.hid rfl, Lib.hid (Below.refl _ _)⟩
  case round =>
    obtain ⟨W1, rfl⟩ : ∃ W1, W1 = wr := ⟨_, rfl⟩
    obtain ⟨k, rfl, hkg, HR, HB⟩ := hrel
    by_cases hk : k < n
    · have hkL : k < L.length := by rw [HL.out]; exact hk
      obtain ⟨gg, rfl⟩ : ∃ gg, gk = gg + 1 := ⟨gk - 1, by omega⟩
      obtain ⟨g, o, ha, hgw, hcells⟩ := HV.out.cells (by omega)
      subst ha
      have hgW : g < W1.heap.size := Nat.lt_of_lt_of_le hgw HB.out.size
      have c0 := (HB.out.cell (p := ⟨g, o + k, none⟩) hgw).trans (hcells k hkL)
      have HC := Lib.hid (HP.out W1 k hkL HB.out)
      have HHIT := Lib.hid (fun h1 => anyN_hit (p := p) hkL h1)
      have HNX := Lib.hid (fun h1 => anyN_next (p := p) HR.out hkL h1)
      clear hcells
      generalize L[k] = y at c0 HC HHIT HNX
      have k0 : (0 : Int) ≤ (k : Int) := by omega
      have k1 : (k : Int) < (n : Int) := by omega
      cases hq : p y with
      | true =>
        rw [hq] at HC HNX HHIT
        have HE := Lib.hid (HHIT.out rfl)
        clear HNX HHIT hq
        go_wp2_with (go_at_fn gf; refine HC.out.mono ?_; rintro e w2 ⟨rfl, hb2⟩; have HB2 := Lib.hid (HB.out.trans (hb2.mono HB.out.size)); clear hb2)
        go_ret
        exact ⟨k, rfl, by rw [HE.out]; exact decide_eq_true k0, HB2.out⟩
      | false =>
        rw [hq] at HC HNX HHIT
        have HN2 := Lib.hid (HNX.out rfl)
        clear HNX HHIT hq
        go_wp2_with (go_at_fn gf; refine HC.out.mono ?_; rintro e w2 ⟨rfl, hb2⟩; have HB2 := Lib.hid (HB.out.trans (hb2.mono HB.out.size)); clear hb2)
        go_roundg gg
        case measure => omega
        case rel => exact ⟨k + 1, by go_num, by omega, HN2, HB2⟩
    · have HE := Lib.hid (anyN_end HR.out (by rw [HL.out]; omega))
      have k1 : ¬ (k : Int) < (n : Int) := by omega
      go_wp2
      go_ret
      exact ⟨-1, rfl, by rw [HE.out]; rfl, HB.out⟩
theorem hasS_calls (L : List (List UInt8)) (p : List UInt8 → Bool) (gf : Nat) (lb : Array Value) (eg : ∀ args w, (callFunc gf args).run Tryz.prog w = .ok (.enter gf args) w) (a : Option Addr) (n c : Nat) (w : World) (hv : TxtA w a n c L)
    (hp : ∀ W (j : Nat) (h : j < L.length), Below w.heap.size w W → Calls Tryz.prog gf (#[.string (bs L[j])] ++ lb) W fun e w' => e = .returned (.bool (p L[j])) ∧ Below W.heap.size W w') :
    Calls Tryz.prog 88 #[.slice a n c, .func (.func gf) #[] lb] w fun e w' => e = .returned (.bool (L.any p)) ∧ Below w.heap.size w w' := by
  have HC := Lib.hid (idxS_calls L p gf lb eg a n c w hv hp)
  clear hv hp
  go_enter Tryz.func88, Tryz.ntmps88
  go_wp2_with (go_at_call 114; refine HC.out.mono ?_; rintro e w2 ⟨r, rfl, hr, hb2⟩; have HR := Lib.hid hr; clear hr)
  go_ret
  exact ⟨by rw [← HR.out]; rfl, hb2⟩

end Go.Proofs.YtkfemnjblbnclaaGreatDoor
