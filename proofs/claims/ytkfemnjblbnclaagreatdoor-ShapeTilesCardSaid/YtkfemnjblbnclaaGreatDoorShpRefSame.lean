/- The document's In, SameTexts, SameRow, for slices wherever they begin (written by gen/mkrefsame12.py). -/
import Derived.Test.YtkfemnjblbnclaaGreatDoorShpEq
import Derived.Test.YtkfemnjblbnclaaGreatDoorShpCheck
import Derived.Test.YtkfemnjblbnclaaGreatDoorGVCmp
namespace Go.Proofs.YtkfemnjblbnclaaGreatDoor
open Go.RowKit

theorem drew_below {B : Nat} {a w : World} (h : Below B a w) (n : Nat) : Below B a (w.drewN n) := ⟨h.os, h.tape, h.output, h.size, h.block⟩
set_option maxRecDepth 100000 in
theorem neq_terms (a b : TermL) (w : World) : (binOp .neq 23 a.v b.v).run Tryz.prog w = .ok (.bool (!decide (a = b))) w := by
  have h := eq_term 9998 a b w
  unfold TermL.v at h ⊢
  rw [run_neq_struct, h, teq_is]; rfl
set_option maxRecDepth 100000 in
set_option maxHeartbeats 2000000 in
theorem InA_calls (L : List (List UInt8)) (x : List UInt8) (a : Option Addr) (n c : Nat) (w : World) (h : TxtA w a n c L) :
    Calls Tryz.prog 46 #[.slice a n c, .string (bs x)] w fun e w' => e = .returned (.bool (decide (x ∈ L))) ∧ w' = w := by
  have hn := h.len
  have hc := h.cap
  have hm := h.most
  have HX := Lib.hid h.cells
  have HN := Lib.hid hn
  clear h hn
  unfold maxLen at hm
  go_enter Tryz.func46, Tryz.ntmps46
  go_wp2
  go_loop [5] (fun i => ∃ k : Nat, k ≤ n ∧ i = .int .i64 k ∧ Hid (¬ x ∈ L.take k)) (fun i => n - (intOf i).toNat)
  case atStart => exact ⟨0, Nat.zero_le _, rfl, by show ¬ _; simp⟩
  case round =>
    obtain ⟨k, hk, rfl, hno⟩ := hrel
    by_cases hlt : k < n
    · have hlt' : k < L.length := by rw [HN.out]; exact hlt
      obtain ⟨g, o, ha, hgw, hcells⟩ := HX.out (by omega)
      subst ha
      have hc := hcells k hlt'
      clear hcells
      have hts : x ∈ L.take (k + 1) ↔ x ∈ L.take k ∨ x = L[k] := by rw [List.take_succ_eq_append_getElem hlt', List.mem_append, List.mem_singleton]
      obtain ⟨y, hy⟩ : ∃ y, L[k] = y := ⟨_, rfl⟩
      rw [hy] at hc hts
      by_cases he : x = y
      · have HIN := Lib.hid (show decide (x ∈ L) = true from decide_eq_true (by rw [he, ← hy]; exact List.getElem_mem hlt'))
        have heq : (bs y).toList = (bs x).toList := by rw [he]
        clear hts hy he
        go_wp2
        go_ret
        exact ⟨ret_bool HIN.out.symm, rfl⟩
      · have HNX := Lib.hid (show ¬ x ∈ L.take (k + 1) from fun c => (hts.1 c).elim hno.out he)
        have hne : ((bs y).toList == (bs x).toList) = false := by rw [bs_toList, bs_toList]; exact beq_eq_false_iff_ne.2 (fun c => he c.symm)
        clear hts hy he
        go_wp2
        exact ⟨⟨k + 1, by omega, by go_num, HNX⟩, by simp [intOf]; omega⟩
    · have HIN := Lib.hid (show decide (x ∈ L) = false from decide_eq_false (by have := hno.out; rwa [List.take_of_length_le (by rw [HN.out]; omega)] at this))
      go_wp2
      go_ret
      exact ⟨ret_bool HIN.out.symm, rfl⟩

def SameR {α : Type} (L M : List α) (k : Nat) : Prop := L.take k = M.take k
theorem sameR_next {α : Type} {L M : List α} {k : Nat} (h : SameR L M k) (hl : k < L.length) (hm : k < M.length) (he : L[k] = M[k]) : SameR L M (k + 1) := by
  unfold SameR at *
  rw [List.take_succ_eq_append_getElem hl, List.take_succ_eq_append_getElem hm, h, he]
theorem sameR_end {α : Type} {L M : List α} {k : Nat} (h : SameR L M k) (hl : L.length ≤ k) (hm : M.length ≤ k) : L = M := by
  unfold SameR at h
  rwa [List.take_of_length_le hl, List.take_of_length_le hm] at h

set_option maxRecDepth 100000 in
set_option maxHeartbeats 4000000 in
theorem sameA_calls (L M : List (List UInt8)) (a b : Option Addr) (n m c d : Nat) (w : World) (h : TxtA w a n c L) (k : TxtA w b m d M) :
    Calls Tryz.prog 54 #[.slice a n c, .slice b m d] w fun e w' => e = .returned (.bool (decide (L = M))) ∧ Below w.heap.size w w' := by
  have HL := Lib.hid h.len
  have HM := Lib.hid k.len
  have HX := Lib.hid h.cells
  have HY := Lib.hid k.cells
  have c1 := h.cap
  have c2 := h.most
  have c3 := k.cap
  have c4 := k.most
  unfold maxLen at c2 c4
  clear h k
  by_cases hnm : n = m
  · subst hnm
    go_enter Tryz.func54, Tryz.ntmps54
    go_wp2
    go_loopg [5] n (fun g i wr => ∃ k : Nat, i = .int .i64 k ∧ k + g = n ∧ Hid (SameR L M k) ∧ Hid (Below w.heap.size w wr))
    case atStart => exact ⟨0, rfl, by omega, Lib.hid rfl, Lib.hid (Below.refl _ _)⟩
    case round =>
      obtain ⟨W1, rfl⟩ : ∃ W1, W1 = wr := ⟨_, rfl⟩
      obtain ⟨k, rfl, hkg, HR, HB⟩ := hrel
      by_cases hk : k < n
      · obtain ⟨gg, rfl⟩ : ∃ gg, gk = gg + 1 := ⟨gk - 1, by omega⟩
        have hkL : k < L.length := by rw [HL.out]; exact hk
        have hkM : k < M.length := by rw [HM.out]; exact hk
        obtain ⟨g, o, ha, hgw, hcells⟩ := HX.out (by omega)
        obtain ⟨g', o', ha', hgw', hcells'⟩ := HY.out (by omega)
        subst ha ha'
        have e0 := (HB.out.cell (p := ⟨g, o + k, none⟩) hgw).trans (hcells k hkL)
        have e1 := (HB.out.cell (p := ⟨g', o' + k, none⟩) hgw').trans (hcells' k hkM)
        have HNX := Lib.hid (fun h => sameR_next HR.out hkL hkM h)
        have HNE := Lib.hid (show L[k] ≠ M[k] → decide (L = M) = false from fun h => decide_eq_false (fun e => h (by subst e; rfl)))
        have k0 : (0 : Int) ≤ (k : Int) := by omega
        have k1 : (k : Int) < (n : Int) := by omega
        clear hcells hcells'
        generalize L[k] = x at e0 HNX HNE
        generalize M[k] = y at e1 HNX HNE
        by_cases he : x = y
        · have HN2 := Lib.hid (HNX.out he)
          have hne : ((bs x).toList != (bs y).toList) = false := by rw [he]; exact bne_self_eq_false _
          have heq : ((bs x).toList == (bs y).toList) = true := by rw [he]; exact beq_self_eq_true _
          subst he
          clear HNX HNE
          go_wp2
          all_goals (try go_quiet (fail))
          all_goals (try go_wp2)
          go_roundg gg
          case measure => omega
          case rel => exact ⟨k + 1, by go_num, by omega, HN2, by first | exact HB | exact Lib.hid (drew_below HB.out _)⟩
        · have HE := Lib.hid (HNE.out he)
          have hne : ((bs x).toList != (bs y).toList) = true := by rw [bs_toList, bs_toList]; exact bne_iff_ne.2 he
          have heq : ((bs x).toList == (bs y).toList) = false := by rw [bs_toList, bs_toList]; exact beq_eq_false_iff_ne.2 he
          clear HNX HNE he
          go_wp2
          all_goals (try go_quiet (fail))
          all_goals (try go_wp2)
          go_ret
          exact ⟨by rw [HE.out]; rfl, by first | exact HB.out | exact drew_below HB.out _⟩
      · have HE := Lib.hid (show decide (L = M) = true from decide_eq_true (sameR_end HR.out (by rw [HL.out]; omega) (by rw [HM.out]; omega)))
        have k1 : ¬ (k : Int) < (n : Int) := by omega
        go_wp2
        go_ret
        exact ⟨by rw [HE.out]; rfl, HB.out⟩
  · have HE := Lib.hid (show decide (L = M) = false from decide_eq_false (fun e => hnm (by rw [← HL.out, ← HM.out, e])))
    have hne : ((n : Int) != (m : Int)) = true := bne_iff_ne.2 (by omega)
    have hne2 : ((n : Int) == (m : Int)) = false := beq_eq_false_iff_ne.2 (by omega)
    go_enter Tryz.func54, Tryz.ntmps54
    go_wp2
    go_ret
    exact ⟨by rw [HE.out]; rfl, Below.refl _ _⟩

set_option maxRecDepth 100000 in
set_option maxHeartbeats 4000000 in
theorem rowSame_calls (L M : List TermL) (a b : Option Addr) (n m c d : Nat) (w : World) (h : TrmA w a n c L) (k : TrmA w b m d M) :
    Calls Tryz.prog 55 #[.slice a n c, .slice b m d] w fun e w' => e = .returned (.bool (decide (L = M))) ∧ Below w.heap.size w w' := by
  have HL := Lib.hid h.len
  have HM := Lib.hid k.len
  have HX := Lib.hid h.cells
  have HY := Lib.hid k.cells
  have c1 := h.cap
  have c2 := h.most
  have c3 := k.cap
  have c4 := k.most
  unfold maxLen at c2 c4
  clear h k
  by_cases hnm : n = m
  · subst hnm
    go_enter Tryz.func55, Tryz.ntmps55
    go_wp2
    go_loopg [5] n (fun g i wr => ∃ k : Nat, i = .int .i64 k ∧ k + g = n ∧ Hid (SameR L M k) ∧ Hid (Below w.heap.size w wr))
    case atStart => exact ⟨0, rfl, by omega, Lib.hid rfl, Lib.hid (Below.refl _ _)⟩
    case round =>
      obtain ⟨W1, rfl⟩ : ∃ W1, W1 = wr := ⟨_, rfl⟩
      obtain ⟨k, rfl, hkg, HR, HB⟩ := hrel
      by_cases hk : k < n
      · obtain ⟨gg, rfl⟩ : ∃ gg, gk = gg + 1 := ⟨gk - 1, by omega⟩
        have hkL : k < L.length := by rw [HL.out]; exact hk
        have hkM : k < M.length := by rw [HM.out]; exact hk
        obtain ⟨g, o, ha, hgw, hcells⟩ := HX.out (by omega)
        obtain ⟨g', o', ha', hgw', hcells'⟩ := HY.out (by omega)
        subst ha ha'
        obtain ⟨c0, c1, c2, c3⟩ := (hcells k hkL).on HB.out hgw
        obtain ⟨d0, d1, d2, d3⟩ := (hcells' k hkM).on HB.out hgw'
        have HNX := Lib.hid (fun h => sameR_next HR.out hkL hkM h)
        have HNE := Lib.hid (show L[k] ≠ M[k] → decide (L = M) = false from fun h => decide_eq_false (fun e => h (by subst e; rfl)))
        have k0 : (0 : Int) ≤ (k : Int) := by omega
        have k1 : (k : Int) < (n : Int) := by omega
        clear hcells hcells'
        generalize L[k] = x at c0 c1 c2 c3 HNX HNE
        generalize M[k] = y at d0 d1 d2 d3 HNX HNE
        by_cases he : x = y
        · have HN2 := Lib.hid (HNX.out he)
          have HNQ := fun W => neq_terms x y W
          rw [decide_eq_true he] at HNQ
          unfold TermL.v at HNQ
          clear HNX HNE
          go_wp2
          all_goals (try go_quiet (fail))
          all_goals (try go_wp2)
          go_roundg gg
          case measure => omega
          case rel => exact ⟨k + 1, by go_num, by omega, HN2, by first | exact HB | exact Lib.hid (drew_below HB.out _)⟩
        · have HE := Lib.hid (HNE.out he)
          have HNQ := fun W => neq_terms x y W
          rw [decide_eq_false he] at HNQ
          unfold TermL.v at HNQ
          clear HNX HNE he
          go_wp2
          all_goals (try go_quiet (fail))
          all_goals (try go_wp2)
          go_ret
          exact ⟨by rw [HE.out]; rfl, by first | exact HB.out | exact drew_below HB.out _⟩
      · have HE := Lib.hid (show decide (L = M) = true from decide_eq_true (sameR_end HR.out (by rw [HL.out]; omega) (by rw [HM.out]; omega)))
        have k1 : ¬ (k : Int) < (n : Int) := by omega
        go_wp2
        go_ret
        exact ⟨by rw [HE.out]; rfl, HB.out⟩
  · have HE := Lib.hid (show decide (L = M) = false from decide_eq_false (fun e => hnm (by rw [← HL.out, ← HM.out, e])))
    have hne : ((n : Int) != (m : Int)) = true := bne_iff_ne.2 (by omega)
    have hne2 : ((n : Int) == (m : Int)) = false := beq_eq_false_iff_ne.2 (by omega)
    go_enter Tryz.func55, Tryz.ntmps55
    go_wp2
    go_ret
    exact ⟨by rw [HE.out]; rfl, Below.refl _ _⟩

end Go.Proofs.YtkfemnjblbnclaaGreatDoor
