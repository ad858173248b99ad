/- ShpEq, ShpRefSame, ShpRefTab, ShpLawSame, put together. -/
import Derived.Test.YtkfemnjblbnclaaGreatDoorShpLaws
import Derived.Test.YtkfemnjblbnclaaGreatDoorTermCompare
import Derived.Test.YtkfemnjblbnclaaGreatDoorShpCheck
import Derived.Test.YtkfemnjblbnclaaGreatDoorGVCmp
import Derived.Lib.QuietBelow

/- Two terms held against each other as they are. -/
namespace Go.Proofs.YtkfemnjblbnclaaGreatDoor
open Go.RowKit

def teq (a b : TermL) : Bool := (a.k == b.k) && ((bs a.x).toList == (bs b.x).toList && ((bs a.y).toList == (bs b.y).toList && (bs a.z).toList == (bs b.z).toList))

set_option maxRecDepth 100000 in
theorem fields_term : (Tryz.prog.fieldsOf 23).toList = [{ name := "Kind", type := 3, offset := 0, embedded := false, tag := "", pkgPath := "", byteOffset := 0 }, { name := "Text", type := 9, offset := 1, embedded := false, tag := "", pkgPath := "", byteOffset := 8 }, { name := "Type", type := 9, offset := 2, embedded := false, tag := "", pkgPath := "", byteOffset := 24 }, { name := "Lang", type := 9, offset := 3, embedded := false, tag := "", pkgPath := "", byteOffset := 40 }] := by kernel_rfl

set_option maxRecDepth 100000 in
theorem run_part_int (cs : Array Value) (off : Nat) (v : Value) (w : World) (h : cs[off]? = some v) : (part 3 cs off).run Tryz.prog w = .ok v w := by
  simp [part, h, Tryz.isAgg3, go_sem]
set_option maxRecDepth 100000 in
theorem run_part_string (cs : Array Value) (off : Nat) (v : Value) (w : World) (h : cs[off]? = some v) : (part 9 cs off).run Tryz.prog w = .ok v w := by
  simp [part, h, Tryz.isAgg9, go_sem]

set_option maxRecDepth 100000 in
theorem eq_term (d : Nat) (a b : TermL) (w : World) : (Op.equalIn (d + 2) 23 a.v b.v).run Tryz.prog w = .ok (teq a b) w := by
  unfold TermL.v
  rw [run_equalIn_agg w (d + 1) 23 _ _ Tryz.underlying23 (by kernel_rfl), fields_term]
  have e1 : (Op.equalIn (d + 1) 3 (.int .i64 a.k) (.int .i64 b.k)).run Tryz.prog w = .ok (a.k == b.k) w := run_equalIn_int w d 3 .i64 .i64 _ _ Tryz.underlying3
  have e2 : ∀ s t : ByteArray, (Op.equalIn (d + 1) 9 (.string s) (.string t)).run Tryz.prog w = .ok (s.toList == t.toList) w := fun s t => run_equalIn_string w d 9 s t Tryz.underlying9
  unfold teq
  simp [Op.eqFields, go_sem]
  repeat' split
  all_goals simp_all

set_option maxRecDepth 100000 in
theorem teq_true {a b : TermL} (h : teq a b = true) : a = b := by
  obtain ⟨k, x, y, z⟩ := a
  obtain ⟨k', x', y', z'⟩ := b
  unfold teq at h
  simp only [bs_toList, Bool.and_eq_true, beq_iff_eq] at h
  obtain ⟨rfl, rfl, rfl, rfl⟩ := h
  rfl
theorem teq_self (a : TermL) : teq a a = true := by
  unfold teq
  simp
theorem teq_is (a b : TermL) : teq a b = decide (a = b) := by
  by_cases h : a = b
  · subst h; rw [teq_self, decide_eq_true rfl]
  · rw [decide_eq_false h]
    cases hq : teq a b with
    | false => rfl
    | true => exact absurd (teq_true hq) h
set_option maxRecDepth 100000 in
theorem eq_terms (a b : TermL) (w : World) : (binOp .eql 23 a.v b.v).run Tryz.prog w = .ok (.bool (decide (a = b))) w := by
  have h := eq_term 9998 a b w
  unfold TermL.v at h ⊢
  rw [run_eql_struct, h, teq_is]; rfl

end Go.Proofs.YtkfemnjblbnclaaGreatDoor

/- The document's In, SameTexts, SameRow, for slices wherever they begin (written by gen/mkrefsame12.py). -/
namespace Go.Proofs.YtkfemnjblbnclaaGreatDoor
open Go.RowKit

theorem drew_below {B : Nat} {a w : World} (h : Below B a w) (n : Nat) : Below B a (w.drewN n) := ⟨h.os, h.tape, h.output, h.size, h.block⟩
set_option maxRecDepth 100000 in
theorem neq_terms (a b : TermL) (w : World) : (binOp .neq 23 a.v b.v).run Tryz.prog w = .ok (.bool (!decide (a = b))) w := by
  have h := eq_term 9998 a b w
  unfold TermL.v at h ⊢
  rw [run_neq_struct, h, teq_is]; rfl
set_option maxRecDepth 100000 in
set_option maxHeartbeats 2000000 in
theorem InA_calls (L : List (List UInt8)) (x : List UInt8) (a : Option Addr) (n c : Nat) (w : World) (h : TxtA w a n c L) :
    Calls Tryz.prog 46 #[.slice a n c, .string (bs x)] w fun e w' => e = .returned (.bool (decide (x ∈ L))) ∧ w' = w := by
  have hn := h.len
  have hc := h.cap
  have hm := h.most
  have HX := Lib.hid h.cells
  have HN := Lib.hid hn
  clear h hn
  unfold maxLen at hm
  go_enter Tryz.func46, Tryz.ntmps46
  go_wp2
  go_loop [5] (fun i => ∃ k : Nat, k ≤ n ∧ i = .int .i64 k ∧ Hid (¬ x ∈ L.take k)) (fun i => n - (intOf i).toNat)
  case atStart => exact ⟨0, Nat.zero_le _, rfl, by show ¬ _; simp⟩
  case round =>
    obtain ⟨k, hk, rfl, hno⟩ := hrel
    by_cases hlt : k < n
    · have hlt' : k < L.length := by rw [HN.out]; exact hlt
      obtain ⟨g, o, ha, hgw, hcells⟩ := HX.out (by omega)
      subst ha
      have hc := hcells k hlt'
      clear hcells
      have hts : x ∈ L.take (k + 1) ↔ x ∈ L.take k ∨ x = L[k] := by rw [List.take_succ_eq_append_getElem hlt', List.mem_append, List.mem_singleton]
      obtain ⟨y, hy⟩ : ∃ y, L[k] = y := ⟨_, rfl⟩
      rw [hy] at hc hts
      by_cases he : x = y
      · have HIN := Lib.hid (show decide (x ∈ L) = true from decide_eq_true (by rw [he, ← hy]; exact List.getElem_mem hlt'))
        have heq : (bs y).toList = (bs x).toList := by rw [he]
        clear hts hy he
        go_wp2
        go_ret
        exact ⟨ret_bool HIN.out.symm, rfl⟩
      · have HNX := Lib.hid (show ¬ x ∈ L.take (k + 1) from fun c => (hts.1 c).elim hno.out he)
        have hne : ((bs y).toList == (bs x).toList) = false := by rw [bs_toList, bs_toList]; exact beq_eq_false_iff_ne.2 (fun c => he c.symm)
        clear hts hy he
        go_wp2
        exact ⟨⟨k + 1, by omega, by go_num, HNX⟩, by simp [intOf]; omega⟩
    · have HIN := Lib.hid (show decide (x ∈ L) = false from decide_eq_false (by have := hno.out; rwa [List.take_of_length_le (by rw [HN.out]; omega)] at this))
      go_wp2
      go_ret
      exact ⟨ret_bool HIN.out.symm, rfl⟩

def SameR {α : Type} (L M : List α) (k : Nat) : Prop := L.take k = M.take k
theorem sameR_next {α : Type} {L M : List α} {k : Nat} (h : SameR L M k) (hl : k < L.length) (hm : k < M.length) (he : L[k] = M[k]) : SameR L M (k + 1) := by
  unfold SameR at *
  rw [List.take_succ_eq_append_getElem hl, List.take_succ_eq_append_getElem hm, h, he]
theorem sameR_end {α : Type} {L M : List α} {k : Nat} (h : SameR L M k) (hl : L.length ≤ k) (hm : M.length ≤ k) : L = M := by
  unfold SameR at h
  rwa [List.take_of_length_le hl, List.take_of_length_le hm] at h

set_option maxRecDepth 100000 in
set_option maxHeartbeats 4000000 in
theorem sameA_calls (L M : List (List UInt8)) (a b : Option Addr) (n m c d : Nat) (w : World) (h : TxtA w a n c L) (k : TxtA w b m d M) :
    Calls Tryz.prog 54 #[.slice a n c, .slice b m d] w fun e w' => e = .returned (.bool (decide (L = M))) ∧ Below w.heap.size w w' := by
  have HL := Lib.hid h.len
  have HM := Lib.hid k.len
  have HX := Lib.hid h.cells
  have HY := Lib.hid k.cells
  have c1 := h.cap
  have c2 := h.most
  have c3 := k.cap
  have c4 := k.most
  unfold maxLen at c2 c4
  clear h k
  by_cases hnm : n = m
  · subst hnm
    go_enter Tryz.func54, Tryz.ntmps54
    go_wp2
    go_loopg [5] n (fun g i wr => ∃ k : Nat, i = .int .i64 k ∧ k + g = n ∧ Hid (SameR L M k) ∧ Hid (Below w.heap.size w wr))
    case atStart => exact ⟨0, rfl, by omega, Lib.hid rfl, Lib.hid (Below.refl _ _)⟩
    case round =>
      obtain ⟨W1, rfl⟩ : ∃ W1, W1 = wr := ⟨_, rfl⟩
      obtain ⟨k, rfl, hkg, HR, HB⟩ := hrel
      by_cases hk : k < n
      · obtain ⟨gg, rfl⟩ : ∃ gg, gk = gg + 1 := ⟨gk - 1, by omega⟩
        have hkL : k < L.length := by rw [HL.out]; exact hk
        have hkM : k < M.length := by rw [HM.out]; exact hk
        obtain ⟨g, o, ha, hgw, hcells⟩ := HX.out (by omega)
        obtain ⟨g', o', ha', hgw', hcells'⟩ := HY.out (by omega)
        subst ha ha'
        have e0 := (HB.out.cell (p := ⟨g, o + k, none⟩) hgw).trans (hcells k hkL)
        have e1 := (HB.out.cell (p := ⟨g', o' + k, none⟩) hgw').trans (hcells' k hkM)
        have HNX := Lib.hid (fun h => sameR_next HR.out hkL hkM h)
        have HNE := Lib.hid (show L[k] ≠ M[k] → decide (L = M) = false from fun h => decide_eq_false (fun e => h (by subst e; rfl)))
        have k0 : (0 : Int) ≤ (k : Int) := by omega
        have k1 : (k : Int) < (n : Int) := by omega
        clear hcells hcells'
        generalize L[k] = x at e0 HNX HNE
        generalize M[k] = y at e1 HNX HNE
        by_cases he : x = y
        · have HN2 := Lib.hid (HNX.out he)
          have hne : ((bs x).toList != (bs y).toList) = false := by rw [he]; exact bne_self_eq_false _
          have heq : ((bs x).toList == (bs y).toList) = true := by rw [he]; exact beq_self_eq_true _
          subst he
          clear HNX HNE
          go_wp2
          all_goals (try go_quiet (fail))
          all_goals (try go_wp2)
          go_roundg gg
          case measure => omega
          case rel => exact ⟨k + 1, by go_num, by omega, HN2, by first | exact HB | exact Lib.hid (drew_below HB.out _)⟩
        · have HE := Lib.hid (HNE.out he)
          have hne : ((bs x).toList != (bs y).toList) = true := by rw [bs_toList, bs_toList]; exact bne_iff_ne.2 he
          have heq : ((bs x).toList == (bs y).toList) = false := by rw [bs_toList, bs_toList]; exact beq_eq_false_iff_ne.2 he
          clear HNX HNE he
          go_wp2
          all_goals (try go_quiet (fail))
          all_goals (try go_wp2)
          go_ret
          exact ⟨by rw [HE.out]; rfl, by first | exact HB.out | exact drew_below HB.out _⟩
      · have HE := Lib.hid (show decide (L = M) = true from decide_eq_true (sameR_end HR.out (by rw [HL.out]; omega) (by rw [HM.out]; omega)))
        have k1 : ¬ (k : Int) < (n : Int) := by omega
        go_wp2
        go_ret
        exact ⟨by rw [HE.out]; rfl, HB.out⟩
  · have HE := Lib.hid (show decide (L = M) = false from decide_eq_false (fun e => hnm (by rw [← HL.out, ← HM.out, e])))
    have hne : ((n : Int) != (m : Int)) = true := bne_iff_ne.2 (by omega)
    have hne2 : ((n : Int) == (m : Int)) = false := beq_eq_false_iff_ne.2 (by omega)
    go_enter Tryz.func54, Tryz.ntmps54
    go_wp2
    go_ret
    exact ⟨by rw [HE.out]; rfl, Below.refl _ _⟩

set_option maxRecDepth 100000 in
set_option maxHeartbeats 4000000 in
theorem rowSame_calls (L M : List TermL) (a b : Option Addr) (n m c d : Nat) (w : World) (h : TrmA w a n c L) (k : TrmA w b m d M) :
    Calls Tryz.prog 55 #[.slice a n c, .slice b m d] w fun e w' => e = .returned (.bool (decide (L = M))) ∧ Below w.heap.size w w' := by
  have HL := Lib.hid h.len
  have HM := Lib.hid k.len
  have HX := Lib.hid h.cells
  have HY := Lib.hid k.cells
  have c1 := h.cap
  have c2 := h.most
  have c3 := k.cap
  have c4 := k.most
  unfold maxLen at c2 c4
  clear h k
  by_cases hnm : n = m
  · subst hnm
    go_enter Tryz.func55, Tryz.ntmps55
    go_wp2
    go_loopg [5] n (fun g i wr => ∃ k : Nat, i = .int .i64 k ∧ k + g = n ∧ Hid (SameR L M k) ∧ Hid (Below w.heap.size w wr))
    case atStart => exact ⟨0, rfl, by omega, Lib.hid rfl, Lib.hid (Below.refl _ _)⟩
    case round =>
      obtain ⟨W1, rfl⟩ : ∃ W1, W1 = wr := ⟨_, rfl⟩
      obtain ⟨k, rfl, hkg, HR, HB⟩ := hrel
      by_cases hk : k < n
      · obtain ⟨gg, rfl⟩ : ∃ gg, gk = gg + 1 := ⟨gk - 1, by omega⟩
        have hkL : k < L.length := by rw [HL.out]; exact hk
        have hkM : k < M.length := by rw [HM.out]; exact hk
        obtain ⟨g, o, ha, hgw, hcells⟩ := HX.out (by omega)
        obtain ⟨g', o', ha', hgw', hcells'⟩ := HY.out (by omega)
        subst ha ha'
        obtain ⟨c0, c1, c2, c3⟩ := (hcells k hkL).on HB.out hgw
        obtain ⟨d0, d1, d2, d3⟩ := (hcells' k hkM).on HB.out hgw'
        have HNX := Lib.hid (fun h => sameR_next HR.out hkL hkM h)
        have HNE := Lib.hid (show L[k] ≠ M[k] → decide (L = M) = false from fun h => decide_eq_false (fun e => h (by subst e; rfl)))
        have k0 : (0 : Int) ≤ (k : Int) := by omega
        have k1 : (k : Int) < (n : Int) := by omega
        clear hcells hcells'
        generalize L[k] = x at c0 c1 c2 c3 HNX HNE
        generalize M[k] = y at d0 d1 d2 d3 HNX HNE
        by_cases he : x = y
        · have HN2 := Lib.hid (HNX.out he)
          have HNQ := fun W => neq_terms x y W
          rw [decide_eq_true he] at HNQ
          unfold TermL.v at HNQ
          clear HNX HNE
          go_wp2
          all_goals (try go_quiet (fail))
          all_goals (try go_wp2)
          go_roundg gg
          case measure => omega
          case rel => exact ⟨k + 1, by go_num, by omega, HN2, by first | exact HB | exact Lib.hid (drew_below HB.out _)⟩
        · have HE := Lib.hid (HNE.out he)
          have HNQ := fun W => neq_terms x y W
          rw [decide_eq_false he] at HNQ
          unfold TermL.v at HNQ
          clear HNX HNE he
          go_wp2
          all_goals (try go_quiet (fail))
          all_goals (try go_wp2)
          go_ret
          exact ⟨by rw [HE.out]; rfl, by first | exact HB.out | exact drew_below HB.out _⟩
      · have HE := Lib.hid (show decide (L = M) = true from decide_eq_true (sameR_end HR.out (by rw [HL.out]; omega) (by rw [HM.out]; omega)))
        have k1 : ¬ (k : Int) < (n : Int) := by omega
        go_wp2
        go_ret
        exact ⟨by rw [HE.out]; rfl, HB.out⟩
  · have HE := Lib.hid (show decide (L = M) = false from decide_eq_false (fun e => hnm (by rw [← HL.out, ← HM.out, e])))
    have hne : ((n : Int) != (m : Int)) = true := bne_iff_ne.2 (by omega)
    have hne2 : ((n : Int) == (m : Int)) = false := beq_eq_false_iff_ne.2 (by omega)
    go_enter Tryz.func55, Tryz.ntmps55
    go_wp2
    go_ret
    exact ⟨by rw [HE.out]; rfl, Below.refl _ _⟩

end Go.Proofs.YtkfemnjblbnclaaGreatDoor

/- The document's SameTable, for any two tables; which tables are light; the statements' same. -/
namespace Go.Proofs.YtkfemnjblbnclaaGreatDoor
open Go.RowKit Go.Sort

theorem regrown_cell {W : World} {g o : Nat} {v : Value} (h : W.cell? ⟨g, o, none⟩ = some v) : ∀ d os, (grow (redrawn W d) os).cell? ⟨g, o, none⟩ = some v := fun d os => cell_regrown h d os
structure Tabs2 (w : World) (A : Nat) (v1 r1 v2 r2 : Value) (wr : World) : Prop where
  one : Blk wr A 31 #[v1, r1]
  two : Blk wr (A + 1) 31 #[v2, r2]
  below : Below w.heap.size w wr
theorem Tabs2.on {w wr wr' : World} {A : Nat} {v1 r1 v2 r2 : Value} (h : Tabs2 w A v1 r1 v2 r2 wr) (hb : Below wr.heap.size wr wr') : Tabs2 w A v1 r1 v2 r2 wr' := ⟨blk_on h.one hb (blk_lt h.one), blk_on h.two hb (blk_lt h.two), fb2 h.below hb (Nat.le_refl _)⟩
theorem tabs2_new (w : World) (v1 r1 v2 r2 : Value) : Tabs2 w w.heap.size v1 r1 v2 r2 ((w.alloc (.cells #[v1, r1] 31)).alloc (.cells #[v2, r2] 31)) := by
  refine ⟨blk_alloc (blk_new _ _ _) _, ?_, two_alloc _ _ _⟩
  have := blk_new (w.alloc (.cells #[v1, r1] 31)) 31 #[v2, r2]
  rw [World.size_alloc] at this
  exact this

set_option maxRecDepth 100000 in
set_option maxHeartbeats 4000000 in
theorem tabSame_calls (V U : List (List UInt8)) (R S : List RowL) (t1 t2 : Value) (w : World) (h1 : TabA w t1 V R) (h2 : TabA w t2 U S) :
    Calls Tryz.prog 24 #[t1, t2] w fun e w' => e = .returned (.bool (decide (V = U ∧ R = S))) ∧ Below w.heap.size w w' := by
  obtain ⟨va, n, vc, ra, m, rc, rfl, hV, hR⟩ := h1
  obtain ⟨ua, n2, uc, sa, m2, sc, rfl, hU, hS⟩ := h2
  obtain ⟨Z, hZ⟩ : ∃ Z, decide (V = U ∧ R = S) = Z := ⟨_, rfl⟩
  rw [hZ]
  have HZ := Lib.hid hZ
  clear hZ
  obtain ⟨A, hA⟩ : ∃ A, w.heap.size = A := ⟨_, rfl⟩
  have h0 := tabs2_new w (.slice va n vc) (.slice ra m rc) (.slice ua n2 uc) (.slice sa m2 sc)
  obtain ⟨W0, hW0⟩ : ∃ W0, (w.alloc (.cells #[.slice va n vc, .slice ra m rc] 31)).alloc (.cells #[.slice ua n2 uc, .slice sa m2 sc] 31) = W0 := ⟨_, rfl⟩
  rw [hW0, hA] at h0
  have H0 := Lib.hid h0
  have HR := Lib.hid hR
  have HS := Lib.hid hS
  have HRL := Lib.hid hR.len
  have HSL := Lib.hid hS.len
  have hc1 := hR.cap
  have hc2 := hR.most
  have hc3 := hS.cap
  have hc4 := hS.most
  unfold maxLen at hc2 hc4
  have HSM := Lib.hid (sameA_calls V U va ua n n2 vc uc W0 (hV.on h0.below) (hU.on h0.below))
  have q0 : W0.cell? ⟨A, 0, none⟩ = some (.slice va n vc) := (blk_cell h0.one 0).trans rfl
  have q1 : W0.cell? ⟨A + 1, 0, none⟩ = some (.slice ua n2 uc) := (blk_cell h0.two 0).trans rfl
  have hA2 : A + 1 < W0.heap.size := blk_lt h0.two
  have HAE := Lib.hid hA
  have HW0 := Lib.hid hW0
  clear h0 hW0 hV hU hR hS hA
  by_cases hv : V = U
  · rw [decide_eq_true hv] at HSM
    go_enter Tryz.func24, Tryz.ntmps24
    go_wp2_with fail
    rw [HW0.out, HAE.out]
    refine HSM.out.mono ?_
    rintro e w1 ⟨rfl, hb1⟩
    have HT1 := Lib.hid (H0.out.on hb1)
    have q2 : w1.cell? ⟨A, 1, none⟩ = some (.slice ra m rc) := (blk_cell HT1.out.one 1).trans rfl
    have q3 : w1.cell? ⟨A + 1, 1, none⟩ = some (.slice sa m2 sc) := (blk_cell HT1.out.two 1).trans rfl
    clear hb1 q0 q1 hA2 H0 HSM
    by_cases hm : m = m2
    · subst hm
      go_wp2
      go_loopg [5] m (fun g i wr => ∃ k : Nat, i = .int .i64 k ∧ k + g = m ∧ Hid (SameR R S k) ∧ Hid (Tabs2 w A (.slice va n vc) (.slice ra m rc) (.slice ua n2 uc) (.slice sa m sc) wr))
      case atStart => exact ⟨0, rfl, by omega, Lib.hid rfl, HT1⟩
      case round =>
        obtain ⟨W1, rfl⟩ : ∃ W1, W1 = wr := ⟨_, rfl⟩
        obtain ⟨k, rfl, hkg, HSR, HTW⟩ := hrel
        have q4 : W1.cell? ⟨A, 1, none⟩ = some (.slice ra m rc) := (blk_cell HTW.out.one 1).trans rfl
        by_cases hk : k < m
        · obtain ⟨gg, rfl⟩ : ∃ gg, gk = gg + 1 := ⟨gk - 1, by omega⟩
          have hkR : k < R.length := by rw [HRL.out]; exact hk
          have hkS : k < S.length := by rw [HSL.out]; exact hk
          have HBW := Lib.hid HTW.out.below
          obtain ⟨g, o, ha, hgw, hcells⟩ := (HR.out.on HBW.out).cells (by omega)
          obtain ⟨g', o', ha', hgw', hcells'⟩ := (HS.out.on HBW.out).cells (by omega)
          subst ha ha'
          obtain ⟨x1, y1, e1, f1⟩ := hcells k hkR
          obtain ⟨x2, y2, e2, f2⟩ := hcells' k hkS
          have cR := fun d os => Calls.regrown_of (rowSame_calls R[k] S[k] x1 x2 R[k].length S[k].length y1 y2 (grow (redrawn W1 d) os) (f1.on (below_regrown W1 d os)) (f2.on (below_regrown W1 d os)))
          have HNX := Lib.hid (fun h => sameR_next HSR.out hkR hkS h)
          have HNE := Lib.hid (show R[k] ≠ S[k] → Z = false from fun h => HZ.out.symm.trans <| decide_eq_false (fun e => h (by obtain ⟨_, rfl⟩ := e; rfl)))
          generalize R[k].length = l1 at e1 cR
          generalize S[k].length = l2 at e2 cR
          have r0 := regrown_cell q4
          have r1 := regrown_cell (show W1.cell? ⟨A + 1, 1, none⟩ = some (.slice (some ⟨g', o', none⟩) m sc) from (blk_cell HTW.out.two 1).trans rfl)
          have r2 := regrown_cell e1
          have r3 := regrown_cell e2
          have k0 : (0 : Int) ≤ (k : Int) := by omega
          have k1 : (k : Int) < (m : Int) := by omega
          clear hcells hcells' e1 e2 f1 f2
          by_cases he : R[k] = S[k]
          · have HN2 := Lib.hid (HNX.out he)
            rw [decide_eq_true he] at cR
            clear HNX HNE he
            go_wp2_with fail
            refine wp_region_quiet_below (by kernel_rfl) (by kernel_rfl) ?_
            repeat (quiet_step (exact cR _ _))
            refine wpQuiet_nil ?_
            intro W2 hw'
            obtain ⟨⟨dq, osq⟩, hw''⟩ := hw'
            have HT2 := Lib.hid (HTW.out.on (show Below W1.heap.size W1 W2 by rw [hw'']; exact below_regrown W1 dq osq))
            clear hw'' r0 r1 r2 r3 cR q4
            go_wp2
            go_roundg gg
            case measure => omega
            case rel => exact ⟨k + 1, by go_num, by omega, HN2, HT2⟩
          · have HE := Lib.hid (HNE.out he)
            rw [decide_eq_false he] at cR
            clear HNX HNE he
            go_wp2_with fail
            refine wp_region_quiet_below (by kernel_rfl) (by kernel_rfl) ?_
            repeat (quiet_step (exact cR _ _))
            refine wpQuiet_nil ?_
            intro W2 hw'
            obtain ⟨⟨dq, osq⟩, hw''⟩ := hw'
            have HT2 := Lib.hid (HTW.out.on (show Below W1.heap.size W1 W2 by rw [hw'']; exact below_regrown W1 dq osq))
            clear hw'' r0 r1 r2 r3 cR q4
            go_wp2
            go_ret
            exact ⟨by rw [HE.out]; rfl, HT2.out.below⟩
        · have HE := Lib.hid (show Z = true from HZ.out.symm.trans <| decide_eq_true ⟨hv, sameR_end HSR.out (by rw [HRL.out]; omega) (by rw [HSL.out]; omega)⟩)
          have k1 : ¬ (k : Int) < (m : Int) := by omega
          go_wp2
          go_ret
          exact ⟨by rw [HE.out]; rfl, HTW.out.below⟩
    · have HE := Lib.hid (show Z = false from HZ.out.symm.trans <| decide_eq_false (fun e => hm (by rw [← HRL.out, ← HSL.out, e.2])))
      have hne : ((m : Int) != (m2 : Int)) = true := bne_iff_ne.2 (by omega)
      go_wp2
      go_ret
      exact ⟨by rw [HE.out]; rfl, HT1.out.below⟩
  · rw [decide_eq_false hv] at HSM
    have HE := Lib.hid (show Z = false from HZ.out.symm.trans <| decide_eq_false (fun e => hv e.1))
    go_enter Tryz.func24, Tryz.ntmps24
    go_wp2_with fail
    rw [HW0.out, HAE.out]
    refine HSM.out.mono ?_
    rintro e w1 ⟨rfl, hb1⟩
    have HT1 := Lib.hid (H0.out.on hb1)
    clear hb1
    go_wp2
    go_ret
    exact ⟨by rw [HE.out]; rfl, HT1.out.below⟩

def lightB (V : List (List UInt8)) (R : List RowL) : Bool := decide (R.length ≤ 40) && decide (V.length ≤ 33)
set_option maxRecDepth 100000 in
theorem light_calls (V : List (List UInt8)) (R : List RowL) (tv : Value) (w : World) (h : TabA w tv V R) : Calls Tryz.prog 15 #[tv] w fun e w' => e = .returned (.bool (lightB V R)) ∧ Below w.heap.size w w' := by
  obtain ⟨va, n, vc, ra, m, rc, rfl, hV, hR⟩ := h
  have HE := Lib.hid (show lightB V R = (decide (m ≤ 40) && decide (n ≤ 33)) by unfold lightB; rw [hV.len, hR.len])
  clear hV hR
  generalize lightB V R = b at HE ⊢
  by_cases h1 : m ≤ 40
  · have g1 : (m : Int) ≤ 40 := by omega
    by_cases h2 : n ≤ 33
    · have g2 : (n : Int) ≤ 33 := by omega
      rw [decide_eq_true h1, decide_eq_true h2] at HE
      go_enter Tryz.func15, Tryz.ntmps15
      go_wp2
      go_ret
      exact ⟨by rw [HE.out]; rfl, box_below _ _⟩
    · have g2 : ¬ (n : Int) ≤ 33 := by omega
      rw [decide_eq_true h1, decide_eq_false h2] at HE
      go_enter Tryz.func15, Tryz.ntmps15
      go_wp2
      go_ret
      exact ⟨by rw [HE.out]; rfl, box_below _ _⟩
  · have g1 : ¬ (m : Int) ≤ 40 := by omega
    rw [decide_eq_false h1, Bool.false_and] at HE
    go_enter Tryz.func15, Tryz.ntmps15
    go_wp2
    go_ret
    exact ⟨by rw [HE.out]; rfl, box_below _ _⟩

end Go.Proofs.YtkfemnjblbnclaaGreatDoor

/- Is what a call tells the document's: the statement's same, where it is. -/
namespace Go.Proofs.YtkfemnjblbnclaaGreatDoor
open Go.RowKit

set_option maxRecDepth 100000 in
set_option maxHeartbeats 2000000 in
theorem same_ok (V : List (List UInt8)) (R : List RowL) (t1 t2 : Value) (w : World) (h1 : TabA w t1 V R) (h2 : TabA w t2 V R) :
    Calls Tryz.prog 21 #[t1, .int .i64 0, t2, .int .i64 0] w fun e w' => e = .returned (.bool true) ∧ Below w.heap.size w w' := by
  obtain ⟨va, n, vc, ra, m, rc, rfl, hV, hR⟩ := h1
  obtain ⟨ua, n2, uc, sa, m2, sc, rfl, hU, hS⟩ := h2
  obtain ⟨A, hA⟩ : ∃ A, w.heap.size = A := ⟨_, rfl⟩
  have h0 := tabs2_new w (.slice va n vc) (.slice ra m rc) (.slice ua n2 uc) (.slice sa m2 sc)
  obtain ⟨W0, hW0⟩ : ∃ W0, (w.alloc (.cells #[.slice va n vc, .slice ra m rc] 31)).alloc (.cells #[.slice ua n2 uc, .slice sa m2 sc] 31) = W0 := ⟨_, rfl⟩
  rw [hW0, hA] at h0
  have HBW := Lib.hid h0.below
  have q0 : W0.cell? ⟨A, 0, none⟩ = some (.slice va n vc) := (blk_cell h0.one 0).trans rfl
  have q1 : W0.cell? ⟨A, 1, none⟩ = some (.slice ra m rc) := (blk_cell h0.one 1).trans rfl
  have q2 : W0.cell? ⟨A + 1, 0, none⟩ = some (.slice ua n2 uc) := (blk_cell h0.two 0).trans rfl
  have q3 : W0.cell? ⟨A + 1, 1, none⟩ = some (.slice sa m2 sc) := (blk_cell h0.two 1).trans rfl
  have hsm := tabSame_calls V V R R _ _ W0 ⟨va, n, vc, ra, m, rc, rfl, hV.on h0.below, hR.on h0.below⟩ ⟨ua, n2, uc, sa, m2, sc, rfl, hU.on h0.below, hS.on h0.below⟩
  rw [decide_eq_true (show V = V ∧ R = R from ⟨rfl, rfl⟩)] at hsm
  have HSM := Lib.hid hsm
  have HAE := Lib.hid hA
  have HW0 := Lib.hid hW0
  clear h0 hW0 hV hU hR hS hA hsm
  go_enter Tryz.func21, Tryz.ntmps21
  go_wp2_with fail
  rw [HW0.out, HAE.out]
  refine HSM.out.mono ?_
  rintro e w1 ⟨rfl, hb1⟩
  have HB1 := Lib.hid (fb2 HBW.out hb1 (Nat.le_refl _))
  clear hb1
  go_wp2
  go_ret
  exact ⟨rfl, HB1.out⟩

set_option maxRecDepth 100000 in
set_option maxHeartbeats 2000000 in
theorem same_no (k : Int) (hk : k ≠ 0) (t1 : Value) (vs rs : Value) (w : World) (h1 : TabA w t1 [] []) :
    Calls Tryz.prog 21 #[t1, .int .i64 k, .agg #[vs, rs], .int .i64 k] w fun e w' => e = .returned (.bool true) ∧ Below w.heap.size w w' := by
  obtain ⟨va, n, vc, ra, m, rc, rfl, hV, hR⟩ := h1
  obtain ⟨A, hA⟩ : ∃ A, w.heap.size = A := ⟨_, rfl⟩
  have h0 := tabs2_new w (.slice va n vc) (.slice ra m rc) vs rs
  obtain ⟨W0, hW0⟩ : ∃ W0, (w.alloc (.cells #[.slice va n vc, .slice ra m rc] 31)).alloc (.cells #[vs, rs] 31) = W0 := ⟨_, rfl⟩
  rw [hW0, hA] at h0
  have HBW := Lib.hid h0.below
  have HT1 := Lib.hid h0.one
  have HT2 := Lib.hid h0.two
  have HV := Lib.hid hV
  have HR := Lib.hid hR
  have HAE := Lib.hid hA
  have HW0 := Lib.hid hW0
  have g1 : (k != 0) = true := bne_iff_ne.2 hk
  have g2 : (k == k) = true := beq_self_eq_true k
  clear h0 hW0 hA hV hR
  go_enter Tryz.func21, Tryz.ntmps21
  go_wp2_with (rw [HW0.out, HAE.out]; refine whole_abs 31 (.tmp 6) (.tmp 11) ⟨rfl, rfl⟩ (A + 1) #[.slice none 0 0, .slice none 0 0] rfl rfl 31 #[vs, rs] HT2.out (by kernel_rfl) rfl (by kernel_rfl) ?_; intro w2 hX2 hg2; have HB2 := Lib.hid (show Below w.heap.size w w2 from HBW.out.grown hg2.out HBW.out.size (fun j hj => by injection hj with hj; have := HAE.out; omega)); have HA2 := Lib.hid (blk_grown HT1.out (by omega) hg2.out); have q0 : w2.cell? ⟨A, 0, none⟩ = some (.slice va n vc) := (blk_cell HA2.out 0).trans rfl; have q1 : w2.cell? ⟨A, 1, none⟩ = some (.slice ra m rc) := (blk_cell HA2.out 1).trans rfl; have q2 : w2.cell? ⟨A + 1, 0, none⟩ = some (.slice none 0 0) := (blk_cell hX2.out 0).trans rfl; have q3 : w2.cell? ⟨A + 1, 1, none⟩ = some (.slice none 0 0) := (blk_cell hX2.out 1).trans rfl; clear hX2 hg2)
  have hsm := tabSame_calls [] [] [] [] _ _ w2 ⟨va, n, vc, ra, m, rc, rfl, HV.out.on HB2.out, HR.out.on HB2.out⟩ (tab_nil (fun _ => True) w2).a
  rw [decide_eq_true (show ([] : List (List UInt8)) = [] ∧ ([] : List RowL) = [] from ⟨rfl, rfl⟩)] at hsm
  refine hsm.mono ?_
  rintro e w3 ⟨rfl, hb3⟩
  have HB3 := Lib.hid (fb2 HB2.out hb3 (Nat.le_refl _))
  clear hb3
  go_wp2
  go_ret
  exact ⟨rfl, HB3.out⟩

end Go.Proofs.YtkfemnjblbnclaaGreatDoor
