
/- What is told of an operation of a code, by the program: resultAt, InScope, Certain, From, Check. (Written by gen/mkat.py.) Are two slices of texts the same, wherever they begin? The program answers: the statements' awake. -/
import Derived.Test.YtiliobfgmelncaaScopeResults
import Derived.Test.YtiliobfgmelncaaRefTable
import Derived.Deep.QuietTactic
import Derived.BigQuiet
namespace Go.Proofs.Ytiliobfgmelncaa
open Go.RowKit Go.Maps

theorem runP_few {B : Nat} : ∀ (C : List OpL) (i : Nat) (op : List ResL) (e : Bool) (all : List ResL) {all' op' : List ResL} {e' : Bool}, (∀ r ∈ all, r.sc.length + r.ct.length ≤ B) → tot op + 256 * C.length ≤ B → runP C i op e all = some (all', op', e') → ∀ r ∈ all', r.sc.length + r.ct.length ≤ B
  | [], i, op, e, all, all', op', e', h1, _, h => by
    rw [runP] at h
    have : all = all' := by injection h with h; injection h
    rw [← this]; exact h1
  | o :: C, i, op, e, all, all', op', e', h1, h2, h => by
    rw [runP] at h
    split at h
    · rename_i hc
      have hl := topN_length hc.2.1
      have h4 := ndO_le o
      have h5 := madeR_tot hc.1 i (N := topN o op) (by omega)
      have h6 : tot op = tot (op.take (op.length - ndO o)) + tot (topN o op) := by
        unfold topN
        rw [← tot_append, List.take_append_drop]
      have h8 : tot [madeR o i (topN o op)] = (madeR o i (topN o op)).sc.length + (madeR o i (topN o op)).ct.length := by simp [tot]
      rw [List.length_cons] at h2
      refine runP_few C (i + 1) _ _ _ (fun r hr => ?_) ?_ h
      · rcases List.mem_append.1 hr with hr | hr
        · exact h1 r hr
        · rw [List.mem_singleton] at hr; subst hr; omega
      · rw [tot_append]; omega
    · cases h
theorem resA_few {C : List OpL} (h : C.length ≤ 128) : ∀ r ∈ resA C, r.sc.length ≤ 1000000 ∧ r.ct.length ≤ 1000000 := fun r hr => by
  unfold resA at hr
  split at hr
  · cases hr
  · rename_i all op e hrun
    have := runP_few (B := 256 * 128) C 0 [] false [] (fun r hr => absurd hr List.not_mem_nil) (by show 0 + _ ≤ _; omega) hrun r hr
    omega
def atE (C : List OpL) (i : Int) : Int := if resE C ≠ 0 then resE C else if i < 0 ∨ (C.length : Int) ≤ i then 1 else 0
theorem atE_err {C : List OpL} {i : Int} (h : resE C ≠ 0) : atE C i = resE C := if_pos h
theorem atE_range {C : List OpL} {i : Int} (h : resE C = 0) (hi : i < 0 ∨ (C.length : Int) ≤ i) : atE C i = 1 := by unfold atE; rw [if_neg (fun c => c h), if_pos hi]
theorem atE_ok {C : List OpL} {i : Int} (h : resE C = 0) (hi : ¬ (i < 0 ∨ (C.length : Int) ≤ i)) : atE C i = 0 := by unfold atE; rw [if_neg (fun c => c h), if_neg hi]
theorem resE_few {C : List OpL} (h : resE C = 0) : C.length ≤ 128 := by
  by_cases c : 128 < C.length
  · rw [resE_long c] at h; cases h
  · omega
/- one result told, or why not -/
def AtT (w : World) (C : List OpL) (i : Int) (e : Ending) (w' : World) : Prop :=
  Below w.heap.size w w' ∧ ∃ (r : ResL) (p q : Option Nat), e = .returned (.tuple #[.agg #[.int .i64 r.f, .bool r.v, .map p, .map q], .int .i64 (atE C i)]) ∧ SetA w' p r.sc ∧ SetA w' q r.ct ∧ (atE C i ≠ 0 → r = noR) ∧ (atE C i = 0 → (resA C)[i.toNat]? = some r) ∧ r.sc.length ≤ 1000000 ∧ r.ct.length ≤ 1000000
theorem at_ret (tm : Array Value) (W : World) (A : Nat) (f : Int) (v : Bool) (p q : Option Nat) (E : Int) (Q : Ending → World → Prop) (h : tm.getD 4 undef = .pointer (some ⟨A, 0, none⟩)) (h5 : tm.getD 5 undef = .int .i64 E) (hA : Blk W A 35 #[.int .i64 f, .bool v, .map p, .map q]) (hQ : Q (.returned (.tuple #[.agg #[.int .i64 f, .bool v, .map p, .map q], .int .i64 E])) W) :
    bodyPost Try.prog Try.f8 Q Exit.ret { tmps := tm, defers := [] } W := by
  have q0 : W.cell? ⟨A, 0, none⟩ = some (.int .i64 f) := by rw [blk_cell hA]; rfl
  have q1 : W.cell? ⟨A, 1, none⟩ = some (.bool v) := by rw [blk_cell hA]; rfl
  have q2 : W.cell? ⟨A, 2, none⟩ = some (.map p) := by rw [blk_cell hA]; rfl
  have q3 : W.cell? ⟨A, 3, none⟩ = some (.map q) := by rw [blk_cell hA]; rfl
  have e2 : tm[4]?.getD undef = .pointer (some ⟨A, 0, none⟩) := by rw [← Array.getD_eq_getD_getElem?]; exact h
  have e5 : tm[5]?.getD undef = .int .i64 E := by rw [← Array.getD_eq_getD_getElem?]; exact h5
  refine bodyPost_ret (v := .tuple #[.agg #[.int .i64 f, .bool v, .map p, .map q], .int .i64 E]) (by simp [results, Try.results8, e2, e5, q0, q1, q2, q3, go_sem]) rfl hQ
theorem at_none {w w' : World} {C : List OpL} {i : Int} (hb : Below w.heap.size w w') (h : atE C i ≠ 0) {E : Int} (hE : atE C i = E) : AtT w C i (.returned (.tuple #[.agg #[.int .i64 0, .bool false, .map none, .map none], .int .i64 E])) w' :=
  ⟨hb, noR, none, none, by rw [hE]; rfl, setA_none _, setA_none _, fun _ => rfl, fun c => absurd c h, Nat.zero_le _, Nat.zero_le _⟩

set_option maxRecDepth 100000 in
set_option maxHeartbeats 8000000 in
theorem resultAt_calls (C : List OpL) (hok : ∀ o ∈ C, OpOk o) (a : Option Addr) (n c : Nat) (i : Int) (w : World) (hv : OpsA w a n c C) : Calls Try.prog 8 #[.slice a n c, .int .i64 i] w (AtT w C i) := by
  have HC := Lib.hid (fun W h => results_calls C hok a n c W h)
  have HV := Lib.hid hv
  have HNEW := Lib.hid (fun W => blk_new W 35 #[.int .i64 0, .bool false, .map none, .map none])
  have HBX := Lib.hid (fun (W : World) (o : Obj) => box_below W o)
  clear hv hok
  go_enter Try.func8, Try.ntmps8
  go_wp2_with fail
  refine (HC.out _ (HV.out.on (HBX.out _ _))).mono ?_
  intro e w2 hT
  obtain ⟨hb2, hT⟩ := hT
  have HB2 := Lib.hid (one_box hb2)
  have HX2 := Lib.hid (blk_on (HNEW.out w) hb2 (by simp))
  clear hb2
  have hX0 := HX2.out
  have hlt : w.heap.size < w2.heap.size := blk_lt hX0
  have x0 : w2.cell? ⟨w.heap.size, 0, none⟩ = some (.int .i64 0) := (blk_cell hX0 0).trans rfl
  have x1 : w2.cell? ⟨w.heap.size, 1, none⟩ = some (.bool false) := (blk_cell hX0 1).trans rfl
  have x2 : w2.cell? ⟨w.heap.size, 2, none⟩ = some (.map none) := (blk_cell hX0 2).trans rfl
  have x3 : w2.cell? ⟨w.heap.size, 3, none⟩ = some (.map none) := (blk_cell hX0 3).trans rfl
  have f0 : ∀ i, w2.frozen? ⟨w.heap.size, i, none⟩ = false := fun i => blk_free hX0 i
  rcases hT with ⟨he, rfl⟩ | ⟨he, ra, rc, rfl, hres⟩
  · have HE := Lib.hid (atE_err (i := i) he)
    have HNZ := Lib.hid (show atE C i ≠ 0 by rw [HE.out]; exact he)
    obtain ⟨E, hEE⟩ : ∃ E, resE C = E := ⟨_, rfl⟩
    rw [hEE] at he HE ⊢
    have hne : (E != 0) = true := bne_iff_ne.2 he
    clear hEE he
    go_wp2_with (refine kWhole 35 (.tmp 4) (.tmp 15) ⟨rfl, rfl⟩ w.heap.size #[.int .i64 0, .bool false, .map none, .map none] (by kernel_rfl) (by kernel_rfl) 35 #[.int .i64 0, .bool false, .map none, .map none] hX0 (by kernel_rfl) rfl (by kernel_rfl) ?_; intro w4 hA4 hG4)
    refine at_ret _ _ w.heap.size 0 false none none E _ (by first | rfl | simp) (by first | rfl | simp) hA4.out (at_none (HB2.out.grown hG4.out HB2.out.size (fun j hj => by cases hj; exact Nat.le_refl _)) HNZ.out HE.out)
  · have HE := Lib.hid he
    have hln := hres.len
    have HL := Lib.hid (show C.length = n from HV.out.len)
    have HRS := Lib.hid hres
    have HFW := Lib.hid (resA_few (resE_few he))
    have HLN := Lib.hid hln
    have hcp := hres.cap
    have hms := hres.most
    unfold maxLen at hms
    rw [HL.out] at hcp ⊢
    clear he hres hln
    by_cases h0 : i < 0
    · have HNZ := Lib.hid (atE_range HE.out (.inl h0))
      go_wp2_with (refine kWhole 35 (.tmp 4) (.tmp 25) ⟨rfl, rfl⟩ w.heap.size #[.int .i64 0, .bool false, .map none, .map none] (by kernel_rfl) (by kernel_rfl) 35 #[.int .i64 0, .bool false, .map none, .map none] hX0 (by kernel_rfl) rfl (by kernel_rfl) ?_; intro w4 hA4 hG4)
      refine at_ret _ _ w.heap.size 0 false none none 1 _ (by first | rfl | simp) (by first | rfl | simp) hA4.out (at_none (HB2.out.grown hG4.out HB2.out.size (fun j hj => by cases hj; exact Nat.le_refl _)) (by rw [HNZ.out]; decide) HNZ.out)
    by_cases h1 : (n : Int) ≤ i
    · have HNZ := Lib.hid (atE_range HE.out (.inr (by rw [HL.out]; exact h1)))
      go_wp2_with (refine kWhole 35 (.tmp 4) (.tmp 25) ⟨rfl, rfl⟩ w.heap.size #[.int .i64 0, .bool false, .map none, .map none] (by kernel_rfl) (by kernel_rfl) 35 #[.int .i64 0, .bool false, .map none, .map none] hX0 (by kernel_rfl) rfl (by kernel_rfl) ?_; intro w4 hA4 hG4)
      refine at_ret _ _ w.heap.size 0 false none none 1 _ (by first | rfl | simp) (by first | rfl | simp) hA4.out (at_none (HB2.out.grown hG4.out HB2.out.size (fun j hj => by cases hj; exact Nat.le_refl _)) (by rw [HNZ.out]; decide) HNZ.out)
    have HOK := Lib.hid (atE_ok HE.out (i := i) (fun c => c.elim h0 (fun d => h1 (by rw [HL.out] at d; exact d))))
    obtain ⟨k, rfl⟩ : ∃ k : Nat, i = (k : Int) := ⟨i.toNat, by omega⟩
    have hk : k < n := by omega
    have hkL : k < (resA C).length := by rw [HLN.out, HL.out]; exact hk
    obtain ⟨g, o, ha, hgw, hcells⟩ := HRS.out.cells (by rw [HL.out]; omega)
    subst ha
    obtain ⟨p, q, d0, d1, d2, d3, hp, hq⟩ := hcells k hkL
    have HGE := Lib.hid (show (resA C)[(k : Int).toNat]? = some (resA C)[k] by rw [Int.toNat_natCast, List.getElem?_eq_getElem hkL])
    have HF2 := Lib.hid (HFW.out _ (List.getElem_mem hkL))
    have HP := Lib.hid hp
    have HQ := Lib.hid hq
    have k0 : (0 : Int) ≤ (k : Int) := by omega
    have k1 : (k : Int) < (n : Int) := by omega
    clear hcells hp hq h0 h1
    generalize (resA C)[k] = r at d0 d1 d2 d3 HP HQ HGE HF2
    go_wp2_with (refine kWhole 35 (.tmp 4) (.tmp 29) ⟨rfl, rfl⟩ w.heap.size #[.int .i64 r.f, .bool r.v, .map p, .map q] (by kernel_rfl) (by kernel_rfl) 35 #[.int .i64 0, .bool false, .map none, .map none] hX0 (by kernel_rfl) rfl (by kernel_rfl) ?_; intro w4 hA4 hG4)
    have hm := kMaps hG4.out hX0
    refine at_ret _ _ w.heap.size r.f r.v p q 0 _ (by first | rfl | simp) (by first | rfl | simp) hA4.out ⟨HB2.out.grown hG4.out HB2.out.size (fun j hj => by cases hj; exact Nat.le_refl _), r, p, q, by rw [HOK.out], HP.out.on hm, HQ.out.on hm, fun c => absurd HOK.out c, fun _ => HGE.out, HF2.out⟩

/- names told, or why not -/
def InT (w : World) (C : List OpL) (i : Int) (cert : Bool) (e : Ending) (w' : World) : Prop :=
  Below w.heap.size w w' ∧ ∃ (L : List (List UInt8)) (a : Option Addr) (c : Nat), e = .returned (.tuple #[.slice a L.length c, .int .i64 (atE C i)]) ∧ TxtA w' a L.length c L ∧ Rise L ∧ (atE C i ≠ 0 → L = []) ∧ (atE C i = 0 → ∃ r, (resA C)[i.toNat]? = some r ∧ L = bif cert then r.ct else r.sc) ∧ L.length ≤ 1000000

set_option maxRecDepth 100000 in
set_option maxHeartbeats 4000000 in
theorem inScope_calls (C : List OpL) (hok : ∀ o ∈ C, OpOk o) (a : Option Addr) (n c : Nat) (i : Int) (w : World) (hv : OpsA w a n c C) : Calls Try.prog 4 #[.slice a n c, .int .i64 i] w (InT w C i false) := by
  have HC := Lib.hid (resultAt_calls C hok a n c i w hv)
  clear hv hok
  go_enter Try.func4, Try.ntmps4
  go_wp2_with fail
  refine HC.out.mono ?_
  rintro e w2 ⟨hb2, r, p, q, rfl, hp, hq, h1, h2, h3, h4⟩
  have HB2 := Lib.hid hb2
  have HO := Lib.hid (fun (o : Obj) => ordered_calls r.sc p (w2.alloc o) ((hp).on (mapsOn_below (box_below w2 o))) (by omega))
  have HR := Lib.hid (hp).1
  have H1 := Lib.hid h1
  have H2 := Lib.hid h2
  have H3 := Lib.hid (h3)
  clear hb2 hp hq h1 h2 h3 h4
  go_wp2_with fail
  refine (HO.out _).mono ?_
  rintro e w3 ⟨a3, c3, rfl, htx, hb3⟩
  have HT := Lib.hid htx
  have HB3 := Lib.hid (one_box hb3)
  clear htx hb3
  go_wp2
  refine bodyPost_ret (v := .tuple #[.slice a3 r.sc.length c3, .int .i64 (atE C i)]) (by simp [results, Try.results4, go_sem]) rfl ⟨HB2.out.trans (HB3.out.mono HB2.out.size), r.sc, a3, c3, rfl, HT.out, HR.out, fun c => by rw [H1.out c]; rfl, fun c => ⟨r, H2.out c, rfl⟩, H3.out⟩

set_option maxRecDepth 100000 in
set_option maxHeartbeats 4000000 in
theorem certain_calls (C : List OpL) (hok : ∀ o ∈ C, OpOk o) (a : Option Addr) (n c : Nat) (i : Int) (w : World) (hv : OpsA w a n c C) : Calls Try.prog 5 #[.slice a n c, .int .i64 i] w (InT w C i true) := by
  have HC := Lib.hid (resultAt_calls C hok a n c i w hv)
  clear hv hok
  go_enter Try.func5, Try.ntmps5
  go_wp2_with fail
  refine HC.out.mono ?_
  rintro e w2 ⟨hb2, r, p, q, rfl, hp, hq, h1, h2, h3, h4⟩
  have HB2 := Lib.hid hb2
  have HO := Lib.hid (fun (o : Obj) => ordered_calls r.ct q (w2.alloc o) ((hq).on (mapsOn_below (box_below w2 o))) (by omega))
  have HR := Lib.hid (hq).1
  have H1 := Lib.hid h1
  have H2 := Lib.hid h2
  have H3 := Lib.hid (h4)
  clear hb2 hp hq h1 h2 h3 h4
  go_wp2_with fail
  refine (HO.out _).mono ?_
  rintro e w3 ⟨a3, c3, rfl, htx, hb3⟩
  have HT := Lib.hid htx
  have HB3 := Lib.hid (one_box hb3)
  clear htx hb3
  go_wp2
  refine bodyPost_ret (v := .tuple #[.slice a3 r.ct.length c3, .int .i64 (atE C i)]) (by simp [results, Try.results5, go_sem]) rfl ⟨HB2.out.trans (HB3.out.mono HB2.out.size), r.ct, a3, c3, rfl, HT.out, HR.out, fun c => by rw [H1.out c]; rfl, fun c => ⟨r, H2.out c, rfl⟩, H3.out⟩

end Go.Proofs.Ytiliobfgmelncaa

namespace Go.Proofs.Ytiliobfgmelncaa
open Go.RowKit

/- those ahead of place k are the same -/
def SameR (L M : List (List UInt8)) (k : Nat) : Prop := L.take k = M.take k
theorem sameR_next {L M : List (List UInt8)} {k : Nat} (h : SameR L M k) (hl : k < L.length) (hm : k < M.length) (he : L[k] = M[k]) : SameR L M (k + 1) := by
  unfold SameR at *
  rw [List.take_succ_eq_append_getElem hl, List.take_succ_eq_append_getElem hm, h, he]
theorem sameR_end {L M : List (List UInt8)} {k : Nat} (h : SameR L M k) (hl : L.length ≤ k) (hm : M.length ≤ k) : L = M := by
  unfold SameR at h
  rwa [List.take_of_length_le hl, List.take_of_length_le hm] at h

set_option maxRecDepth 100000 in
set_option maxHeartbeats 4000000 in
theorem sameA_calls (L M : List (List UInt8)) (a b : Option Addr) (n m c d : Nat) (w : World) (h : TxtA w a n c L) (k : TxtA w b m d M) :
    Calls Try.prog 12 #[.slice a n c, .slice b m d] w fun e w' => e = .returned (.bool (decide (L = M))) ∧ Below w.heap.size w w' := by
  have HL := Lib.hid h.len
  have HM := Lib.hid k.len
  have HX := Lib.hid h.cells
  have HY := Lib.hid k.cells
  have c1 := h.cap
  have c2 := h.most
  have c3 := k.cap
  have c4 := k.most
  unfold maxLen at c2 c4
  clear h k
  by_cases hnm : n = m
  · subst hnm
    go_enter Try.func12, Try.ntmps12
    go_wp2
    go_loopg [5] n (fun g i wr => ∃ k : Nat, i = .int .i64 k ∧ k + g = n ∧ Hid (SameR L M k) ∧ Hid (Below w.heap.size w wr))
    case atStart => exact ⟨0, rfl, by omega, Lib.hid rfl, Lib.hid (Below.refl _ _)⟩
    case round =>
      obtain ⟨W1, rfl⟩ : ∃ W1, W1 = wr := ⟨_, rfl⟩
      obtain ⟨k, rfl, hkg, HR, HB⟩ := hrel
      by_cases hk : k < n
      · obtain ⟨gg, rfl⟩ : ∃ gg, gk = gg + 1 := ⟨gk - 1, by omega⟩
        have hkL : k < L.length := by rw [HL.out]; exact hk
        have hkM : k < M.length := by rw [HM.out]; exact hk
        obtain ⟨g, o, ha, hgw, hcells⟩ := HX.out (by omega)
        obtain ⟨g', o', ha', hgw', hcells'⟩ := HY.out (by omega)
        subst ha ha'
        have e0 := (HB.out.cell (p := ⟨g, o + k, none⟩) hgw).trans (hcells k hkL)
        have e1 := (HB.out.cell (p := ⟨g', o' + k, none⟩) hgw').trans (hcells' k hkM)
        have HNX := Lib.hid (fun h => sameR_next HR.out hkL hkM h)
        have HNE := Lib.hid (show L[k] ≠ M[k] → decide (L = M) = false from fun h => decide_eq_false (fun e => h (by subst e; rfl)))
        have k0 : (0 : Int) ≤ (k : Int) := by omega
        have k1 : (k : Int) < (n : Int) := by omega
        clear hcells hcells'
        generalize L[k] = x at e0 HNX HNE
        generalize M[k] = y at e1 HNX HNE
        by_cases he : x = y
        · have HN2 := Lib.hid (HNX.out he)
          have hne : ((bs x).toList != (bs y).toList) = false := by rw [he]; exact bne_self_eq_false _
          have heq : ((bs x).toList == (bs y).toList) = true := by rw [he]; exact beq_self_eq_true _
          subst he
          clear HNX HNE
          go_wp2
          all_goals (try go_quiet (fail))
          all_goals (try go_wp2)
          go_roundg gg
          case measure => omega
          case rel => exact ⟨k + 1, by go_num, by omega, HN2, by first | exact HB | exact Lib.hid (drew_below HB.out _)⟩
        · have HE := Lib.hid (HNE.out he)
          have hne : ((bs x).toList != (bs y).toList) = true := by rw [bs_toList, bs_toList]; exact bne_iff_ne.2 he
          have heq : ((bs x).toList == (bs y).toList) = false := by rw [bs_toList, bs_toList]; exact beq_eq_false_iff_ne.2 he
          clear HNX HNE he
          go_wp2
          all_goals (try go_quiet (fail))
          all_goals (try go_wp2)
          go_ret
          exact ⟨by rw [HE.out]; rfl, by first | exact HB.out | exact drew_below HB.out _⟩
      · have HE := Lib.hid (show decide (L = M) = true from decide_eq_true (sameR_end HR.out (by rw [HL.out]; omega) (by rw [HM.out]; omega)))
        have k1 : ¬ (k : Int) < (n : Int) := by omega
        go_wp2
        go_ret
        exact ⟨by rw [HE.out]; rfl, HB.out⟩
  · have HE := Lib.hid (show decide (L = M) = false from decide_eq_false (fun e => hnm (by rw [← HL.out, ← HM.out, e])))
    have hne : ((n : Int) != (m : Int)) = true := bne_iff_ne.2 (by omega)
    have hne2 : ((n : Int) == (m : Int)) = false := beq_eq_false_iff_ne.2 (by omega)
    go_enter Try.func12, Try.ntmps12
    go_wp2
    go_ret
    exact ⟨by rw [HE.out]; rfl, Below.refl _ _⟩

end Go.Proofs.Ytiliobfgmelncaa

namespace Go.Proofs.Ytiliobfgmelncaa
open Go.RowKit Go.Maps

def awT : TripL := ⟨⟨4, [120], [], []⟩, ⟨1, [97], [], []⟩, ⟨4, [121], [], []⟩⟩
def awC : List OpL := [⟨1, [awT], [], [], [], [], false⟩, ⟨2, [], [[122]], [], [], [], false⟩, ⟨5, [], [], [], [], [], false⟩]
theorem aw_err : resE awC = 0 := by kernel_rfl
theorem aw_at : atE awC 2 = 0 := by kernel_rfl
theorem aw_sc : ((resA awC)[2]?).map (·.sc) = some [[120], [121], [122]] := by kernel_rfl
theorem aw_ct : ((resA awC)[2]?).map (·.ct) = some [[120], [121]] := by kernel_rfl
theorem aw_ok : ∀ o ∈ awC, OpOk o := by
  intro o ho
  simp only [awC, List.mem_cons, List.not_mem_nil, or_false] at ho
  rcases ho with rfl | rfl | rfl
  · refine ⟨fun t ht => ?_, fun x hx => absurd hx List.not_mem_nil, fun x hx => absurd hx List.not_mem_nil, fun x hx => absurd hx List.not_mem_nil, by decide⟩
    rw [List.mem_singleton] at ht
    subst ht
    unfold TripL.ok TermL.ok; decide
  · refine ⟨fun x hx => absurd hx List.not_mem_nil, fun x hx => ?_, fun x hx => absurd hx List.not_mem_nil, fun x hx => absurd hx List.not_mem_nil, by decide⟩
    rw [List.mem_singleton] at hx
    subst hx; decide
  · exact ⟨fun x hx => absurd hx List.not_mem_nil, fun x hx => absurd hx List.not_mem_nil, fun x hx => absurd hx List.not_mem_nil, fun x hx => absurd hx List.not_mem_nil, by decide⟩
abbrev awB0 : Obj := .cells #[.int .i64 4, .string (bs [120]), .string (bs []), .string (bs []), .int .i64 1, .string (bs [97]), .string (bs []), .string (bs []), .int .i64 4, .string (bs [121]), .string (bs []), .string (bs [])] 43
abbrev awB1 : Obj := .cells #[.string (bs [122])] 9
abbrev awN : Value := .slice none 0 0
abbrev awB2 (a : Nat) : Obj := .cells #[.int .i64 1, .slice (some ⟨a, 0, none⟩) 1 1, awN, awN, awN, .string (bs []), .bool false, .int .i64 2, awN, .slice (some ⟨a + 1, 0, none⟩) 1 1, awN, awN, .string (bs []), .bool false, .int .i64 5, awN, awN, awN, awN, .string (bs []), .bool false] 50
theorem nilT (w : World) : TrpA w none 0 0 [] := ⟨rfl, Nat.le_refl _, Nat.zero_le _, fun h => absurd h (Nat.lt_irrefl _)⟩
theorem nilX (w : World) : TxtA w none 0 0 [] := ⟨rfl, Nat.le_refl _, Nat.zero_le _, fun h => absurd h (Nat.lt_irrefl _)⟩
theorem nilR (w : World) : RowA w none 0 0 [] := ⟨rfl, Nat.le_refl _, Nat.zero_le _, fun h => absurd h (Nat.lt_irrefl _)⟩
theorem nilP (w : World) : ArgP w none 0 0 [] := ⟨rfl, Nat.le_refl _, Nat.zero_le _, fun h => absurd h (Nat.lt_irrefl _)⟩
theorem aw_ops (w : World) : OpsA (((w.alloc awB0).alloc awB1).alloc (awB2 w.heap.size)) (some ⟨w.heap.size + 1 + 1, 0, none⟩) 3 3 awC := by
  have e1 : (w.alloc awB0).heap.size = w.heap.size + 1 := by simp
  have e2 : ((w.alloc awB0).alloc awB1).heap.size = w.heap.size + 1 + 1 := by simp
  have b2 := blk_new ((w.alloc awB0).alloc awB1) 50 #[.int .i64 1, .slice (some ⟨w.heap.size, 0, none⟩) 1 1, awN, awN, awN, .string (bs []), .bool false, .int .i64 2, awN, .slice (some ⟨w.heap.size + 1, 0, none⟩) 1 1, awN, awN, .string (bs []), .bool false, .int .i64 5, awN, awN, awN, awN, .string (bs []), .bool false]
  rw [e2] at b2
  have b1 := blk_alloc (blk_new (w.alloc awB0) 9 #[.string (bs [122])]) (awB2 w.heap.size)
  rw [e1] at b1
  have b0 := blk_alloc (blk_alloc (blk_new w 43 #[.int .i64 4, .string (bs [120]), .string (bs []), .string (bs []), .int .i64 1, .string (bs [97]), .string (bs []), .string (bs []), .int .i64 4, .string (bs [121]), .string (bs []), .string (bs [])]) awB1) (awB2 w.heap.size)
  obtain ⟨W, hW⟩ : ∃ W, ((w.alloc awB0).alloc awB1).alloc (awB2 w.heap.size) = W := ⟨_, rfl⟩
  rw [hW] at b0 ⊢
  have b1 : Blk W (w.heap.size + 1) 9 #[.string (bs [122])] := by rw [← hW]; exact b1
  have b2 : Blk W (w.heap.size + 1 + 1) 50 #[.int .i64 1, .slice (some ⟨w.heap.size, 0, none⟩) 1 1, awN, awN, awN, .string (bs []), .bool false, .int .i64 2, awN, .slice (some ⟨w.heap.size + 1, 0, none⟩) 1 1, awN, awN, .string (bs []), .bool false, .int .i64 5, awN, awN, awN, awN, .string (bs []), .bool false] := by rw [← hW]; exact b2
  refine ⟨rfl, Nat.le_refl _, by decide, fun _ => ⟨_, 0, rfl, blk_lt b2, fun j hj => ?_⟩⟩
  have c := fun i => blk_cell b2 i
  match j, hj with
  | 0, _ =>
    refine ⟨⟨some ⟨w.heap.size, 0, none⟩, 1, 1, none, 0, 0, none, 0, 0, none, 0, 0⟩, ⟨(c 0).trans rfl, (c 1).trans rfl, (c 2).trans rfl, (c 3).trans rfl, (c 4).trans rfl, (c 5).trans rfl, (c 6).trans rfl⟩, ⟨⟨rfl, Nat.le_refl _, (show 1 ≤ maxLen by decide), fun _ => ⟨_, 0, rfl, blk_lt b0, fun i hi => ?_⟩⟩, nilX _, nilR _, nilP _⟩⟩
    have d := fun i => blk_cell b0 i
    match i, hi with
    | 0, _ => exact ⟨⟨(d 0).trans rfl, (d 1).trans rfl, (d 2).trans rfl, (d 3).trans rfl⟩, ⟨(d 4).trans rfl, (d 5).trans rfl, (d 6).trans rfl, (d 7).trans rfl⟩, ⟨(d 8).trans rfl, (d 9).trans rfl, (d 10).trans rfl, (d 11).trans rfl⟩⟩
    | i + 1, hi => exact absurd hi (show ¬ i + 1 < 1 by omega)
  | 1, _ =>
    refine ⟨⟨none, 0, 0, some ⟨w.heap.size + 1, 0, none⟩, 1, 1, none, 0, 0, none, 0, 0⟩, ⟨(c 7).trans rfl, (c 8).trans rfl, (c 9).trans rfl, (c 10).trans rfl, (c 11).trans rfl, (c 12).trans rfl, (c 13).trans rfl⟩, ⟨nilT _, ⟨rfl, Nat.le_refl _, (show 1 ≤ maxLen by decide), fun _ => ⟨_, 0, rfl, blk_lt b1, fun i hi => ?_⟩⟩, nilR _, nilP _⟩⟩
    match i, hi with
    | 0, _ => exact (blk_cell b1 0).trans rfl
    | i + 1, hi => exact absurd hi (show ¬ i + 1 < 1 by omega)
  | 2, _ => exact ⟨⟨none, 0, 0, none, 0, 0, none, 0, 0, none, 0, 0⟩, ⟨(c 14).trans rfl, (c 15).trans rfl, (c 16).trans rfl, (c 17).trans rfl, (c 18).trans rfl, (c 19).trans rfl, (c 20).trans rfl⟩, ⟨nilT _, nilX _, nilR _, nilP _⟩⟩
  | j + 3, hj => exact absurd hj (show ¬ j + 3 < 3 by omega)

set_option maxHeartbeats 1000000 in
theorem law_iri (s : ByteArray) (w : World) : Calls Try.prog 11 #[.string s] w fun e w' => e = .returned (.agg #[.int .i64 1, .string s, .string ⟨#[]⟩, .string ⟨#[]⟩]) ∧ Below w.heap.size w w' := by
  go_enter Try.func11, Try.ntmps11
  go_wp2
  refine bodyPost_ret (v := .agg #[.int .i64 1, .string s, .string ⟨#[]⟩, .string ⟨#[]⟩]) (by simp [results, Try.results11, go_sem]) rfl ⟨rfl, ?_⟩
  exact box_below _ _
set_option maxHeartbeats 1000000 in
theorem law_name (s : ByteArray) (w : World) : Calls Try.prog 10 #[.string s] w fun e w' => e = .returned (.agg #[.int .i64 4, .string s, .string ⟨#[]⟩, .string ⟨#[]⟩]) ∧ Below w.heap.size w w' := by
  go_enter Try.func10, Try.ntmps10
  go_wp2
  refine bodyPost_ret (v := .agg #[.int .i64 4, .string s, .string ⟨#[]⟩, .string ⟨#[]⟩]) (by simp [results, Try.results10, go_sem]) rfl ⟨rfl, ?_⟩
  exact box_below _ _
/- what InScope, Certain tell of it -/
theorem aw_in {w w' : World} {e : Ending} (h : InT w awC 2 false e w') : Below w.heap.size w w' ∧ ∃ a c, e = .returned (.tuple #[.slice a 3 c, .int .i64 0]) ∧ TxtA w' a 3 c [[120], [121], [122]] := by
  obtain ⟨hb, L, a, c, rfl, ht, _, _, h2, _⟩ := h
  obtain ⟨r, hr, hL⟩ := h2 aw_at
  have h3 := aw_sc
  rw [show (2 : Int).toNat = 2 from rfl] at hr
  rw [hr] at h3
  have h4 : r.sc = [[120], [121], [122]] := by simpa using h3
  have h5 : L = [[120], [121], [122]] := by rw [hL]; exact h4
  subst h5
  exact ⟨hb, a, c, by rw [aw_at]; rfl, ht⟩
theorem aw_cert {w w' : World} {e : Ending} (h : InT w awC 2 true e w') : Below w.heap.size w w' ∧ ∃ a c, e = .returned (.tuple #[.slice a 2 c, .int .i64 0]) ∧ TxtA w' a 2 c [[120], [121]] := by
  obtain ⟨hb, L, a, c, rfl, ht, _, _, h2, _⟩ := h
  obtain ⟨r, hr, hL⟩ := h2 aw_at
  have h3 := aw_ct
  rw [show (2 : Int).toNat = 2 from rfl] at hr
  rw [hr] at h3
  have h4 : r.ct = [[120], [121]] := by simpa using h3
  have h5 : L = [[120], [121]] := by rw [hL]; exact h4
  subst h5
  exact ⟨hb, a, c, by rw [aw_at]; rfl, ht⟩
theorem txt_new (w : World) (L : List (List UInt8)) (hl : L.length ≤ 100) : TxtA (w.alloc (.cells (L.map fun x => Value.string (bs x)).toArray 9)) (some ⟨w.heap.size, 0, none⟩) L.length L.length L :=
  ⟨rfl, Nat.le_refl _, by unfold maxLen; omega, fun _ => ⟨_, 0, rfl, by simp, fun j hj => by
    rw [blk_cell (blk_new w 9 (L.map fun x => Value.string (bs x)).toArray)]
    simp [hj]⟩⟩

set_option maxRecDepth 100000 in
set_option maxHeartbeats 4000000 in
theorem awake_calls (w : World) : Calls Try.prog 7 #[] w fun e w' => e = .returned (.bool true) ∧ Below w.heap.size w w' := by
  go_enter Try.func7, Try.ntmps7
  go_wp2_with fail
  refine (law_name _ _).mono ?_
  rintro e w1 ⟨rfl, hb1⟩
  have HB1 := Lib.hid hb1
  clear hb1
  go_wp2_with fail
  refine (law_iri _ _).mono ?_
  rintro e w2 ⟨rfl, hb2⟩
  have HB2 := Lib.hid (HB1.out.trans (hb2.mono HB1.out.size))
  clear hb2
  go_wp2_with fail
  refine (law_name _ _).mono ?_
  rintro e w3 ⟨rfl, hb3⟩
  have HB3 := Lib.hid (HB2.out.trans (hb3.mono HB2.out.size))
  clear hb3
  have HOPS := Lib.hid (aw_ops w3)
  have HB4 := Lib.hid (show Below w.heap.size w (((w3.alloc awB0).alloc awB1).alloc (awB2 w3.heap.size)) from ((HB3.out.alloc HB3.out.size _).alloc (by have := HB3.out.size; simp; omega) _).alloc (by have := HB3.out.size; simp; omega) _)
  go_wp2_with fail
  refine (inScope_calls awC aw_ok _ _ _ _ _ HOPS.out).mono ?_
  intro e w5 hT
  obtain ⟨hb5, a5, c5, rfl, ht5⟩ := aw_in hT
  have HT5 := Lib.hid ht5
  have HB5 := Lib.hid (HB4.out.trans (hb5.mono HB4.out.size))
  have HOPS5 := Lib.hid (HOPS.out.on hb5)
  clear hT hb5 ht5
  go_wp2_with fail
  refine (certain_calls awC aw_ok _ _ _ _ _ HOPS5.out).mono ?_
  intro e w6 hT
  obtain ⟨hb6, a6, c6, rfl, ht6⟩ := aw_cert hT
  have HT6 := Lib.hid ht6
  have HT56 := Lib.hid (HT5.out.on hb6)
  have HB6 := Lib.hid (HB5.out.trans (hb6.mono HB5.out.size))
  clear hT hb6 ht6
  have HS1 := Lib.hid (sameA_calls [[120], [121], [122]] [[120], [121], [122]] a5 (some ⟨w6.heap.size, 0, none⟩) 3 3 c5 3 (w6.alloc (.cells #[.string (bs [120]), .string (bs [121]), .string (bs [122])] 9)) (HT56.out.on (box_below _ _)) (txt_new w6 [[120], [121], [122]] (by decide)))
  rw [show decide ([[120], [121], [122]] = ([[120], [121], [122]] : List (List UInt8))) = true from by decide] at HS1
  go_wp2_with fail
  refine HS1.out.mono ?_
  rintro e w7 ⟨rfl, hb7⟩
  have HB7 := Lib.hid ((HB6.out.alloc HB6.out.size _).trans (hb7.mono (by have := HB6.out.size; simp; omega)))
  have HT7 := Lib.hid (HT6.out.on ((box_below _ _).trans (hb7.mono (by simp))))
  clear hb7
  have HS2 := Lib.hid (sameA_calls [[120], [121]] [[120], [121]] a6 (some ⟨w7.heap.size, 0, none⟩) 2 2 c6 2 (w7.alloc (.cells #[.string (bs [120]), .string (bs [121])] 9)) (HT7.out.on (box_below _ _)) (txt_new w7 [[120], [121]] (by decide)))
  rw [show decide ([[120], [121]] = ([[120], [121]] : List (List UInt8))) = true from by decide] at HS2
  go_wp2_with fail
  refine HS2.out.mono ?_
  rintro e w8 ⟨rfl, hb8⟩
  have HB8 := Lib.hid ((HB7.out.alloc HB7.out.size _).trans (hb8.mono (by have := HB7.out.size; simp; omega)))
  clear hb8
  go_wp2
  go_ret
  exact ⟨rfl, HB8.out⟩

end Go.Proofs.Ytiliobfgmelncaa
