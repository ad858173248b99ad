/- ShpCheck, ShpRefSame, ShpBound, put together. -/
import Derived.Test.YtdnfaoanaehjhaaGreatDoorH7
import Derived.Test.YtdnfaoanaehjhaaGreatDoorH4
import Derived.Test.YtdnfaoanaehjhaaGreatDoorH6

/- Which tables are right: package table's Check, for every table. -/
namespace Go.Proofs.YtdnfaoanaehjhaaGreatDoor
open Go.RowKit Go.Shelf

/- where a table's two slices stand in a box of their own -/
def TabIn (w : World) (vs rs : Value) (wr : World) : Prop := wr.cell? ⟨w.heap.size, 0, none⟩ = some vs ∧ wr.cell? ⟨w.heap.size, 1, none⟩ = some rs ∧ Below w.heap.size w wr ∧ w.heap.size < wr.heap.size
theorem TabIn.on {w wr wr' : World} {vs rs : Value} (h : TabIn w vs rs wr) (hb : Below wr.heap.size wr wr') : TabIn w vs rs wr' := by
  obtain ⟨h0, h1, h2, h3⟩ := h
  exact ⟨(hb.cell (p := ⟨_, _, none⟩) h3).trans h0, (hb.cell (p := ⟨_, _, none⟩) h3).trans h1, h2.trans (hb.mono (Nat.le_of_lt h3)), Nat.lt_of_lt_of_le h3 hb.size⟩
theorem TabIn.new (w : World) (vs rs : Value) (T : TypeId) : TabIn w vs rs (w.alloc (.cells #[vs, rs] T)) := by
  have hb := blk_new w T #[vs, rs]
  exact ⟨by rw [blk_cell hb]; rfl, by rw [blk_cell hb]; rfl, box_below _ _, by simp⟩
theorem all_any {α : Type} (p : α → Bool) (l : List α) : l.all p = !l.any fun x => !p x := by
  induction l with
  | nil => rfl
  | cons x r ih => rw [List.all_cons, List.any_cons, ih, Bool.not_or, Bool.not_not]

set_option maxHeartbeats 1000000 in
theorem areVars1_calls (x : List UInt8) (hx : okS x) (w : World) : Calls Tryz.prog 87 #[.string (bs x)] w fun e w' => e = .returned (.bool (!nameL x)) ∧ Below w.heap.size w w' := by
  have HC := Lib.hid (fun W => IsName_calls (bs x) W hx)
  simp only [bs_data] at HC
  clear hx
  go_enter Tryz.func87, Tryz.ntmps87
  go_wp2_with fail
  refine (HC.out _).mono ?_
  rintro e w1 ⟨rfl, hb1⟩
  have HB := Lib.hid hb1
  clear hb1
  go_wp2
  go_ret
  exact ⟨rfl, HB.out⟩

def varsB (V : List (List UInt8)) : Bool := decide (V.length ≤ 32) && namesB [] V
set_option maxRecDepth 100000 in
set_option maxHeartbeats 2000000 in
theorem areVars_calls (V : List (List UInt8)) (hV : ∀ x ∈ V, okS x) (a : Option Addr) (n c : Nat) (w : World) (h : TxtA w a n c V) :
    Calls Tryz.prog 58 #[.slice a n c] w fun e w' => e = .returned (.bool (varsB V)) ∧ Below w.heap.size w w' := by
  have eg : ∀ args w, (callFunc 87 args).run Tryz.prog w = .ok (.enter 87 args) w := enters_of Tryz.func87 (by kernel_rfl) rfl
  have HC := Lib.hid (tcols_calls V hV a n c w h)
  have HH := Lib.hid (fun W h => hasS_calls V (fun x => !nameL x) 87 #[] eg a n c W h (fun W j hj _ => areVars1_calls V[j] (hV _ (List.getElem_mem hj)) W))
  have HIN := Lib.hid h
  have HL := Lib.hid h.len
  have HA := Lib.hid (all_any nameL V)
  have HN := Lib.hid (names_is V)
  have HCL := Lib.hid (cnt_le V)
  have HCN := Lib.hid (cnt_nodup V)
  have hcp := h.cap
  have hms := h.most
  unfold maxLen at hms
  clear h hV eg
  by_cases h32 : 32 < n
  · have g1 : (32 : Int) < (n : Int) := by omega
    have HE := Lib.hid (show varsB V = false by unfold varsB; rw [HL.out, decide_eq_false (by omega)]; rfl)
    go_enter Tryz.func58, Tryz.ntmps58
    go_wp2
    go_ret
    exact ⟨by rw [HE.out]; rfl, Below.refl _ _⟩
  · have g1 : ¬ (32 : Int) < (n : Int) := by omega
    go_enter Tryz.func58, Tryz.ntmps58
    go_wp2_with fail
    refine HC.out.mono ?_
    rintro e w1 ⟨b, rfl, hbw, hm, hb1⟩
    have hlen := fun ty => run_len_g Tryz.underlying62 hm ty
    have HB := Lib.hid hb1
    clear hb1 hm hbw
    obtain ⟨s, hs⟩ : ∃ s, cntL V = s := ⟨_, rfl⟩
    rw [hs] at hlen
    by_cases hd : s < n
    · have hd1 : decide (s < n) = true := decide_eq_true hd
      have HE := Lib.hid (show varsB V = false by
        unfold varsB
        rw [HN.out, decide_eq_false (show ¬ V.Nodup from fun c => by have := HCN.out.2 c; rw [HL.out] at this; omega)]; simp)
      clear hs hd
      go_wp2
      go_ret
      exact ⟨by rw [HE.out]; rfl, HB.out⟩
    · have hd1 : decide (s < n) = false := decide_eq_false hd
      have HE := Lib.hid (show varsB V = !(V.any fun x => !nameL x) by
        unfold varsB
        rw [HN.out, HA.out, HL.out, decide_eq_true (by omega), decide_eq_true (HCN.out.1 (by have := HCL.out; rw [HL.out] at this ⊢; omega))]; simp)
      have HH1 := Lib.hid (HH.out w1 (HIN.out.on HB.out))
      clear hs hd
      generalize (V.any fun x => !nameL x) = q at HE HH1
      go_wp2_with fail
      refine HH1.out.mono ?_
      rintro e w2 ⟨rfl, hb2⟩
      have HB2 := Lib.hid (bnext HB.out hb2)
      clear hb2 hlen
      go_wp2
      go_ret
      exact ⟨by rw [HE.out]; rfl, HB2.out⟩

set_option maxRecDepth 100000 in
set_option maxHeartbeats 2000000 in
theorem isRow1_calls (t : TermL) (ht : t.ok) (w : World) : Calls Tryz.prog 90 #[t.v] w fun e w' => e = .returned (.bool (!cellT t)) ∧ Below w.heap.size w w' := by
  have HT := Lib.hid ht
  clear ht
  have HV := Lib.hid (show cellT t = (rightL t.k t.x t.y t.z && !decide (t.k = 4)) from rfl)
  obtain ⟨k, x, y, z⟩ := t
  simp only [TermL.v]
  dsimp only at HV
  by_cases h4 : k = 4
  · subst h4
    go_enter Tryz.func90, Tryz.ntmps90
    go_wp2
    go_ret
    exact ⟨by rw [HV.out]; simp, box_below _ _⟩
  · have g4 : (k == 4) = false := beq_eq_false_iff_ne.2 h4
    have HC := Lib.hid (fun W => Check_calls k (bs x) (bs y) (bs z) W HT.out.1 HT.out.2.1 HT.out.2.2)
    simp only [bs_data] at HC
    replace HV := Lib.hid (HV.out.trans (show _ = rightL k x y z by rw [decide_eq_false h4]; simp))
    cases hr : rightL k x y z with
    | true =>
      rw [hr] at HC HV
      have e0 : formZ true = 0 := rfl
      rw [e0] at HC
      clear hr h4 e0
      go_enter Tryz.func90, Tryz.ntmps90
      go_wp2_with fail
      refine (HC.out _).mono ?_
      rintro e w1 ⟨rfl, hb1⟩
      have HB := Lib.hid (one_box hb1)
      clear hb1
      go_wp2
      go_ret
      exact ⟨by rw [HV.out]; rfl, HB.out⟩
    | false =>
      rw [hr] at HC HV
      have e0 : formZ false = 2 := rfl
      rw [e0] at HC
      clear hr h4 e0
      go_enter Tryz.func90, Tryz.ntmps90
      go_wp2_with fail
      refine (HC.out _).mono ?_
      rintro e w1 ⟨rfl, hb1⟩
      have HB := Lib.hid (one_box hb1)
      clear hb1
      go_wp2
      go_ret
      exact ⟨by rw [HV.out]; rfl, HB.out⟩

set_option maxRecDepth 100000 in
set_option maxHeartbeats 2000000 in
theorem isRow_calls (r : List TermL) (hok : ∀ t ∈ r, t.ok) (a : Option Addr) (q c n : Nat) (w : World) (h : TrmA w a q c r) : Calls Tryz.prog 61 #[.slice a q c, .int .i64 n] w fun e w' => e = .returned (.bool (rowT n r)) ∧ Below w.heap.size w w' := by
  have eg : ∀ args w, (callFunc 90 args).run Tryz.prog w = .ok (.enter 90 args) w := enters_of Tryz.func90 (by kernel_rfl) rfl
  have HC := Lib.hid (hasT_calls r (fun t => !cellT t) 90 #[] eg a q c w h (fun W j hj _ => isRow1_calls r[j] (hok _ (List.getElem_mem hj)) W))
  have HA := Lib.hid (all_any cellT r)
  have HZ := Lib.hid (show rowT n r = (decide (r.length = n) && r.all cellT) from rfl)
  rw [h.len, HA.out] at HZ
  clear h hok eg
  by_cases hn : q = n
  · rw [decide_eq_true hn] at HZ
    have hne : ((q : Int) == (n : Int)) = true := by rw [hn]; simp
    clear hn
    generalize (r.any fun t => !cellT t) = b at HC HZ
    go_enter Tryz.func61, Tryz.ntmps61
    go_wp2_with fail
    refine HC.out.mono ?_
    rintro e w1 ⟨rfl, hb1⟩
    have HB := Lib.hid hb1
    clear hb1
    go_wp2
    go_ret
    exact ⟨by rw [HZ.out]; simp, HB.out⟩
  · rw [decide_eq_false hn] at HZ
    have hne : ((q : Int) == (n : Int)) = false := beq_eq_false_iff_ne.2 (by omega)
    clear hn
    go_enter Tryz.func61, Tryz.ntmps61
    go_wp2
    go_ret
    exact ⟨by rw [HZ.out]; rfl, Below.refl _ _⟩

set_option maxRecDepth 100000 in
set_option maxHeartbeats 2000000 in
theorem tCheck1_calls (r : List TermL) (hok : ∀ t ∈ r, t.ok) (X n vc : Nat) (va : Option Addr) (a : Option Addr) (c : Nat) (w : World) (hX : w.cell? ⟨X, 0, none⟩ = some (.slice va n vc)) (h : TrmA w a r.length c r) :
    Calls Tryz.prog 60 #[.slice a r.length c, .pointer (some ⟨X, 0, none⟩)] w fun e w' => e = .returned (.bool (!rowT n r)) ∧ Below w.heap.size w w' := by
  have HC := Lib.hid (isRow_calls r hok a r.length c n w h)
  clear h hok
  generalize r.length = q at HC
  generalize rowT n r = b at HC
  go_enter Tryz.func60, Tryz.ntmps60
  go_wp2_with fail
  refine HC.out.mono ?_
  rintro e w1 ⟨rfl, hb1⟩
  have HB := Lib.hid hb1
  clear hb1
  go_wp2
  go_ret
  exact ⟨rfl, HB.out⟩

theorem right_is (V : List (List UInt8)) (R : List (List TermL)) : rightT V R = (decide (R.length ≤ 4096) && varsB V && !R.any fun r => !rowT V.length r) := by
  unfold rightT varsB
  rw [all_any]
  cases decide (V.length ≤ 32) <;> cases decide (R.length ≤ 4096) <;> simp

set_option maxRecDepth 100000 in
set_option maxHeartbeats 4000000 in
theorem tCheck_calls (V : List (List UInt8)) (R : List (List TermL)) (hx : okV V) (hr : okR R) (tv : Value) (w : World) (ht : TabA w tv V R) :
    Calls Tryz.prog 26 #[tv] w fun e w' => e = .returned (.int .i64 (formZ (rightT V R))) ∧ Below w.heap.size w w' := by
  obtain ⟨va, n, vc, ra, m, rc, rfl, hV, hR⟩ := ht
  have eg : ∀ args w, (callFunc 60 args).run Tryz.prog w = .ok (.enter 60 args) w := enters_of Tryz.func60 (by kernel_rfl) rfl
  have HR := Lib.hid hR
  have HV := Lib.hid hV
  have HOK := Lib.hid hr
  have HRT := Lib.hid (right_is V R)
  have HVL := Lib.hid hV.len
  have HRL := Lib.hid hR.len
  have HAV := Lib.hid (fun W h => areVars_calls V hx va n vc W h)
  have hvc := hV.cap
  have hvm := hV.most
  have hrc := hR.cap
  have hrm := hR.most
  unfold maxLen at hvm hrm
  have HEG := Lib.hid eg
  clear hV hR hx hr eg
  rw [HVL.out, HRL.out] at HRT
  have HT0 := Lib.hid (fun T => TabIn.new w (.slice va n vc) (.slice ra m rc) T)
  by_cases h4 : 4096 < m
  · have g1 : (4096 : Int) < (m : Int) := by omega
    have HE := Lib.hid (show rightT V R = false by rw [HRT.out, decide_eq_false (by omega)]; rfl)
    go_enter Tryz.func26, Tryz.ntmps26
    go_wp2
    go_ret
    exact ⟨by rw [HE.out]; rfl, box_below _ _⟩
  have g1 : ¬ (4096 : Int) < (m : Int) := by omega
  replace HRT := Lib.hid (HRT.out.trans (show _ = (varsB V && !R.any fun r => !rowT n r) by rw [decide_eq_true (by omega)]; rfl))
  cases hq : varsB V with
  | false =>
    rw [hq] at HAV HRT
    clear hq
    go_enter Tryz.func26, Tryz.ntmps26
    go_wp2_with fail
    refine (HAV.out _ (HV.out.on (HT0.out _).2.2.1)).mono ?_
    rintro e w1 ⟨rfl, hb1⟩
    have HB := Lib.hid (one_box hb1)
    clear hb1
    go_wp2
    go_ret
    exact ⟨by rw [HRT.out]; rfl, HB.out⟩
  | true =>
    rw [hq] at HAV HRT
    clear hq
    go_enter Tryz.func26, Tryz.ntmps26
    go_wp2_with fail
    refine (HAV.out _ (HV.out.on (HT0.out _).2.2.1)).mono ?_
    rintro e w1 ⟨rfl, hb1⟩
    have HT := Lib.hid ((HT0.out _).on hb1)
    clear hb1
    obtain ⟨t0, t1, hbW, hXW⟩ := HT.out
    have HBW := Lib.hid hbW
    clear hbW
    have HC := Lib.hid (hasR_calls R (fun r => !rowT n r) 60 #[.pointer (some ⟨w.heap.size, 0, none⟩)] HEG.out ra m rc w1 (HR.out.on HBW.out) (fun W j hj a' c' hb ht => tCheck1_calls R[j] (HOK.out _ (List.getElem_mem hj)) w.heap.size n vc va a' c' W ((hb.cell (p := ⟨_, _, none⟩) hXW).trans t0) ht))
    generalize (R.any fun r => !rowT n r) = b at HC HRT
    go_wp2_with fail
    refine HC.out.mono ?_
    rintro e w2 ⟨rfl, hb2⟩
    have HB2 := Lib.hid (bnext HBW.out hb2)
    clear hb2 t0 t1 hXW
    cases b with
    | true =>
      go_wp2
      go_ret
      exact ⟨by rw [HRT.out]; rfl, HB2.out⟩
    | false =>
      go_wp2
      go_ret
      exact ⟨by rw [HRT.out]; rfl, HB2.out⟩

end Go.Proofs.YtdnfaoanaehjhaaGreatDoor

/- The document's In, SameTexts, SameRow, for slices wherever they begin (written by gen/mkrefsame12.py). -/
namespace Go.Proofs.YtdnfaoanaehjhaaGreatDoor
open Go.RowKit

theorem drew_below {B : Nat} {a w : World} (h : Below B a w) (n : Nat) : Below B a (w.drewN n) := ⟨h.os, h.tape, h.output, h.size, h.block⟩
set_option maxRecDepth 100000 in
theorem neq_terms (a b : TermL) (w : World) : (binOp .neq 37 a.v b.v).run Tryz.prog w = .ok (.bool (!decide (a = b))) w := by
  have h := eq_term 9998 a b w
  unfold TermL.v at h ⊢
  rw [run_neq_struct, h, teq_is]; rfl
set_option maxRecDepth 100000 in
set_option maxHeartbeats 2000000 in
theorem InA_calls (L : List (List UInt8)) (x : List UInt8) (a : Option Addr) (n c : Nat) (w : World) (h : TxtA w a n c L) :
    Calls Tryz.prog 39 #[.slice a n c, .string (bs x)] w fun e w' => e = .returned (.bool (decide (x ∈ L))) ∧ w' = w := by
  have hn := h.len
  have hc := h.cap
  have hm := h.most
  have HX := Lib.hid h.cells
  have HN := Lib.hid hn
  clear h hn
  unfold maxLen at hm
  go_enter Tryz.func39, Tryz.ntmps39
  go_wp2
  go_loop [5] (fun i => ∃ k : Nat, k ≤ n ∧ i = .int .i64 k ∧ Hid (¬ x ∈ L.take k)) (fun i => n - (intOf i).toNat)
  case atStart => exact ⟨0, Nat.zero_le _, rfl, by show ¬ _; simp⟩
  case round =>
    obtain ⟨k, hk, rfl, hno⟩ := hrel
    by_cases hlt : k < n
    · have hlt' : k < L.length := by rw [HN.out]; exact hlt
      obtain ⟨g, o, ha, hgw, hcells⟩ := HX.out (by omega)
      subst ha
      have hc := hcells k hlt'
      clear hcells
      have hts : x ∈ L.take (k + 1) ↔ x ∈ L.take k ∨ x = L[k] := by rw [List.take_succ_eq_append_getElem hlt', List.mem_append, List.mem_singleton]
      obtain ⟨y, hy⟩ : ∃ y, L[k] = y := ⟨_, rfl⟩
      rw [hy] at hc hts
      by_cases he : x = y
      · have HIN := Lib.hid (show decide (x ∈ L) = true from decide_eq_true (by rw [he, ← hy]; exact List.getElem_mem hlt'))
        have heq : (bs y).toList = (bs x).toList := by rw [he]
        clear hts hy he
        go_wp2
        go_ret
        exact ⟨ret_bool HIN.out.symm, rfl⟩
      · have HNX := Lib.hid (show ¬ x ∈ L.take (k + 1) from fun c => (hts.1 c).elim hno.out he)
        have hne : ((bs y).toList == (bs x).toList) = false := by rw [bs_toList, bs_toList]; exact beq_eq_false_iff_ne.2 (fun c => he c.symm)
        clear hts hy he
        go_wp2
        exact ⟨⟨k + 1, by omega, by go_num, HNX⟩, by simp [intOf]; omega⟩
    · have HIN := Lib.hid (show decide (x ∈ L) = false from decide_eq_false (by have := hno.out; rwa [List.take_of_length_le (by rw [HN.out]; omega)] at this))
      go_wp2
      go_ret
      exact ⟨ret_bool HIN.out.symm, rfl⟩

def SameR {α : Type} (L M : List α) (k : Nat) : Prop := L.take k = M.take k
theorem sameR_next {α : Type} {L M : List α} {k : Nat} (h : SameR L M k) (hl : k < L.length) (hm : k < M.length) (he : L[k] = M[k]) : SameR L M (k + 1) := by
  unfold SameR at *
  rw [List.take_succ_eq_append_getElem hl, List.take_succ_eq_append_getElem hm, h, he]
theorem sameR_end {α : Type} {L M : List α} {k : Nat} (h : SameR L M k) (hl : L.length ≤ k) (hm : M.length ≤ k) : L = M := by
  unfold SameR at h
  rwa [List.take_of_length_le hl, List.take_of_length_le hm] at h

set_option maxRecDepth 100000 in
set_option maxHeartbeats 4000000 in
theorem sameA_calls (L M : List (List UInt8)) (a b : Option Addr) (n m c d : Nat) (w : World) (h : TxtA w a n c L) (k : TxtA w b m d M) :
    Calls Tryz.prog 74 #[.slice a n c, .slice b m d] w fun e w' => e = .returned (.bool (decide (L = M))) ∧ Below w.heap.size w w' := by
  have HL := Lib.hid h.len
  have HM := Lib.hid k.len
  have HX := Lib.hid h.cells
  have HY := Lib.hid k.cells
  have c1 := h.cap
  have c2 := h.most
  have c3 := k.cap
  have c4 := k.most
  unfold maxLen at c2 c4
  clear h k
  by_cases hnm : n = m
  · subst hnm
    go_enter Tryz.func74, Tryz.ntmps74
    go_wp2
    go_loopg [5] n (fun g i wr => ∃ k : Nat, i = .int .i64 k ∧ k + g = n ∧ Hid (SameR L M k) ∧ Hid (Below w.heap.size w wr))
    case atStart => exact ⟨0, rfl, by omega, Lib.hid rfl, Lib.hid (Below.refl _ _)⟩
    case round =>
      obtain ⟨W1, rfl⟩ : ∃ W1, W1 = wr := ⟨_, rfl⟩
      obtain ⟨k, rfl, hkg, HR, HB⟩ := hrel
      by_cases hk : k < n
      · obtain ⟨gg, rfl⟩ : ∃ gg, gk = gg + 1 := ⟨gk - 1, by omega⟩
        have hkL : k < L.length := by rw [HL.out]; exact hk
        have hkM : k < M.length := by rw [HM.out]; exact hk
        obtain ⟨g, o, ha, hgw, hcells⟩ := HX.out (by omega)
        obtain ⟨g', o', ha', hgw', hcells'⟩ := HY.out (by omega)
        subst ha ha'
        have e0 := (HB.out.cell (p := ⟨g, o + k, none⟩) hgw).trans (hcells k hkL)
        have e1 := (HB.out.cell (p := ⟨g', o' + k, none⟩) hgw').trans (hcells' k hkM)
        have HNX := Lib.hid (fun h => sameR_next HR.out hkL hkM h)
        have HNE := Lib.hid (show L[k] ≠ M[k] → decide (L = M) = false from fun h => decide_eq_false (fun e => h (by subst e; rfl)))
        have k0 : (0 : Int) ≤ (k : Int) := by omega
        have k1 : (k : Int) < (n : Int) := by omega
        clear hcells hcells'
        generalize L[k] = x at e0 HNX HNE
        generalize M[k] = y at e1 HNX HNE
        by_cases he : x = y
        · have HN2 := Lib.hid (HNX.out he)
          have hne : ((bs x).toList != (bs y).toList) = false := by rw [he]; exact bne_self_eq_false _
          have heq : ((bs x).toList == (bs y).toList) = true := by rw [he]; exact beq_self_eq_true _
          subst he
          clear HNX HNE
          go_wp2
          all_goals (try go_quiet (fail))
          all_goals (try go_wp2)
          go_roundg gg
          case measure => omega
          case rel => exact ⟨k + 1, by go_num, by omega, HN2, by first | exact HB | exact Lib.hid (drew_below HB.out _)⟩
        · have HE := Lib.hid (HNE.out he)
          have hne : ((bs x).toList != (bs y).toList) = true := by rw [bs_toList, bs_toList]; exact bne_iff_ne.2 he
          have heq : ((bs x).toList == (bs y).toList) = false := by rw [bs_toList, bs_toList]; exact beq_eq_false_iff_ne.2 he
          clear HNX HNE he
          go_wp2
          all_goals (try go_quiet (fail))
          all_goals (try go_wp2)
          go_ret
          exact ⟨by rw [HE.out]; rfl, by first | exact HB.out | exact drew_below HB.out _⟩
      · have HE := Lib.hid (show decide (L = M) = true from decide_eq_true (sameR_end HR.out (by rw [HL.out]; omega) (by rw [HM.out]; omega)))
        have k1 : ¬ (k : Int) < (n : Int) := by omega
        go_wp2
        go_ret
        exact ⟨by rw [HE.out]; rfl, HB.out⟩
  · have HE := Lib.hid (show decide (L = M) = false from decide_eq_false (fun e => hnm (by rw [← HL.out, ← HM.out, e])))
    have hne : ((n : Int) != (m : Int)) = true := bne_iff_ne.2 (by omega)
    have hne2 : ((n : Int) == (m : Int)) = false := beq_eq_false_iff_ne.2 (by omega)
    go_enter Tryz.func74, Tryz.ntmps74
    go_wp2
    go_ret
    exact ⟨by rw [HE.out]; rfl, Below.refl _ _⟩

set_option maxRecDepth 100000 in
set_option maxHeartbeats 4000000 in
theorem rowSame_calls (L M : List TermL) (a b : Option Addr) (n m c d : Nat) (w : World) (h : TrmA w a n c L) (k : TrmA w b m d M) :
    Calls Tryz.prog 75 #[.slice a n c, .slice b m d] w fun e w' => e = .returned (.bool (decide (L = M))) ∧ Below w.heap.size w w' := by
  have HL := Lib.hid h.len
  have HM := Lib.hid k.len
  have HX := Lib.hid h.cells
  have HY := Lib.hid k.cells
  have c1 := h.cap
  have c2 := h.most
  have c3 := k.cap
  have c4 := k.most
  unfold maxLen at c2 c4
  clear h k
  by_cases hnm : n = m
  · subst hnm
    go_enter Tryz.func75, Tryz.ntmps75
    go_wp2
    go_loopg [5] n (fun g i wr => ∃ k : Nat, i = .int .i64 k ∧ k + g = n ∧ Hid (SameR L M k) ∧ Hid (Below w.heap.size w wr))
    case atStart => exact ⟨0, rfl, by omega, Lib.hid rfl, Lib.hid (Below.refl _ _)⟩
    case round =>
      obtain ⟨W1, rfl⟩ : ∃ W1, W1 = wr := ⟨_, rfl⟩
      obtain ⟨k, rfl, hkg, HR, HB⟩ := hrel
      by_cases hk : k < n
      · obtain ⟨gg, rfl⟩ : ∃ gg, gk = gg + 1 := ⟨gk - 1, by omega⟩
        have hkL : k < L.length := by rw [HL.out]; exact hk
        have hkM : k < M.length := by rw [HM.out]; exact hk
        obtain ⟨g, o, ha, hgw, hcells⟩ := HX.out (by omega)
        obtain ⟨g', o', ha', hgw', hcells'⟩ := HY.out (by omega)
        subst ha ha'
        obtain ⟨c0, c1, c2, c3⟩ := (hcells k hkL).on HB.out hgw
        obtain ⟨d0, d1, d2, d3⟩ := (hcells' k hkM).on HB.out hgw'
        have HNX := Lib.hid (fun h => sameR_next HR.out hkL hkM h)
        have HNE := Lib.hid (show L[k] ≠ M[k] → decide (L = M) = false from fun h => decide_eq_false (fun e => h (by subst e; rfl)))
        have k0 : (0 : Int) ≤ (k : Int) := by omega
        have k1 : (k : Int) < (n : Int) := by omega
        clear hcells hcells'
        generalize L[k] = x at c0 c1 c2 c3 HNX HNE
        generalize M[k] = y at d0 d1 d2 d3 HNX HNE
        by_cases he : x = y
        · have HN2 := Lib.hid (HNX.out he)
          have HNQ := fun W => neq_terms x y W
          rw [decide_eq_true he] at HNQ
          unfold TermL.v at HNQ
          clear HNX HNE
          go_wp2
          all_goals (try go_quiet (fail))
          all_goals (try go_wp2)
          go_roundg gg
          case measure => omega
          case rel => exact ⟨k + 1, by go_num, by omega, HN2, by first | exact HB | exact Lib.hid (drew_below HB.out _)⟩
        · have HE := Lib.hid (HNE.out he)
          have HNQ := fun W => neq_terms x y W
          rw [decide_eq_false he] at HNQ
          unfold TermL.v at HNQ
          clear HNX HNE he
          go_wp2
          all_goals (try go_quiet (fail))
          all_goals (try go_wp2)
          go_ret
          exact ⟨by rw [HE.out]; rfl, by first | exact HB.out | exact drew_below HB.out _⟩
      · have HE := Lib.hid (show decide (L = M) = true from decide_eq_true (sameR_end HR.out (by rw [HL.out]; omega) (by rw [HM.out]; omega)))
        have k1 : ¬ (k : Int) < (n : Int) := by omega
        go_wp2
        go_ret
        exact ⟨by rw [HE.out]; rfl, HB.out⟩
  · have HE := Lib.hid (show decide (L = M) = false from decide_eq_false (fun e => hnm (by rw [← HL.out, ← HM.out, e])))
    have hne : ((n : Int) != (m : Int)) = true := bne_iff_ne.2 (by omega)
    have hne2 : ((n : Int) == (m : Int)) = false := beq_eq_false_iff_ne.2 (by omega)
    go_enter Tryz.func75, Tryz.ntmps75
    go_wp2
    go_ret
    exact ⟨by rw [HE.out]; rfl, Below.refl _ _⟩

end Go.Proofs.YtdnfaoanaehjhaaGreatDoor

/- What a variable is bound to in a row, by the document. -/
namespace Go.Proofs.YtdnfaoanaehjhaaGreatDoor
open Go.RowKit

def boundP (V : List (List UInt8)) (r : RowL) (x : List UInt8) : TermL := match placeP V x with
  | some i => r.getD i nilT
  | none => nilT
theorem bound_at {V : List (List UInt8)} {r : RowL} {x : List UInt8} {k : Nat} (hk : k < V.length) (hr : k < r.length) (hx : V[k] = x) (hn : ¬ x ∈ V.take k) : boundP V r x = r[k] := by
  have hp : placeP V x = some k := place_first hk hx (fun j hj e => hn (by rw [← e]; exact List.mem_iff_getElem.2 ⟨j, by rw [List.length_take]; omega, by rw [List.getElem_take]⟩))
  unfold boundP
  rw [hp]
  dsimp only
  rw [List.getD_eq_getElem?_getD, List.getElem?_eq_getElem hr]
  rfl
theorem bound_out {V : List (List UInt8)} {r : RowL} {x : List UInt8} {k : Nat} (hn : ¬ x ∈ V.take k) (h : V.length ≤ k ∨ r.length ≤ k) : boundP V r x = nilT := by
  unfold boundP
  cases hp : placeP V x with
  | none => rfl
  | some i =>
    obtain ⟨hi, e⟩ := place_lt hp
    dsimp only
    have hki : k ≤ i := Nat.le_of_not_lt (fun c => hn (by rw [← e]; exact List.mem_iff_getElem.2 ⟨i, by rw [List.length_take]; omega, by rw [List.getElem_take]⟩))
    rw [List.getD_eq_getElem?_getD, List.getElem?_eq_none (by omega)]
    rfl

set_option maxRecDepth 100000 in
set_option maxHeartbeats 4000000 in
theorem bound_calls (x : List UInt8) (V : List (List UInt8)) (r : RowL) (va : Option Addr) (n vc : Nat) (ra : Option Addr) (q rc : Nat) (w : World) (hV : TxtA w va n vc V) (hr : TrmA w ra q rc r) :
    Calls Tryz.prog 24 #[.string (bs x), .slice va n vc, .slice ra q rc] w fun e w' => e = .returned (boundP V r x).v ∧ Below w.heap.size w w' := by
  have HV := Lib.hid hV
  have HR := Lib.hid hr
  have HVL := Lib.hid hV.len
  have HRL := Lib.hid hr.len
  have c1 := hV.cap
  have c2 := hV.most
  have c3 := hr.cap
  have c4 := hr.most
  unfold maxLen at c2 c4
  have HAT := Lib.hid (fun k (hk : k < V.length) (hq : k < r.length) => bound_at (x := x) hk hq)
  have HOUT := Lib.hid (fun k => bound_out (V := V) (r := r) (x := x) (k := k))
  generalize boundP V r x = Z at HAT HOUT ⊢
  clear hV hr
  go_enter Tryz.func24, Tryz.ntmps24
  go_wp2
  go_loop [7] (fun i => ∃ k : Nat, k ≤ n ∧ i = .int .i64 k ∧ Hid (¬ x ∈ V.take k)) (fun i => n - (intOf i).toNat)
  case atStart => exact ⟨0, Nat.zero_le _, rfl, by show ¬ _; simp⟩
  case round =>
    obtain ⟨k, hk, rfl, hno⟩ := hrel
    have k0 : (0 : Int) ≤ (k : Int) := by omega
    by_cases hlt : k < n
    · have k1 : (k : Int) < (n : Int) := by omega
      by_cases hlq : k < q
      · have k2 : (k : Int) < (q : Int) := by omega
        have hkV : k < V.length := by rw [HVL.out]; exact hlt
        have hkR : k < r.length := by rw [HRL.out]; exact hlq
        obtain ⟨g, o, ha, hgw, hcells⟩ := HV.out.cells (by omega)
        obtain ⟨g', o', ha', hgw', hcells'⟩ := HR.out.cells (by omega)
        subst ha ha'
        have c0 := hcells k hkV
        obtain ⟨d0, d1, d2, d3⟩ := hcells' k hkR
        have HA2 := Lib.hid (HAT.out k hkV hkR)
        have hts : x ∈ V.take (k + 1) ↔ x ∈ V.take k ∨ x = V[k] := by rw [List.take_succ_eq_append_getElem hkV, List.mem_append, List.mem_singleton]
        clear hcells hcells' HAT
        generalize V[k] = y at c0 HA2 hts
        generalize r[k] = t at d0 d1 d2 d3 HA2
        obtain ⟨tk, tx, ty, tz⟩ := t
        dsimp only at d0 d1 d2 d3
        by_cases he : y = x
        · have HE := Lib.hid (HA2.out he hno.out)
          have heq : (bs y).toList = (bs x).toList := by rw [he]
          clear hts HA2 HOUT he
          go_wp2
          refine bodyPost_ret (v := .agg #[.int .i64 tk, .string (bs tx), .string (bs ty), .string (bs tz)]) (by simp [results, Tryz.results24, go_sem]) rfl ⟨by rw [HE.out]; rfl, ?_⟩
          repeat (with_reducible (first | exact box_below _ _ | refine Below.setCell ?_ (by simp) _))
        · have HNX := Lib.hid (show ¬ x ∈ V.take (k + 1) from fun c => (hts.1 c).elim hno.out (fun e => he e.symm))
          have hne : ((bs y).toList == (bs x).toList) = false := by rw [bs_toList, bs_toList]; exact beq_eq_false_iff_ne.2 he
          clear hts HA2 HOUT he
          go_wp2
          exact ⟨⟨k + 1, by omega, by go_num, HNX⟩, by simp [intOf]; omega⟩
      · have k2 : ¬ (k : Int) < (q : Int) := by omega
        have HE := Lib.hid (HOUT.out k hno.out (.inr (by rw [HRL.out]; omega)))
        clear HOUT HAT
        go_wp2
        refine bodyPost_ret (v := nilT.v) (by simp [results, Tryz.results24, go_sem]; rfl) rfl ⟨by rw [HE.out], ?_⟩
        repeat (with_reducible (first | exact box_below _ _ | refine Below.setCell ?_ (by simp) _))
    · have k1 : ¬ (k : Int) < (n : Int) := by omega
      have HE := Lib.hid (HOUT.out k hno.out (.inl (by rw [HVL.out]; omega)))
      clear HOUT HAT
      go_wp2
      refine bodyPost_ret (v := nilT.v) (by simp [results, Tryz.results24, go_sem]; rfl) rfl ⟨by rw [HE.out], ?_⟩
      repeat (with_reducible (first | exact box_below _ _ | refine Below.setCell ?_ (by simp) _))

end Go.Proofs.YtdnfaoanaehjhaaGreatDoor
