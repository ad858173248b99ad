/- Which tables are right: package table's Check, for every table. -/
import Derived.Test.YtkfemnjblbnclaaGreatDoorGMap
import Derived.Test.YtkfemnjblbnclaaGreatDoorShpIdx
import Derived.Test.YtkfemnjblbnclaaGreatDoorGTerm
namespace Go.Proofs.YtkfemnjblbnclaaGreatDoor
open Go.RowKit Go.Shelf

/- where a table's two slices stand in a box of their own -/
def TabIn (w : World) (vs rs : Value) (wr : World) : Prop := wr.cell? ⟨w.heap.size, 0, none⟩ = some vs ∧ wr.cell? ⟨w.heap.size, 1, none⟩ = some rs ∧ Below w.heap.size w wr ∧ w.heap.size < wr.heap.size
theorem TabIn.on {w wr wr' : World} {vs rs : Value} (h : TabIn w vs rs wr) (hb : Below wr.heap.size wr wr') : TabIn w vs rs wr' := by
  obtain ⟨h0, h1, h2, h3⟩ := h
  exact ⟨(hb.cell (p := ⟨_, _, none⟩) h3).trans h0, (hb.cell (p := ⟨_, _, none⟩) h3).trans h1, h2.trans (hb.mono (Nat.le_of_lt h3)), Nat.lt_of_lt_of_le h3 hb.size⟩
theorem TabIn.new (w : World) (vs rs : Value) (T : TypeId) : TabIn w vs rs (w.alloc (.cells #[vs, rs] T)) := by
  have hb := blk_new w T #[vs, rs]
  exact ⟨by rw [blk_cell hb]; rfl, by rw [blk_cell hb]; rfl, box_below _ _, by simp⟩
theorem all_any {α : Type} (p : α → Bool) (l : List α) : l.all p = !l.any fun x => !p x := by
  induction l with
  | nil => rfl
  | cons x r ih => rw [List.all_cons, List.any_cons, ih, Bool.not_or, Bool.not_not]

set_option maxHeartbeats 1000000 in
theorem areVars1_calls (x : List UInt8) (hx : okS x) (w : World) : Calls Tryz.prog 89 #[.string (bs x)] w fun e w' => e = .returned (.bool (!nameL x)) ∧ Below w.heap.size w w' := by
  have HC := Lib.hid (fun W => IsName_calls (bs x) W hx)
  simp only [bs_data] at HC
  clear hx
  go_enter Tryz.func89, Tryz.ntmps89
  go_wp2_with fail
  refine (HC.out _).mono ?_
  rintro e w1 ⟨rfl, hb1⟩
  have HB := Lib.hid hb1
  clear hb1
  go_wp2
  go_ret
  exact ⟨rfl, HB.out⟩

def varsB (V : List (List UInt8)) : Bool := decide (V.length ≤ 32) && namesB [] V
set_option maxRecDepth 100000 in
set_option maxHeartbeats 2000000 in
theorem areVars_calls (V : List (List UInt8)) (hV : ∀ x ∈ V, okS x) (a : Option Addr) (n c : Nat) (w : World) (h : TxtA w a n c V) :
    Calls Tryz.prog 69 #[.slice a n c] w fun e w' => e = .returned (.bool (varsB V)) ∧ Below w.heap.size w w' := by
  have eg : ∀ args w, (callFunc 89 args).run Tryz.prog w = .ok (.enter 89 args) w := enters_of Tryz.func89 (by kernel_rfl) rfl
  have HC := Lib.hid (tcols_calls V hV a n c w h)
  have HH := Lib.hid (fun W h => hasS_calls V (fun x => !nameL x) 89 #[] eg a n c W h (fun W j hj _ => areVars1_calls V[j] (hV _ (List.getElem_mem hj)) W))
  have HIN := Lib.hid h
  have HL := Lib.hid h.len
  have HA := Lib.hid (all_any nameL V)
  have HN := Lib.hid (names_is V)
  have HCL := Lib.hid (cnt_le V)
  have HCN := Lib.hid (cnt_nodup V)
  have hcp := h.cap
  have hms := h.most
  unfold maxLen at hms
  clear h hV eg
  by_cases h32 : 32 < n
  · have g1 : (32 : Int) < (n : Int) := by omega
    have HE := Lib.hid (show varsB V = false by unfold varsB; rw [HL.out, decide_eq_false (by omega)]; rfl)
    go_enter Tryz.func69, Tryz.ntmps69
    go_wp2
    go_ret
    exact ⟨by rw [HE.out]; rfl, Below.refl _ _⟩
  · have g1 : ¬ (32 : Int) < (n : Int) := by omega
    go_enter Tryz.func69, Tryz.ntmps69
    go_wp2_with fail
    refine HC.out.mono ?_
    rintro e w1 ⟨b, rfl, hbw, hm, hb1⟩
    have hlen := fun ty => run_len_g Tryz.underlying87 hm ty
    have HB := Lib.hid hb1
    clear hb1 hm hbw
    obtain ⟨s, hs⟩ : ∃ s, cntL V = s := ⟨_, rfl⟩
    rw [hs] at hlen
    by_cases hd : s < n
    · have hd1 : decide (s < n) = true := decide_eq_true hd
      have HE := Lib.hid (show varsB V = false by
        unfold varsB
        rw [HN.out, decide_eq_false (show ¬ V.Nodup from fun c => by have := HCN.out.2 c; rw [HL.out] at this; omega)]; simp)
      clear hs hd
      go_wp2
      go_ret
      exact ⟨by rw [HE.out]; rfl, HB.out⟩
    · have hd1 : decide (s < n) = false := decide_eq_false hd
      have HE := Lib.hid (show varsB V = !(V.any fun x => !nameL x) by
        unfold varsB
        rw [HN.out, HA.out, HL.out, decide_eq_true (by omega), decide_eq_true (HCN.out.1 (by have := HCL.out; rw [HL.out] at this ⊢; omega))]; simp)
      have HH1 := Lib.hid (HH.out w1 (HIN.out.on HB.out))
      clear hs hd
      generalize (V.any fun x => !nameL x) = q at HE HH1
      go_wp2_with fail
      refine HH1.out.mono ?_
      rintro e w2 ⟨rfl, hb2⟩
      have HB2 := Lib.hid (bnext HB.out hb2)
      clear hb2 hlen
      go_wp2
      go_ret
      exact ⟨by rw [HE.out]; rfl, HB2.out⟩

set_option maxRecDepth 100000 in
set_option maxHeartbeats 2000000 in
theorem isRow1_calls (t : TermL) (ht : t.ok) (w : World) : Calls Tryz.prog 93 #[t.v] w fun e w' => e = .returned (.bool (!cellT t)) ∧ Below w.heap.size w w' := by
  have HT := Lib.hid ht
  clear ht
  have HV := Lib.hid (show cellT t = (rightL t.k t.x t.y t.z && !decide (t.k = 4)) from rfl)
  obtain ⟨k, x, y, z⟩ := t
  simp only [TermL.v]
  dsimp only at HV
  by_cases h4 : k = 4
  · subst h4
    go_enter Tryz.func93, Tryz.ntmps93
    go_wp2
    go_ret
    exact ⟨by rw [HV.out]; simp, box_below _ _⟩
  · have g4 : (k == 4) = false := beq_eq_false_iff_ne.2 h4
    have HC := Lib.hid (fun W => Check_calls k (bs x) (bs y) (bs z) W HT.out.1 HT.out.2.1 HT.out.2.2)
    simp only [bs_data] at HC
    replace HV := Lib.hid (HV.out.trans (show _ = rightL k x y z by rw [decide_eq_false h4]; simp))
    cases hr : rightL k x y z with
    | true =>
      rw [hr] at HC HV
      have e0 : formZ true = 0 := rfl
      rw [e0] at HC
      clear hr h4 e0
      go_enter Tryz.func93, Tryz.ntmps93
      go_wp2_with fail
      refine (HC.out _).mono ?_
      rintro e w1 ⟨rfl, hb1⟩
      have HB := Lib.hid (one_box hb1)
      clear hb1
      go_wp2
      go_ret
      exact ⟨by rw [HV.out]; rfl, HB.out⟩
    | false =>
      rw [hr] at HC HV
      have e0 : formZ false = 2 := rfl
      rw [e0] at HC
      clear hr h4 e0
      go_enter Tryz.func93, Tryz.ntmps93
      go_wp2_with fail
      refine (HC.out _).mono ?_
      rintro e w1 ⟨rfl, hb1⟩
      have HB := Lib.hid (one_box hb1)
      clear hb1
      go_wp2
      go_ret
      exact ⟨by rw [HV.out]; rfl, HB.out⟩

set_option maxRecDepth 100000 in
set_option maxHeartbeats 2000000 in
theorem isRow_calls (r : List TermL) (hok : ∀ t ∈ r, t.ok) (a : Option Addr) (q c n : Nat) (w : World) (h : TrmA w a q c r) : Calls Tryz.prog 72 #[.slice a q c, .int .i64 n] w fun e w' => e = .returned (.bool (rowT n r)) ∧ Below w.heap.size w w' := by
  have eg : ∀ args w, (callFunc 93 args).run Tryz.prog w = .ok (.enter 93 args) w := enters_of Tryz.func93 (by kernel_rfl) rfl
  have HC := Lib.hid (hasT_calls r (fun t => !cellT t) 93 #[] eg a q c w h (fun W j hj _ => isRow1_calls r[j] (hok _ (List.getElem_mem hj)) W))
  have HA := Lib.hid (all_any cellT r)
  have HZ := Lib.hid (show rowT n r = (decide (r.length = n) && r.all cellT) from rfl)
  rw [h.len, HA.out] at HZ
  clear h hok eg
  by_cases hn : q = n
  · rw [decide_eq_true hn] at HZ
    have hne : ((q : Int) == (n : Int)) = true := by rw [hn]; simp
    clear hn
    generalize (r.any fun t => !cellT t) = b at HC HZ
    go_enter Tryz.func72, Tryz.ntmps72
    go_wp2_with fail
    refine HC.out.mono ?_
    rintro e w1 ⟨rfl, hb1⟩
    have HB := Lib.hid hb1
    clear hb1
    go_wp2
    go_ret
    exact ⟨by rw [HZ.out]; simp, HB.out⟩
  · rw [decide_eq_false hn] at HZ
    have hne : ((q : Int) == (n : Int)) = false := beq_eq_false_iff_ne.2 (by omega)
    clear hn
    go_enter Tryz.func72, Tryz.ntmps72
    go_wp2
    go_ret
    exact ⟨by rw [HZ.out]; rfl, Below.refl _ _⟩

set_option maxRecDepth 100000 in
set_option maxHeartbeats 2000000 in
theorem tCheck1_calls (r : List TermL) (hok : ∀ t ∈ r, t.ok) (X n vc : Nat) (va : Option Addr) (a : Option Addr) (c : Nat) (w : World) (hX : w.cell? ⟨X, 0, none⟩ = some (.slice va n vc)) (h : TrmA w a r.length c r) :
    Calls Tryz.prog 71 #[.slice a r.length c, .pointer (some ⟨X, 0, none⟩)] w fun e w' => e = .returned (.bool (!rowT n r)) ∧ Below w.heap.size w w' := by
  have HC := Lib.hid (isRow_calls r hok a r.length c n w h)
  clear h hok
  generalize r.length = q at HC
  generalize rowT n r = b at HC
  go_enter Tryz.func71, Tryz.ntmps71
  go_wp2_with fail
  refine HC.out.mono ?_
  rintro e w1 ⟨rfl, hb1⟩
  have HB := Lib.hid hb1
  clear hb1
  go_wp2
  go_ret
  exact ⟨rfl, HB.out⟩

theorem right_is (V : List (List UInt8)) (R : List (List TermL)) : rightT V R = (decide (R.length ≤ 4096) && varsB V && !R.any fun r => !rowT V.length r) := by
  unfold rightT varsB
  rw [all_any]
  cases decide (V.length ≤ 32) <;> cases decide (R.length ≤ 4096) <;> simp

set_option maxRecDepth 100000 in
set_option maxHeartbeats 4000000 in
theorem tCheck_calls (V : List (List UInt8)) (R : List (List TermL)) (hx : okV V) (hr : okR R) (tv : Value) (w : World) (ht : TabA w tv V R) :
    Calls Tryz.prog 44 #[tv] w fun e w' => e = .returned (.int .i64 (formZ (rightT V R))) ∧ Below w.heap.size w w' := by
  obtain ⟨va, n, vc, ra, m, rc, rfl, hV, hR⟩ := ht
  have eg : ∀ args w, (callFunc 71 args).run Tryz.prog w = .ok (.enter 71 args) w := enters_of Tryz.func71 (by kernel_rfl) rfl
  have HR := Lib.hid hR
  have HV := Lib.hid hV
  have HOK := Lib.hid hr
  have HRT := Lib.hid (right_is V R)
  have HVL := Lib.hid hV.len
  have HRL := Lib.hid hR.len
  have HAV := Lib.hid (fun W h => areVars_calls V hx va n vc W h)
  have hvc := hV.cap
  have hvm := hV.most
  have hrc := hR.cap
  have hrm := hR.most
  unfold maxLen at hvm hrm
  have HEG := Lib.hid eg
  clear hV hR hx hr eg
  rw [HVL.out, HRL.out] at HRT
  have HT0 := Lib.hid (fun T => TabIn.new w (.slice va n vc) (.slice ra m rc) T)
  by_cases h4 : 4096 < m
  · have g1 : (4096 : Int) < (m : Int) := by omega
    have HE := Lib.hid (show rightT V R = false by rw [HRT.out, decide_eq_false (by omega)]; rfl)
    go_enter Tryz.func44, Tryz.ntmps44
    go_wp2
    go_ret
    exact ⟨by rw [HE.out]; rfl, box_below _ _⟩
  have g1 : ¬ (4096 : Int) < (m : Int) := by omega
  replace HRT := Lib.hid (HRT.out.trans (show _ = (varsB V && !R.any fun r => !rowT n r) by rw [decide_eq_true (by omega)]; rfl))
  cases hq : varsB V with
  | false =>
    rw [hq] at HAV HRT
    clear hq
    go_enter Tryz.func44, Tryz.ntmps44
    go_wp2_with fail
    refine (HAV.out _ (HV.out.on (HT0.out _).2.2.1)).mono ?_
    rintro e w1 ⟨rfl, hb1⟩
    have HB := Lib.hid (one_box hb1)
    clear hb1
    go_wp2
    go_ret
    exact ⟨by rw [HRT.out]; rfl, HB.out⟩
  | true =>
    rw [hq] at HAV HRT
    clear hq
    go_enter Tryz.func44, Tryz.ntmps44
    go_wp2_with fail
    refine (HAV.out _ (HV.out.on (HT0.out _).2.2.1)).mono ?_
    rintro e w1 ⟨rfl, hb1⟩
    have HT := Lib.hid ((HT0.out _).on hb1)
    clear hb1
    obtain ⟨t0, t1, hbW, hXW⟩ := HT.out
    have HBW := Lib.hid hbW
    clear hbW
    have HC := Lib.hid (hasR_calls R (fun r => !rowT n r) 71 #[.pointer (some ⟨w.heap.size, 0, none⟩)] HEG.out ra m rc w1 (HR.out.on HBW.out) (fun W j hj a' c' hb ht => tCheck1_calls R[j] (HOK.out _ (List.getElem_mem hj)) w.heap.size n vc va a' c' W ((hb.cell (p := ⟨_, _, none⟩) hXW).trans t0) ht))
    generalize (R.any fun r => !rowT n r) = b at HC HRT
    go_wp2_with fail
    refine HC.out.mono ?_
    rintro e w2 ⟨rfl, hb2⟩
    have HB2 := Lib.hid (bnext HBW.out hb2)
    clear hb2 t0 t1 hXW
    cases b with
    | true =>
      go_wp2
      go_ret
      exact ⟨by rw [HRT.out]; rfl, HB2.out⟩
    | false =>
      go_wp2
      go_ret
      exact ⟨by rw [HRT.out]; rfl, HB2.out⟩

end Go.Proofs.YtkfemnjblbnclaaGreatDoor
