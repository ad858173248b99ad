/- What is told of an operation of a code, by the program: resultAt, InScope, Certain, From, Check. (Written by gen/mkat.py.) -/
import Derived.Test.YtiliobfgmelncaaGreatScopeResults
namespace Go.Proofs.YtiliobfgmelncaaGreat
open Go.RowKit Go.Maps

theorem runP_few {B : Nat} : ∀ (C : List OpL) (i : Nat) (op : List ResL) (e : Bool) (all : List ResL) {all' op' : List ResL} {e' : Bool}, (∀ r ∈ all, r.sc.length + r.ct.length ≤ B) → tot op + 256 * C.length ≤ B → runP C i op e all = some (all', op', e') → ∀ r ∈ all', r.sc.length + r.ct.length ≤ B
  | [], i, op, e, all, all', op', e', h1, _, h => by
    rw [runP] at h
    have : all = all' := by injection h with h; injection h
    rw [← this]; exact h1
  | o :: C, i, op, e, all, all', op', e', h1, h2, h => by
    rw [runP] at h
    split at h
    · rename_i hc
      have hl := topN_length hc.2.1
      have h4 := ndO_le o
      have h5 := madeR_tot hc.1 i (N := topN o op) (by omega)
      have h6 : tot op = tot (op.take (op.length - ndO o)) + tot (topN o op) := by
        unfold topN
        rw [← tot_append, List.take_append_drop]
      have h8 : tot [madeR o i (topN o op)] = (madeR o i (topN o op)).sc.length + (madeR o i (topN o op)).ct.length := by simp [tot]
      rw [List.length_cons] at h2
      refine runP_few C (i + 1) _ _ _ (fun r hr => ?_) ?_ h
      · rcases List.mem_append.1 hr with hr | hr
        · exact h1 r hr
        · rw [List.mem_singleton] at hr; subst hr; omega
      · rw [tot_append]; omega
    · cases h
theorem resA_few {C : List OpL} (h : C.length ≤ 128) : ∀ r ∈ resA C, r.sc.length ≤ 1000000 ∧ r.ct.length ≤ 1000000 := fun r hr => by
  unfold resA at hr
  split at hr
  · cases hr
  · rename_i all op e hrun
    have := runP_few (B := 256 * 128) C 0 [] false [] (fun r hr => absurd hr List.not_mem_nil) (by show 0 + _ ≤ _; omega) hrun r hr
    omega
def atE (C : List OpL) (i : Int) : Int := if resE C ≠ 0 then resE C else if i < 0 ∨ (C.length : Int) ≤ i then 1 else 0
theorem atE_err {C : List OpL} {i : Int} (h : resE C ≠ 0) : atE C i = resE C := if_pos h
theorem atE_range {C : List OpL} {i : Int} (h : resE C = 0) (hi : i < 0 ∨ (C.length : Int) ≤ i) : atE C i = 1 := by unfold atE; rw [if_neg (fun c => c h), if_pos hi]
theorem atE_ok {C : List OpL} {i : Int} (h : resE C = 0) (hi : ¬ (i < 0 ∨ (C.length : Int) ≤ i)) : atE C i = 0 := by unfold atE; rw [if_neg (fun c => c h), if_neg hi]
theorem resE_few {C : List OpL} (h : resE C = 0) : C.length ≤ 128 := by
  by_cases c : 128 < C.length
  · rw [resE_long c] at h; cases h
  · omega
/- one result told, or why not -/
def AtT (w : World) (C : List OpL) (i : Int) (e : Ending) (w' : World) : Prop :=
  Below w.heap.size w w' ∧ ∃ (r : ResL) (p q : Option Nat), e = .returned (.tuple #[.agg #[.int .i64 r.f, .bool r.v, .map p, .map q], .int .i64 (atE C i)]) ∧ SetA w' p r.sc ∧ SetA w' q r.ct ∧ (atE C i ≠ 0 → r = noR) ∧ (atE C i = 0 → (resA C)[i.toNat]? = some r) ∧ r.sc.length ≤ 1000000 ∧ r.ct.length ≤ 1000000
theorem at_ret (tm : Array Value) (W : World) (A : Nat) (f : Int) (v : Bool) (p q : Option Nat) (E : Int) (Q : Ending → World → Prop) (h : tm.getD 4 undef = .pointer (some ⟨A, 0, none⟩)) (h5 : tm.getD 5 undef = .int .i64 E) (hA : Blk W A 66 #[.int .i64 f, .bool v, .map p, .map q]) (hQ : Q (.returned (.tuple #[.agg #[.int .i64 f, .bool v, .map p, .map q], .int .i64 E])) W) :
    bodyPost Tryz.prog Tryz.f39 Q Exit.ret { tmps := tm, defers := [] } W := by
  have q0 : W.cell? ⟨A, 0, none⟩ = some (.int .i64 f) := by rw [blk_cell hA]; rfl
  have q1 : W.cell? ⟨A, 1, none⟩ = some (.bool v) := by rw [blk_cell hA]; rfl
  have q2 : W.cell? ⟨A, 2, none⟩ = some (.map p) := by rw [blk_cell hA]; rfl
  have q3 : W.cell? ⟨A, 3, none⟩ = some (.map q) := by rw [blk_cell hA]; rfl
  have e2 : tm[4]?.getD undef = .pointer (some ⟨A, 0, none⟩) := by rw [← Array.getD_eq_getD_getElem?]; exact h
  have e5 : tm[5]?.getD undef = .int .i64 E := by rw [← Array.getD_eq_getD_getElem?]; exact h5
  refine bodyPost_ret (v := .tuple #[.agg #[.int .i64 f, .bool v, .map p, .map q], .int .i64 E]) (by simp [results, Tryz.results39, e2, e5, q0, q1, q2, q3, go_sem]) rfl hQ
theorem at_none {w w' : World} {C : List OpL} {i : Int} (hb : Below w.heap.size w w') (h : atE C i ≠ 0) {E : Int} (hE : atE C i = E) : AtT w C i (.returned (.tuple #[.agg #[.int .i64 0, .bool false, .map none, .map none], .int .i64 E])) w' :=
  ⟨hb, noR, none, none, by rw [hE]; rfl, setA_none _, setA_none _, fun _ => rfl, fun c => absurd c h, Nat.zero_le _, Nat.zero_le _⟩

set_option maxRecDepth 100000 in
set_option maxHeartbeats 8000000 in
theorem resultAt_calls (C : List OpL) (hok : ∀ o ∈ C, OpOk o) (a : Option Addr) (n c : Nat) (i : Int) (w : World) (hv : OpsA w a n c C) : Calls Tryz.prog 39 #[.slice a n c, .int .i64 i] w (AtT w C i) := by
  have HC := Lib.hid (fun W h => results_calls C hok a n c W h)
  have HV := Lib.hid hv
  have HNEW := Lib.hid (fun W => blk_new W 66 #[.int .i64 0, .bool false, .map none, .map none])
  have HBX := Lib.hid (fun (W : World) (o : Obj) => box_below W o)
  clear hv hok
  go_enter Tryz.func39, Tryz.ntmps39
  go_wp2_with fail
  refine (HC.out _ (HV.out.on (HBX.out _ _))).mono ?_
  intro e w2 hT
  obtain ⟨hb2, hT⟩ := hT
  have HB2 := Lib.hid (one_box hb2)
  have HX2 := Lib.hid (blk_on (HNEW.out w) hb2 (by simp))
  clear hb2
  have hX0 := HX2.out
  have hlt : w.heap.size < w2.heap.size := blk_lt hX0
  have x0 : w2.cell? ⟨w.heap.size, 0, none⟩ = some (.int .i64 0) := (blk_cell hX0 0).trans rfl
  have x1 : w2.cell? ⟨w.heap.size, 1, none⟩ = some (.bool false) := (blk_cell hX0 1).trans rfl
  have x2 : w2.cell? ⟨w.heap.size, 2, none⟩ = some (.map none) := (blk_cell hX0 2).trans rfl
  have x3 : w2.cell? ⟨w.heap.size, 3, none⟩ = some (.map none) := (blk_cell hX0 3).trans rfl
  have f0 : ∀ i, w2.frozen? ⟨w.heap.size, i, none⟩ = false := fun i => blk_free hX0 i
  rcases hT with ⟨he, rfl⟩ | ⟨he, ra, rc, rfl, hres⟩
  · have HE := Lib.hid (atE_err (i := i) he)
    have HNZ := Lib.hid (show atE C i ≠ 0 by rw [HE.out]; exact he)
    obtain ⟨E, hEE⟩ : ∃ E, resE C = E := ⟨_, rfl⟩
    rw [hEE] at he HE ⊢
    have hne : (E != 0) = true := bne_iff_ne.2 he
    clear hEE he
    go_wp2_with (refine kWhole 66 (.tmp 4) (.tmp 15) ⟨rfl, rfl⟩ w.heap.size #[.int .i64 0, .bool false, .map none, .map none] (by kernel_rfl) (by kernel_rfl) 66 #[.int .i64 0, .bool false, .map none, .map none] hX0 (by kernel_rfl) rfl (by kernel_rfl) ?_; intro w4 hA4 hG4)
    refine at_ret _ _ w.heap.size 0 false none none E _ (by first | rfl | simp) (by first | rfl | simp) hA4.out (at_none (HB2.out.grown hG4.out HB2.out.size (fun j hj => by cases hj; exact Nat.le_refl _)) HNZ.out HE.out)
  · have HE := Lib.hid he
    have hln := hres.len
    have HL := Lib.hid (show C.length = n from HV.out.len)
    have HRS := Lib.hid hres
    have HFW := Lib.hid (resA_few (resE_few he))
    have HLN := Lib.hid hln
    have hcp := hres.cap
    have hms := hres.most
    unfold maxLen at hms
    rw [HL.out] at hcp ⊢
    clear he hres hln
    by_cases h0 : i < 0
    · have HNZ := Lib.hid (atE_range HE.out (.inl h0))
      go_wp2_with (refine kWhole 66 (.tmp 4) (.tmp 25) ⟨rfl, rfl⟩ w.heap.size #[.int .i64 0, .bool false, .map none, .map none] (by kernel_rfl) (by kernel_rfl) 66 #[.int .i64 0, .bool false, .map none, .map none] hX0 (by kernel_rfl) rfl (by kernel_rfl) ?_; intro w4 hA4 hG4)
      refine at_ret _ _ w.heap.size 0 false none none 1 _ (by first | rfl | simp) (by first | rfl | simp) hA4.out (at_none (HB2.out.grown hG4.out HB2.out.size (fun j hj => by cases hj; exact Nat.le_refl _)) (by rw [HNZ.out]; decide) HNZ.out)
    by_cases h1 : (n : Int) ≤ i
    · have HNZ := Lib.hid (atE_range HE.out (.inr (by rw [HL.out]; exact h1)))
      go_wp2_with (refine kWhole 66 (.tmp 4) (.tmp 25) ⟨rfl, rfl⟩ w.heap.size #[.int .i64 0, .bool false, .map none, .map none] (by kernel_rfl) (by kernel_rfl) 66 #[.int .i64 0, .bool false, .map none, .map none] hX0 (by kernel_rfl) rfl (by kernel_rfl) ?_; intro w4 hA4 hG4)
      refine at_ret _ _ w.heap.size 0 false none none 1 _ (by first | rfl | simp) (by first | rfl | simp) hA4.out (at_none (HB2.out.grown hG4.out HB2.out.size (fun j hj => by cases hj; exact Nat.le_refl _)) (by rw [HNZ.out]; decide) HNZ.out)
    have HOK := Lib.hid (atE_ok HE.out (i := i) (fun c => c.elim h0 (fun d => h1 (by rw [HL.out] at d; exact d))))
    obtain ⟨k, rfl⟩ : ∃ k : Nat, i = (k : Int) := ⟨i.toNat, by omega⟩
    have hk : k < n := by omega
    have hkL : k < (resA C).length := by rw [HLN.out, HL.out]; exact hk
    obtain ⟨g, o, ha, hgw, hcells⟩ := HRS.out.cells (by rw [HL.out]; omega)
    subst ha
    obtain ⟨p, q, d0, d1, d2, d3, hp, hq⟩ := hcells k hkL
    have HGE := Lib.hid (show (resA C)[(k : Int).toNat]? = some (resA C)[k] by rw [Int.toNat_natCast, List.getElem?_eq_getElem hkL])
    have HF2 := Lib.hid (HFW.out _ (List.getElem_mem hkL))
    have HP := Lib.hid hp
    have HQ := Lib.hid hq
    have k0 : (0 : Int) ≤ (k : Int) := by omega
    have k1 : (k : Int) < (n : Int) := by omega
    clear hcells hp hq h0 h1
    generalize (resA C)[k] = r at d0 d1 d2 d3 HP HQ HGE HF2
    go_wp2_with (refine kWhole 66 (.tmp 4) (.tmp 29) ⟨rfl, rfl⟩ w.heap.size #[.int .i64 r.f, .bool r.v, .map p, .map q] (by kernel_rfl) (by kernel_rfl) 66 #[.int .i64 0, .bool false, .map none, .map none] hX0 (by kernel_rfl) rfl (by kernel_rfl) ?_; intro w4 hA4 hG4)
    have hm := kMaps hG4.out hX0
    refine at_ret _ _ w.heap.size r.f r.v p q 0 _ (by first | rfl | simp) (by first | rfl | simp) hA4.out ⟨HB2.out.grown hG4.out HB2.out.size (fun j hj => by cases hj; exact Nat.le_refl _), r, p, q, by rw [HOK.out], HP.out.on hm, HQ.out.on hm, fun c => absurd HOK.out c, fun _ => HGE.out, HF2.out⟩

/- names told, or why not -/
def InT (w : World) (C : List OpL) (i : Int) (cert : Bool) (e : Ending) (w' : World) : Prop :=
  Below w.heap.size w w' ∧ ∃ (L : List (List UInt8)) (a : Option Addr) (c : Nat), e = .returned (.tuple #[.slice a L.length c, .int .i64 (atE C i)]) ∧ TxtA w' a L.length c L ∧ Rise L ∧ (atE C i ≠ 0 → L = []) ∧ (atE C i = 0 → ∃ r, (resA C)[i.toNat]? = some r ∧ L = bif cert then r.ct else r.sc) ∧ L.length ≤ 1000000

set_option maxRecDepth 100000 in
set_option maxHeartbeats 4000000 in
theorem inScope_calls (C : List OpL) (hok : ∀ o ∈ C, OpOk o) (a : Option Addr) (n c : Nat) (i : Int) (w : World) (hv : OpsA w a n c C) : Calls Tryz.prog 15 #[.slice a n c, .int .i64 i] w (InT w C i false) := by
  have HC := Lib.hid (resultAt_calls C hok a n c i w hv)
  clear hv hok
  go_enter Tryz.func15, Tryz.ntmps15
  go_wp2_with fail
  refine HC.out.mono ?_
  rintro e w2 ⟨hb2, r, p, q, rfl, hp, hq, h1, h2, h3, h4⟩
  have HB2 := Lib.hid hb2
  have HO := Lib.hid (fun (o : Obj) => ordered_calls r.sc p (w2.alloc o) ((hp).on (mapsOn_below (box_below w2 o))) (by omega))
  have HR := Lib.hid (hp).1
  have H1 := Lib.hid h1
  have H2 := Lib.hid h2
  have H3 := Lib.hid (h3)
  clear hb2 hp hq h1 h2 h3 h4
  go_wp2_with fail
  refine (HO.out _).mono ?_
  rintro e w3 ⟨a3, c3, rfl, htx, hb3⟩
  have HT := Lib.hid htx
  have HB3 := Lib.hid (one_box hb3)
  clear htx hb3
  go_wp2
  refine bodyPost_ret (v := .tuple #[.slice a3 r.sc.length c3, .int .i64 (atE C i)]) (by simp [results, Tryz.results15, go_sem]) rfl ⟨HB2.out.trans (HB3.out.mono HB2.out.size), r.sc, a3, c3, rfl, HT.out, HR.out, fun c => by rw [H1.out c]; rfl, fun c => ⟨r, H2.out c, rfl⟩, H3.out⟩

set_option maxRecDepth 100000 in
set_option maxHeartbeats 4000000 in
theorem certain_calls (C : List OpL) (hok : ∀ o ∈ C, OpOk o) (a : Option Addr) (n c : Nat) (i : Int) (w : World) (hv : OpsA w a n c C) : Calls Tryz.prog 16 #[.slice a n c, .int .i64 i] w (InT w C i true) := by
  have HC := Lib.hid (resultAt_calls C hok a n c i w hv)
  clear hv hok
  go_enter Tryz.func16, Tryz.ntmps16
  go_wp2_with fail
  refine HC.out.mono ?_
  rintro e w2 ⟨hb2, r, p, q, rfl, hp, hq, h1, h2, h3, h4⟩
  have HB2 := Lib.hid hb2
  have HO := Lib.hid (fun (o : Obj) => ordered_calls r.ct q (w2.alloc o) ((hq).on (mapsOn_below (box_below w2 o))) (by omega))
  have HR := Lib.hid (hq).1
  have H1 := Lib.hid h1
  have H2 := Lib.hid h2
  have H3 := Lib.hid (h4)
  clear hb2 hp hq h1 h2 h3 h4
  go_wp2_with fail
  refine (HO.out _).mono ?_
  rintro e w3 ⟨a3, c3, rfl, htx, hb3⟩
  have HT := Lib.hid htx
  have HB3 := Lib.hid (one_box hb3)
  clear htx hb3
  go_wp2
  refine bodyPost_ret (v := .tuple #[.slice a3 r.ct.length c3, .int .i64 (atE C i)]) (by simp [results, Tryz.results16, go_sem]) rfl ⟨HB2.out.trans (HB3.out.mono HB2.out.size), r.ct, a3, c3, rfl, HT.out, HR.out, fun c => by rw [H1.out c]; rfl, fun c => ⟨r, H2.out c, rfl⟩, H3.out⟩

/- where they begin, or why not -/
set_option maxRecDepth 100000 in
set_option maxHeartbeats 4000000 in
theorem oFrom_calls (C : List OpL) (hok : ∀ o ∈ C, OpOk o) (a : Option Addr) (n c : Nat) (i : Int) (w : World) (hv : OpsA w a n c C) : Calls Tryz.prog 18 #[.slice a n c, .int .i64 i] w fun e w' => Below w.heap.size w w' ∧ ∃ f : Nat, e = .returned (.tuple #[.int .i64 f, .int .i64 (atE C i)]) ∧ (atE C i ≠ 0 → f = 0) ∧ (atE C i = 0 → ∃ r, (resA C)[i.toNat]? = some r ∧ f = r.f) := by
  have HC := Lib.hid (resultAt_calls C hok a n c i w hv)
  clear hv hok
  go_enter Tryz.func18, Tryz.ntmps18
  go_wp2_with fail
  refine HC.out.mono ?_
  rintro e w2 ⟨hb2, r, p, q, rfl, hp, hq, h1, h2, h3, h4⟩
  have HB2 := Lib.hid hb2
  have H1 := Lib.hid h1
  have H2 := Lib.hid h2
  clear hb2 hp hq h1 h2 h3 h4
  go_wp2
  refine bodyPost_ret (v := .tuple #[.int .i64 r.f, .int .i64 (atE C i)]) (by simp [results, Tryz.results18, go_sem]) rfl ⟨HB2.out.alloc HB2.out.size _, r.f, rfl, fun c => by rw [H1.out c]; rfl, fun c => ⟨r, H2.out c, rfl⟩⟩

set_option maxRecDepth 100000 in
set_option maxHeartbeats 4000000 in
theorem oCheck_calls (C : List OpL) (hok : ∀ o ∈ C, OpOk o) (a : Option Addr) (n c : Nat) (w : World) (hv : OpsA w a n c C) : Calls Tryz.prog 13 #[.slice a n c] w fun e w' => e = .returned (.int .i64 (resE C)) ∧ Below w.heap.size w w' := by
  have HC := Lib.hid (results_calls C hok a n c w hv)
  clear hv hok
  go_enter Tryz.func13, Tryz.ntmps13
  go_wp2_with fail
  refine HC.out.mono ?_
  rintro e w2 ⟨hb2, hT⟩
  have HB2 := Lib.hid hb2
  clear hb2
  rcases hT with ⟨he, rfl⟩ | ⟨he, ra, rc, rfl, hres⟩
  · go_wp2
    go_ret
    exact ⟨rfl, HB2.out⟩
  · have HE := Lib.hid he
    clear he hres
    go_wp2
    go_ret
    exact ⟨by rw [HE.out]; rfl, HB2.out⟩

end Go.Proofs.YtiliobfgmelncaaGreat
