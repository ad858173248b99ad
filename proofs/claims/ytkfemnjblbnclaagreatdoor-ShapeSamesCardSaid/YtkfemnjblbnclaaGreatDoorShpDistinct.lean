/- Each row once: package shape's Distinct, for every table. -/
import Derived.Test.YtkfemnjblbnclaaGreatDoorGIds
import Derived.Test.YtkfemnjblbnclaaGreatDoorShpText
import Derived.Test.YtkfemnjblbnclaaGreatDoorShpCheck
import Derived.Test.YtkfemnjblbnclaaGreatDoorShpCopied
namespace Go.Proofs.YtkfemnjblbnclaaGreatDoor
open Go.RowKit Go.Maps

def okRT (R : List RowL) : Prop := ∀ r ∈ R, ∀ t ∈ r, okT t
theorem okRT.r {R : List RowL} (h : okRT R) : okR R := fun r hr t ht => (h r hr t ht).1
/- slices' values in the cells of a row of rows -/
def RowC (w : World) (cs : List Value) (F : List RowL) : Prop := cs.length = F.length ∧ ∀ j (h : j < F.length), ∃ a' c', cs[j]? = some (.slice a' F[j].length c') ∧ TrmA w a' F[j].length c' F[j]
theorem rowC_nil (w : World) : RowC w [] [] := ⟨rfl, fun _ h => absurd h (Nat.not_lt_zero _)⟩
theorem rowC_snoc {w : World} {cs : List Value} {F : List RowL} (h : RowC w cs F) {r : RowL} {a : Option Addr} {c : Nat} (hr : TrmA w a r.length c r) : RowC w (cs ++ [.slice a r.length c]) (F ++ [r]) := by
  obtain ⟨hl, h⟩ := h
  refine ⟨by simp [hl], fun j hj => ?_⟩
  by_cases e : j < F.length
  · obtain ⟨a', c', h1, h2⟩ := h j e
    rw [List.getElem_append_left e]
    exact ⟨a', c', by rw [List.getElem?_append_left (by omega)]; exact h1, h2⟩
  · have ej : j = F.length := by rw [List.length_append, List.length_singleton] at hj; omega
    subst ej
    rw [List.getElem_append_right (Nat.le_refl _)]
    simp only [Nat.sub_self, List.getElem_cons_zero]
    exact ⟨a, c, by rw [List.getElem?_append_right (by omega), hl, Nat.sub_self]; rfl, hr⟩
theorem own_row {w W : World} {B n : Nat} {v : Value} {cs : List Value} {F : List RowL} (h : W.ownsRow B 51 1 v n cs) (hc : RowC w cs F) (hn : F.length = n) (hb : Below w.heap.size w W) : ∃ a c, v = .slice a n c ∧ RowA W a n c F := by
  rcases h.2 with ⟨rfl, h0⟩ | ⟨g, cap, cur, rfl, hg, hblk, h1, h2, h3, h4⟩
  · subst h0
    have : F = [] := List.eq_nil_of_length_eq_zero hn
    subst this
    exact ⟨_, _, rfl, (row_nil (fun _ => True) W none 0 (Nat.zero_le _)).a⟩
  · refine ⟨_, _, rfl, hn, h1, h2, fun h0 => ⟨g, 0, rfl, (Array.getElem?_eq_some_iff.1 hblk).1, fun j hj => ?_⟩⟩
    obtain ⟨a', c', e1, e2⟩ := hc.2 j hj
    refine ⟨a', c', ?_, e2.on hb⟩
    rw [Nat.zero_add, h.cellAt j (by omega)]
    exact e1
theorem run_makeMapN (w : World) : (Instr.makeMap 86 none).run Tryz.prog w = .ok (.map (some w.heap.size)) (w.alloc (.map #[] 0)) := by kernel_rfl
theorem updG_same {α : Type} [DecidableEq α] (f : α → Option Int) (x : α) (v : Option Int) : updG f x v x = v := if_pos rfl
theorem grown_size {w w' : World} {row : Option Nat} (h : w.grownBy w' row) : w.heap.size ≤ w'.heap.size := h.size

/- what the rounds keep -/
structure DistR (w : World) (A X b bm B1 : Nat) (vs rs : Value) (R : List RowL) (k : Nat) (v : Value) (wr : World) : Prop where
  arg : Blk wr A 31 #[vs, rs]
  box : Blk wr X 31 #[.slice none 0 0, .slice none 0 0]
  num : MapT wr b (idsP R k).2 (idsP R k).1
  came : ∃ f s, MapS wr bm s f ∧ s ≤ k ∧ Came R k f
  first : ∃ cs, wr.ownsRow B1 51 1 v (distP (R.take k)).length cs ∧ RowC w cs (distP (R.take k))
  below : Below w.heap.size w wr
  size : B1 ≤ wr.heap.size
def onlyB {α : Type} (b : Bool) (l : List α) : List α := if b = true then l else []

set_option maxRecDepth 100000 in
set_option maxHeartbeats 8000000 in
theorem distinct_calls (V : List (List UInt8)) (R : List RowL) (hx : okV V) (hr : okRT R) (tv : Value) (w : World) (hg : Nm.Good w) (ht : TabA w tv V R) :
    Calls Tryz.prog 26 #[tv] w fun e w' => ∃ uv, e = .returned (.tuple #[uv, .int .i64 (formZ (rightT V R))]) ∧ TabK (fun i => w.heap.size ≤ i) w' uv (onlyB (rightT V R) V) (onlyB (rightT V R) (distP R)) ∧ Below w.heap.size w w' := by
  obtain ⟨i0, hi, hz0, hz1, hz2⟩ := info_parts info_row
  obtain ⟨va, n, vc, ra, m, rc, rfl, hV, hR⟩ := ht
  have HRR := Lib.hid hr
  have HV := Lib.hid hV
  have HR := Lib.hid hR
  have HG := Lib.hid hg
  have HVL := Lib.hid hV.len
  have HRL := Lib.hid hR.len
  have hcp := hR.cap
  have hms := hR.most
  unfold maxLen at hms
  obtain ⟨A, hA⟩ : ∃ A, w.heap.size = A := ⟨_, rfl⟩
  obtain ⟨W0, hW0⟩ : ∃ W0, (w.alloc (.cells #[.slice va n vc, .slice ra m rc] 31)).alloc (.cells #[.slice none 0 0, .slice none 0 0] 31) = W0 := ⟨_, rfl⟩
  have HB0 := Lib.hid (show Below w.heap.size w W0 by rw [← hW0]; exact fb2 (box_below _ _) (box_below _ _) (Nat.le_refl _))
  have HA0 := Lib.hid (show Blk W0 A 31 #[.slice va n vc, .slice ra m rc] by rw [← hW0, ← hA]; exact blk_alloc (blk_new _ _ _) _)
  have HX0 := Lib.hid (show Blk W0 (A + 1) 31 #[.slice none 0 0, .slice none 0 0] by
    rw [← hW0, ← hA]
    have := blk_new (w.alloc (.cells #[.slice va n vc, .slice ra m rc] 31)) 31 #[.slice none 0 0, .slice none 0 0]
    rw [show (w.alloc (.cells #[.slice va n vc, .slice ra m rc] 31)).heap.size = w.heap.size + 1 by simp] at this
    exact this)
  have HCK := Lib.hid (tCheck_calls V R hx hr.r (.agg #[.slice va n vc, .slice ra m rc]) W0 ⟨va, n, vc, ra, m, rc, rfl, hV.on HB0.out, hR.on HB0.out⟩)
  have HAE := Lib.hid hA
  have HW0 := Lib.hid hW0
  clear hW0 hA hV hR hr hg hx
  cases hq : rightT V R with
  | false =>
    rw [hq, show formZ false = 2 from rfl] at HCK
    clear hq
    go_enter Tryz.func26, Tryz.ntmps26
    go_wp2_with fail
    rw [HW0.out, HAE.out]
    refine (HCK.out).mono ?_
    rintro e w1 ⟨rfl, hb1⟩
    have HA1 := Lib.hid (blk_on HA0.out hb1 (blk_lt HA0.out))
    have HX1 := Lib.hid (blk_on HX0.out hb1 (blk_lt HX0.out))
    have HB1 := Lib.hid (fb2 HB0.out hb1 (Nat.le_refl _))
    clear hb1
    go_wp2_with (refine whole_abs 31 (.tmp 2) (.tmp 15) ⟨rfl, rfl⟩ (A + 1) #[.slice none 0 0, .slice none 0 0] rfl rfl 31 #[.slice none 0 0, .slice none 0 0] HX1.out (by kernel_rfl) rfl (by kernel_rfl) ?_; intro w9 hA9 hG9)
    have q2 : w9.cell? ⟨A + 1, 0, none⟩ = some (.slice none 0 0) := by rw [blk_cell hA9.out]; rfl
    have q3 : w9.cell? ⟨A + 1, 1, none⟩ = some (.slice none 0 0) := by rw [blk_cell hA9.out]; rfl
    refine bodyPost_ret (v := .tuple #[.agg #[.slice none 0 0, .slice none 0 0], .int .i64 2]) (by simp [results, Tryz.results26, q2, q3, go_sem]) rfl ⟨_, rfl, tab_nil _ _, ?_⟩
    exact HB1.out.grown hG9.out HB1.out.size (fun j hj => by injection hj with hj; have := HAE.out; omega)
  | true =>
    rw [hq, show formZ true = 0 from rfl] at HCK
    have hq2 := hq
    unfold rightT at hq2
    simp only [Bool.and_eq_true, decide_eq_true_eq, List.all_eq_true] at hq2
    obtain ⟨⟨⟨hv32, hr4⟩, _⟩, hrow⟩ := hq2
    have HWD : Hid (∀ r ∈ R, r.length = V.length) := Lib.hid fun r hr => by
      have := hrow r hr
      unfold rowT at this
      simp only [Bool.and_eq_true, decide_eq_true_eq] at this
      exact this.1
    have HV32 := Lib.hid hv32
    have HR4 := Lib.hid hr4
    have hm4 : m ≤ 4096 := by have := HRL.out; omega
    have hmm := fun W => run_makeMapH (m : Int) W
    have hmn := fun W => run_makeMapN W
    clear hq hrow hv32 hr4
    go_enter Tryz.func26, Tryz.ntmps26
    go_wp2_with fail
    rw [HW0.out, HAE.out]
    refine (HCK.out).mono ?_
    rintro e w1 ⟨rfl, hb1⟩
    have HAB := Lib.hid (show A + 1 < w1.heap.size from Nat.lt_of_lt_of_le (blk_lt HX0.out) hb1.size)
    have hA1 := blk_on HA0.out hb1 (blk_lt HA0.out)
    have HX1 := Lib.hid (blk_on HX0.out hb1 (blk_lt HX0.out))
    have HB1 := Lib.hid (fb2 HB0.out hb1 (Nat.le_refl _))
    obtain ⟨b, hb⟩ : ∃ b, w1.heap.size = b := ⟨_, rfl⟩
    have HBE := Lib.hid hb
    have q0 : w1.cell? ⟨A, 0, none⟩ = some (.slice va n vc) := by rw [blk_cell hA1]; rfl
    have q1 : w1.cell? ⟨A, 1, none⟩ = some (.slice ra m rc) := by rw [blk_cell hA1]; rfl
    have qf0 : (w1.alloc (.map #[] 0)).cell? ⟨A, 1, none⟩ = some (.slice ra m rc) := by rw [blk_cell (blk_alloc hA1 _)]; rfl
    have qf1 : ((w1.alloc (.map #[] 0)).alloc (.map #[] 0)).cell? ⟨A, 1, none⟩ = some (.slice ra m rc) := by rw [blk_cell (blk_alloc (blk_alloc hA1 _) _)]; rfl
    have HA1 := Lib.hid hA1
    clear hb1 hA1 hb
    have HS1 := Lib.hid (show DistR w A (A + 1) b (b + 1) (b + 2) (.slice va n vc) (.slice ra m rc) R 0 (.slice none 0 0) ((w1.alloc (.map #[] 0)).alloc (.map #[] 0)) from by
      refine ⟨blk_alloc (blk_alloc HA1.out _) _, blk_alloc (blk_alloc HX1.out _) _, ?_, ⟨fun _ => none, 0, ?_, Nat.le_refl _, came_zero R⟩, ⟨[], ?_, ?_⟩, ?_, ?_⟩
      · rw [num_zero, ← HBE.out]
        exact (map_made _ _ _ w1).on (box_below _ _)
      · have := map_made 9 okS (fun x => x) (w1.alloc (.map #[] 0))
        rw [show (w1.alloc (.map #[] 0)).heap.size = b + 1 by rw [← HBE.out]; simp] at this
        exact this
      · rw [List.take_zero]; exact World.ownsRow_nil _ _ _ _
      · rw [List.take_zero]; exact rowC_nil w
      · exact fb2 (fb2 HB1.out (box_below _ _) (Nat.le_refl _)) (box_below _ _) (Nat.le_refl _)
      · rw [← HBE.out]; simp)
    go_wp2
    rw [HBE.out]
    clear hmm hmn
    go_loopg [5, 9, 10, 25] m (fun g v _ _ i wr => ∃ k : Nat, i = .int .i64 k ∧ k + g = m ∧ Hid (DistR w A (A + 1) b (b + 1) (b + 2) (.slice va n vc) (.slice ra m rc) R k v wr))
    case atStart => exact ⟨0, rfl, by omega, HS1⟩
    case round =>
      obtain ⟨W1, rfl⟩ : ∃ W1, W1 = wr := ⟨_, rfl⟩
      obtain ⟨k, rfl, hkg, HRD⟩ := hrel
      by_cases hk : k < m
      · obtain ⟨gg, rfl⟩ : ∃ gg, gk = gg + 1 := ⟨gk - 1, by omega⟩
        have hkR : k < R.length := by rw [HRL.out]; exact hk
        obtain ⟨g, o, ha, hgw, hcells⟩ := HR.out.cells (by omega)
        subst ha
        obtain ⟨a', c', hcell, htrm⟩ := hcells k hkR
        have hrk : R[k].length = n := (HWD.out _ (List.getElem_mem hkR)).trans HVL.out
        rw [hrk] at hcell htrm
        have HTW := Lib.hid htrm
        have HBW := Lib.hid HRD.out.below
        have hgW : g < W1.heap.size := Nat.lt_of_lt_of_le hgw HBW.out.size
        have c0 : W1.cell? ⟨g, o + k, none⟩ = some (.slice a' n c') := keptC hcell HBW.out hgw
        have HRK := Lib.hid hrk
        have hn32 : n ≤ 32 := by rw [← HVL.out]; exact HV32.out
        have hnm := num_le HWD.out k (by omega)
        have hkn : k * V.length ≤ 4096 * 32 := Nat.mul_le_mul (by omega) HV32.out
        have hTC := text_calls (idsP R k) b R[k] (HRR.out _ (List.getElem_mem hkR)) a' n c' W1 (HG.out.on HBW.out) HRD.out.num (num_at R k).1 (htrm.on HBW.out) (by omega) (by omega)
        rw [← num_step hkR] at hTC
        obtain ⟨f, s, hS, hsk, hC⟩ := HRD.out.came
        obtain ⟨cs, hown, hrc⟩ := HRD.out.first
        have hlx := came_txt HWD.out HV32.out HR4.out hkR
        have hci := came_is hkR hC
        have hcs := fun g => came_step (g := g) hkR hC
        have hds := dist_snoc (R.take k) R[k]
        rw [← List.take_succ_eq_append_getElem hkR] at hds
        have hdl := dist_le (R.take k)
        rw [List.length_take] at hdl
        obtain ⟨x, hxe⟩ : ∃ x, txtN (idsP R (k + 1)).1 R[k] = x := ⟨_, rfl⟩
        rw [hxe] at hTC hlx hci hcs
        obtain ⟨l0, hl0⟩ : ∃ l0, (distP (R.take k)).length = l0 := ⟨_, rfl⟩
        rw [hl0] at hown hdl
        have HL0 := Lib.hid hl0
        have HTC := Lib.hid hTC
        have hok := Lib.hid (show okS x by have e : (bs x).size = x.length := rfl; unfold okS maxLen; omega)
        have HS := Lib.hid hS
        have HSK := Lib.hid (show s < maxLen by unfold maxLen; omega)
        have HSK2 := Lib.hid hsk
        have HCS := Lib.hid hcs
        have HDS := Lib.hid hds
        have HOW := Lib.hid hown
        have HRC := Lib.hid hrc
        have HB2 := Lib.hid HRD.out.size
        have HOB : Hid (∀ e, Value.ownBlock u5 = some e → b + 2 ≤ e) := Lib.hid (fun e he => own_from hown e he)
        have HMM := Lib.hid (dist_mem (R.take k) R[k])
        clear hTC hlx hcs hds hown hrc hS hxe hcells hcell htrm hrk hnm hkn hl0 hsk
        have k0 : (0 : Int) ≤ (k : Int) := by omega
        have k1 : (k : Int) < (m : Int) := by omega
        cases hq : f x with
        | some u =>
          obtain ⟨u0, u1, _⟩ := hC.1 x u hq
          have u2 : u ≤ 4096 := by omega
          have u3 : ¬ (u + 1 = 1) := by omega
          have HIN := Lib.hid (hci.1 (by rw [hq]; rfl))
          have HWF := Lib.hid (show (Lit.int .i64 (u + 1)).wf = true from by have := wf_nat (n := (u + 1).toNat) (by omega); rw [show (((u + 1).toNat : Nat) : Int) = u + 1 by omega] at this; exact this)
          have HQ := Lib.hid hq
          clear hC hci
          go_wp2_with (first
            | (go_at_call 56; refine HTC.out.mono ?_; rintro e w3 ⟨rfl, hm3, hg3⟩; have HM3 := Lib.hid hm3; have HG3 := Lib.hid hg3; have HS3 := Lib.hid (HS.out.kept hg3 (by simp)); have HO3 := Lib.hid (HOW.out.kept hg3 (.inr (fun e => by have := HOB.out _ e; omega))); clear hm3 hg3 HTC)
            | (at_lookup; refine wpList_see_g rfl _ _ 87 rfl keyS Tryz.underlying87 rfl HS3.out x hok.out rfl ?_; rw [HQ.out]; simp only [Option.getD_some])
            | (at_mapUpdate; refine wpList_put_g rfl _ _ _ 87 rfl keyS Tryz.underlying87 rfl HS3.out HSK.out x hok.out rfl (u + 1 : Int) rfl HWF.out ?_; intro w5 h5 g5; have HS5 := Lib.hid h5; have HG5 := Lib.hid g5; have HO5 := Lib.hid (HO3.out.kept g5 (.inr (fun e => by have := HOB.out _ e; omega))); clear h5 g5)
            | (at_lookup; refine wpList_see_g rfl _ _ 87 rfl keyS Tryz.underlying87 rfl HS5.out x hok.out rfl ?_; rw [updG_same]; simp only [Option.getD_some]))
          have HR5 := Lib.hid (show DistR w A (A + 1) b (b + 1) (b + 2) (.slice va n vc) (.slice (some ⟨g, o, none⟩) m rc) R (k + 1) u5 w5 from by
            have hd : distP (R.take (k + 1)) = distP (R.take k) := by rw [HDS.out, if_pos (HMM.out.2 HIN.out)]
            have hab := HAB.out
            have hbe := HBE.out
            refine ⟨blk_grown (blk_grown HRD.out.arg (by omega) HG3.out) (by omega) HG5.out, blk_grown (blk_grown HRD.out.box (by omega) HG3.out) (by omega) HG5.out, HM3.out.kept HG5.out (by simp), ⟨updG f x (some (u + 1)), s, ?_, by have := HSK2.out; omega, HCS.out _ (fun y => by unfold updG; rw [HQ.out]; rfl)⟩, ⟨cs, by rw [hd, HL0.out]; exact HO5.out, by rw [hd]; exact HRC.out⟩, ?_, ?_⟩
            · have := HS5.out
              rw [HQ.out] at this
              exact this
            · exact (HBW.out.grown HG3.out HBW.out.size (fun j hj => by injection hj with hj; have := HAE.out; omega)).grown HG5.out (Nat.le_trans HBW.out.size HG3.out.size) (fun j hj => by injection hj with hj; have := HAE.out; omega)
            · have := HB2.out; have h3 := HG3.out.size; have h5 := HG5.out.size; omega)
          clear HO5 HS5 HM3 HG3 HG5 HO3 HS3
          go_roundg gg
          case measure => omega
          case rel => exact ⟨k + 1, by go_num, by omega, HR5⟩
        | none =>
          have HIN : Hid (R[k] ∉ R.take k) := Lib.hid (fun c => by have := hci.2 c; rw [hq] at this; cases this)
          have HWF := Lib.hid (show (Lit.int .i64 (1 : Int)).wf = true from wf_nat (n := 1) (by omega))
          have HQ := Lib.hid hq
          have HA1L := Lib.hid (show l0 + 1 ≤ maxLen by unfold maxLen; omega)
          have HA3L := Lib.hid (show (l0 + 1) * 24 ≤ 140737488355328 by omega)
          clear hC hci
          go_wp2_with (first
            | (go_at_call 56; refine HTC.out.mono ?_; rintro e w3 ⟨rfl, hm3, hg3⟩; have HM3 := Lib.hid hm3; have HG3 := Lib.hid hg3; have HS3 := Lib.hid (HS.out.kept hg3 (by simp)); have HO3 := Lib.hid (HOW.out.kept hg3 (.inr (fun e => by have := HOB.out _ e; omega))); clear hm3 hg3 HTC)
            | (at_lookup; refine wpList_see_g rfl _ _ 87 rfl keyS Tryz.underlying87 rfl HS3.out x hok.out rfl ?_; rw [HQ.out]; simp only [Option.getD_none])
            | (at_mapUpdate; refine wpList_put_g rfl _ _ _ 87 rfl keyS Tryz.underlying87 rfl HS3.out HSK.out x hok.out rfl (1 : Int) rfl HWF.out ?_; intro w5 h5 g5; have HS5 := Lib.hid h5; have HG5 := Lib.hid g5; have HO5 := Lib.hid (HO3.out.kept g5 (.inr (fun e => by have := HOB.out _ e; omega))); have HW5 := Lib.hid (show b + 2 ≤ w5.heap.size by have := HB2.out; have h3 := HG3.out.size; have h5 := g5.size; omega); clear h5 g5)
            | (at_lookup; refine wpList_see_g rfl _ _ 87 rfl keyS Tryz.underlying87 rfl HS5.out x hok.out rfl ?_; rw [updG_same]; simp only [Option.getD_some])
            | (at_builtin; (refine wpList_append_own_at _ rfl (.tmp 40) (.tmp 42) 29 rfl (b + 2) 51 i0 (.slice none 0 0) 1 24 Tryz.underlying29 hi hz0 hz1 hz2 rfl (by decide) u5 _ _ rfl (HO5.out.alloc _) ⟨w5.heap.size, 0, none⟩ 1 1 [.slice a' n c'] rfl rfl (news_gen _ _ _ rfl) (by intro u hu; simp at hu; subst hu; rfl) HA1L.out HA3L.out (Nat.le_trans HW5.out (by simp)) ?_; intro v4 w7 ho7 hg7 _ _; have HO7 := Lib.hid ho7; have HG7 := Lib.hid hg7; clear ho7 hg7)))
          have HR5 := Lib.hid (show DistR w A (A + 1) b (b + 1) (b + 2) (.slice va n vc) (.slice (some ⟨g, o, none⟩) m rc) R (k + 1) v4 w7 from by
            have hd : distP (R.take (k + 1)) = distP (R.take k) ++ [R[k]] := by rw [HDS.out, if_neg (fun c => HIN.out (HMM.out.1 c))]
            have hab := HAB.out
            have hbe := HBE.out
            have hob := HOB.out
            have hg7 : w5.grownBy w7 u5.ownBlock := by
              have h1 := World.grownBy_alloc w5 (.cells #[.slice a' n c'] 51) u5.ownBlock
              exact h1.andThen HG7.out (fun j hj => .inr hj)
            have hk7 : ∀ {Z : Nat} {T : TypeId} {cells : Array Value}, Blk w5 Z T cells → Z < b + 2 → Blk w7 Z T cells := fun h hz => (hg7.block _ (blk_lt h) (fun e => by have := hob _ e.symm; omega)).trans h
            refine ⟨hk7 (blk_grown (blk_grown HRD.out.arg (by omega) HG3.out) (by omega) HG5.out) (by omega), hk7 (blk_grown (blk_grown HRD.out.box (by omega) HG3.out) (by omega) HG5.out) (by omega), (HM3.out.kept HG5.out (by simp)).kept hg7 (fun e => by have := hob _ e.symm; omega), ⟨updG f x (some 1), s + 1, ?_, by have := HSK2.out; omega, HCS.out _ (fun y => by unfold updG; rw [HQ.out]; rfl)⟩, ⟨cs ++ [.slice a' n c'], by rw [hd, List.length_append, HL0.out]; exact HO7.out, ?_⟩, ?_, ?_⟩
            · have := HS5.out
              rw [HQ.out] at this
              exact this.kept hg7 (fun e => by have := hob _ e.symm; omega)
            · rw [hd]
              have := rowC_snoc (r := R[k]) (a := a') (c := c') HRC.out (by rw [HRK.out]; exact HTW.out)
              rw [HRK.out] at this
              exact this
            · have h5 := (HBW.out.grown HG3.out HBW.out.size (fun j hj => by injection hj with hj; have := HAE.out; omega)).grown HG5.out (Nat.le_trans HBW.out.size HG3.out.size) (fun j hj => by injection hj with hj; have := HAE.out; omega)
              exact h5.grown hg7 h5.size (fun j hj => by have := hob _ hj; have := HAE.out; omega)
            · exact Nat.le_trans HW5.out hg7.size)
          clear HO5 HS5 HM3 HG3 HG5 HO3 HS3 HO7 HG7 HW5
          go_roundg gg
          case measure => omega
          case rel => exact ⟨k + 1, by go_num, by omega, HR5⟩
      · have hkm : k = m := by omega
        have k1 : ¬ (k : Int) < (m : Int) := by omega
        have ht : R.take k = R := List.take_of_length_le (by rw [HRL.out]; omega)
        obtain ⟨cs, hown, hrc⟩ := HRD.out.first
        rw [ht] at hown hrc
        have HBW := Lib.hid HRD.out.below
        obtain ⟨a2, c2, rfl, hrow2⟩ := own_row hown hrc rfl HBW.out
        have hdl := dist_le R
        have hcc := copied_calls V (distP R) va vc a2 _ c2 W1 (by rw [HVL.out]; exact HV.out.on HBW.out) hrow2 (fun r hr => HWD.out r ((dist_mem R r).1 hr)) (by have := HR4.out; omega) (by have := HV32.out; omega)
        rw [HVL.out] at hcc
        have HCC := Lib.hid hcc
        have q2 : W1.cell? ⟨A, 0, none⟩ = some (.slice va n vc) := by rw [blk_cell HRD.out.arg]; rfl
        have HX2 := Lib.hid HRD.out.box
        have HXL := Lib.hid (blk_lt HRD.out.box)
        clear hcc hown hrc hrow2 hdl ht
        go_wp2_with (first
          | (go_at_call 53; refine HCC.out.mono ?_; rintro e w3 ⟨tv, rfl, hK3, hb3⟩; obtain ⟨va2, n2, vc2, ra2, m2, rc2, rfl, hT1, hT2⟩ := hK3; have HX3 := Lib.hid (blk_on HX2.out hb3 HXL.out); have HT1 := Lib.hid hT1; have HT2 := Lib.hid hT2; have HB3 := Lib.hid hb3; clear hT1 hT2 hb3)
          | (refine whole_abs 31 (.tmp 2) (.tmp 48) ⟨rfl, rfl⟩ (A + 1) #[.slice va2 n2 vc2, .slice ra2 m2 rc2] rfl rfl 31 #[.slice none 0 0, .slice none 0 0] HX3.out (by kernel_rfl) rfl (by kernel_rfl) ?_; intro w9 hA9 hG9))
        have q5 : w9.cell? ⟨A + 1, 0, none⟩ = some (.slice va2 n2 vc2) := by rw [blk_cell hA9.out]; rfl
        have q6 : w9.cell? ⟨A + 1, 1, none⟩ = some (.slice ra2 m2 rc2) := by rw [blk_cell hA9.out]; rfl
        have HS9 : Stay (fun i => W1.heap.size ≤ i) w3 w9 := (stay_row hG9.out).mono (fun i _ hi => by have := HXL.out; omega)
        refine bodyPost_ret (v := .tuple #[.agg #[.slice va2 n2 vc2, .slice ra2 m2 rc2], .int .i64 0]) (by simp [results, Tryz.results26, q5, q6, go_sem]) rfl ⟨_, rfl, ?_, ?_⟩
        · exact TabK.mono ⟨va2, n2, vc2, ra2, m2, rc2, rfl, HT1.out.on HS9, HT2.out.on HS9⟩ (fun i _ hi => Nat.le_trans HBW.out.size hi)
        · exact (fb2 HBW.out HB3.out (Nat.le_refl _)).grown hG9.out (Nat.le_trans HBW.out.size HB3.out.size) (fun j hj => by injection hj with hj; have := HAE.out; omega)

end Go.Proofs.YtkfemnjblbnclaaGreatDoor
