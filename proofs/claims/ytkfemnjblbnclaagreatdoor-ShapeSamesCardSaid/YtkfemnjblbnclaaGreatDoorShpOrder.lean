/- Rows in order: package shape's Order, for every table, every keys. -/
import Derived.Test.YtkfemnjblbnclaaGreatDoorShpDistinct
import Derived.Test.YtkfemnjblbnclaaGreatDoorShpLineSort
namespace Go.Proofs.YtkfemnjblbnclaaGreatDoor
open Go.RowKit Go.Maps

theorem info_line : (Tryz.prog.info? 75).map (fun i => (i.zero, i.size, i.bytes)) = some (some (.agg #[.slice none 0 0, .slice none 0 0]), 2, 48) := by kernel_rfl
theorem made_lines (N : Nat) : madeCells (Value.cells (.agg #[.slice none 0 0, .slice none 0 0])) (N * 2) = ((List.replicate N [nilV, nilV]).flatten).toArray := made_list (.agg #[.slice none 0 0, .slice none 0 0]) N [nilV, nilV] rfl (by decide)
theorem RankK.mono {K K' : Nat → Prop} {w : World} {a : Option Addr} {n c : Nat} {L : List (Nat × Bool)} (h : RankK K w a n c L) (hk : ∀ i, i < w.heap.size → K i → K' i) : RankK K' w a n c L := ⟨h.len, h.cap, h.most, fun h0 => by obtain ⟨g, o, e, hg, k, hc⟩ := h.cells h0; exact ⟨g, o, e, hg, hk g hg k, hc⟩⟩
/- the lines so far -/
def LinesTo (w : World) (G n : Nat) (R : List RowL) (cs : List Value) (k : Nat) : Prop := cs.length = R.length * 2 ∧ ∀ j (_ : j < k) (hj : j < R.length), ∃ x : Ln w G n, x.r = R[j] ∧ cs[j * 2]? = some (.slice x.ra n x.rc) ∧ cs[j * 2 + 1]? = some (.slice x.va n x.vc)
def Ln.on {w w' : World} {blk n : Nat} (x : Ln w blk n) (hs : Stay (fun i => i ≠ blk) w w') : Ln w' blk n := ⟨x.r, x.ra, x.rc, x.va, x.vc, x.val.on hs, x.trm.on hs⟩
theorem LinesTo.on {w w' : World} {G n : Nat} {R : List RowL} {cs : List Value} {k : Nat} (h : LinesTo w G n R cs k) (hs : Stay (fun i => i ≠ G) w w') : LinesTo w' G n R cs k := ⟨h.1, fun j hk hj => by
  obtain ⟨x, e1, e2, e3⟩ := h.2 j hk hj
  exact ⟨x.on hs, e1, e2, e3⟩⟩
theorem LinesTo.next {w : World} {G n : Nat} {R : List RowL} {cs ys : List Value} {k : Nat} (h : LinesTo w G n R cs k) (hk : k < R.length) (x : Ln w G n) (hx : x.r = R[k]) (hy : cs.take (k * 2) ++ [.slice x.ra n x.rc, .slice x.va n x.vc] ++ cs.drop (k * 2 + 2) = ys) : LinesTo w G n R ys (k + 1) := by
  obtain ⟨hl, h⟩ := h
  have el : (cs.take (k * 2)).length = k * 2 := by rw [List.length_take]; omega
  subst hy
  refine ⟨by simp only [List.length_append, List.length_take, List.length_drop, List.length_cons, List.length_nil]; omega, fun j hj hjR => ?_⟩
  by_cases e : j = k
  · subst e
    refine ⟨x, hx, ?_, ?_⟩
    · rw [List.append_assoc, List.getElem?_append_right (by omega), el, Nat.sub_self]; rfl
    · rw [List.append_assoc, List.getElem?_append_right (by omega), el, show j * 2 + 1 - j * 2 = 1 by omega]; rfl
  · obtain ⟨y, e1, e2, e3⟩ := h j (by omega) hjR
    refine ⟨y, e1, ?_, ?_⟩
    · rw [List.append_assoc, List.getElem?_append_left (by omega), List.getElem?_take_of_lt (by omega)]; exact e2
    · rw [List.append_assoc, List.getElem?_append_left (by omega), List.getElem?_take_of_lt (by omega)]; exact e3
/- the rows so far -/
def rowV {w : World} {blk n : Nat} (x : Ln w blk n) : Value := .slice x.ra n x.rc
def rowsTo {w : World} {blk n : Nat} (E : List (Ln w blk n)) (m k : Nat) : List Value := (E.take k).map rowV ++ List.replicate (m - k) nilV
theorem rowsTo_length {w : World} {blk n : Nat} {E : List (Ln w blk n)} {m k : Nat} (h : E.length = m) (hk : k ≤ m) : (rowsTo E m k).length = m := by unfold rowsTo; rw [List.length_append, List.length_map, List.length_take, List.length_replicate]; omega
theorem rowsTo_next {w : World} {blk n : Nat} {E : List (Ln w blk n)} {m k : Nat} (h : E.length = m) (hk : k < E.length) : (rowsTo E m k).set k (rowV E[k]) = rowsTo E m (k + 1) := by
  unfold rowsTo
  have e : ((E.take k).map rowV).length = k := by rw [List.length_map, List.length_take]; omega
  obtain ⟨j, hj⟩ : ∃ j, m - k = j + 1 := ⟨m - k - 1, by omega⟩
  rw [hj, show m - (k + 1) = j by omega, List.replicate_succ, List.set_append_right _ _ (by omega), e, Nat.sub_self, List.set_cons_zero, List.take_succ_eq_append_getElem hk, List.map_append, List.append_assoc]
  rfl
structure Ord2 {w0 : World} {blk n : Nat} (w : World) (A H : Nat) (vs rs : Value) (E : List (Ln w0 blk n)) (m k : Nat) (wr : World) : Prop where
  arg : Blk wr A 31 #[vs, rs]
  box : Blk wr (A + 1) 31 #[.slice none 0 0, .slice none 0 0]
  lines : Blk wr blk 75 (encL E).toArray
  rows : Blk wr H 51 (rowsTo E m k).toArray
  below : Below w.heap.size w wr
  stay : Stay (fun i => i ≠ blk) w0 wr
theorem rows_tab {w0 : World} {blk n : Nat} {E : List (Ln w0 blk n)} {m : Nat} {H : Nat} {w : World} (h : Blk w H 51 (rowsTo E m m).toArray) (hE : E.length = m) (hm : m ≤ maxLen) (hs : Stay (fun i => i ≠ blk) w0 w) : RowA w (some ⟨H, 0, none⟩) m m (E.map (·.r)) := by
  refine ⟨by rw [List.length_map, hE], Nat.le_refl _, hm, fun _ => ⟨H, 0, rfl, blk_lt h, fun j hj => ?_⟩⟩
  rw [List.length_map] at hj
  have e : (E.map (·.r))[j]'(by rw [List.length_map]; exact hj) = E[j].r := by rw [List.getElem_map]
  rw [e]
  have hl := E[j].trm.len
  refine ⟨E[j].ra, E[j].rc, ?_, ?_⟩
  · rw [blk_cell h, Nat.zero_add, hl]
    unfold rowsTo
    have hj2 : j < ((E.take m).map rowV).length := by rw [List.length_map, List.length_take]; omega
    show (((E.take m).map rowV ++ List.replicate (m - m) nilV).toArray)[j]? = _
    rw [List.getElem?_toArray, List.getElem?_append_left hj2, List.getElem?_map, List.getElem?_take_of_lt (by omega), List.getElem?_eq_getElem hj]
    rfl
  · rw [hl]; exact (E[j].trm.on hs).a
structure Ord1 (w : World) (A G : Nat) (vs rs : Value) (n : Nat) (R : List RowL) (k : Nat) (wr : World) : Prop where
  arg : Blk wr A 31 #[vs, rs]
  box : Blk wr (A + 1) 31 #[.slice none 0 0, .slice none 0 0]
  lines : ∃ cs, Blk wr G 75 cs.toArray ∧ LinesTo wr G n R cs k
  below : Below w.heap.size w wr

set_option maxRecDepth 100000 in
set_option maxHeartbeats 8000000 in
theorem order_calls (V : List (List UInt8)) (R : List RowL) (K : List KeyL) (hx : okV V) (hr : okR R) (hko : ∀ x ∈ K, okS x.n) (tv : Value) (ka : Option Addr) (mk kc : Nat) (w : World) (hg : Nm.Good w) (ht : TabA w tv V R) (hk : KeyA w ka mk kc K) :
    Calls Tryz.prog 23 #[tv, .slice ka mk kc] w fun e w' => ∃ uv, e = .returned (.tuple #[uv, .int .i64 (formZ (rightT V R))]) ∧ TabK (fun i => w.heap.size ≤ i) w' uv (onlyB (rightT V R) V) (onlyB (rightT V R) (orderP (aheadP V K) R)) ∧ Below w.heap.size w w' := by
  obtain ⟨i0, hi, hz0, hz1, hz2⟩ := info_parts info_row
  obtain ⟨i2, hi2, hz20, hz21, hz22⟩ := info_parts info_line
  have HKA := Lib.hid hk
  have HKO := Lib.hid hko
  have hkcp := hk.cap
  have hkms := hk.most
  obtain ⟨va, n, vc, ra, m, rc, rfl, hV, hR⟩ := ht
  have HRR := Lib.hid hr
  have HV := Lib.hid hV
  have HR := Lib.hid hR
  have HG := Lib.hid hg
  have HVL := Lib.hid hV.len
  have HRL := Lib.hid hR.len
  have hcp := hR.cap
  have hms := hR.most
  unfold maxLen at hms hkms
  obtain ⟨A, hA⟩ : ∃ A, w.heap.size = A := ⟨_, rfl⟩
  obtain ⟨W0, hW0⟩ : ∃ W0, (w.alloc (.cells #[.slice va n vc, .slice ra m rc] 31)).alloc (.cells #[.slice none 0 0, .slice none 0 0] 31) = W0 := ⟨_, rfl⟩
  have HB0 := Lib.hid (show Below w.heap.size w W0 by rw [← hW0]; exact fb2 (box_below _ _) (box_below _ _) (Nat.le_refl _))
  have HA0 := Lib.hid (show Blk W0 A 31 #[.slice va n vc, .slice ra m rc] by rw [← hW0, ← hA]; exact blk_alloc (blk_new _ _ _) _)
  have HX0 := Lib.hid (show Blk W0 (A + 1) 31 #[.slice none 0 0, .slice none 0 0] by
    rw [← hW0, ← hA]
    have := blk_new (w.alloc (.cells #[.slice va n vc, .slice ra m rc] 31)) 31 #[.slice none 0 0, .slice none 0 0]
    rw [show (w.alloc (.cells #[.slice va n vc, .slice ra m rc] 31)).heap.size = w.heap.size + 1 by simp] at this
    exact this)
  have HCK := Lib.hid (tCheck_calls V R hx hr (.agg #[.slice va n vc, .slice ra m rc]) W0 ⟨va, n, vc, ra, m, rc, rfl, hV.on HB0.out, hR.on HB0.out⟩)
  have HAE := Lib.hid hA
  have HW0 := Lib.hid hW0
  have HVO := Lib.hid hx
  clear hW0 hA hV hR hr hg hx hk hko
  cases hq : rightT V R with
  | false =>
    rw [hq, show formZ false = 2 from rfl] at HCK
    clear hq
    go_enter Tryz.func23, Tryz.ntmps23
    go_wp2_with fail
    rw [HW0.out, HAE.out]
    refine (HCK.out).mono ?_
    rintro e w1 ⟨rfl, hb1⟩
    have HA1 := Lib.hid (blk_on HA0.out hb1 (blk_lt HA0.out))
    have HX1 := Lib.hid (blk_on HX0.out hb1 (blk_lt HX0.out))
    have HB1 := Lib.hid (fb2 HB0.out hb1 (Nat.le_refl _))
    clear hb1
    go_wp2_with (refine whole_abs 31 (.tmp 4) (.tmp 18) ⟨rfl, rfl⟩ (A + 1) #[.slice none 0 0, .slice none 0 0] rfl rfl 31 #[.slice none 0 0, .slice none 0 0] HX1.out (by kernel_rfl) rfl (by kernel_rfl) ?_; intro w9 hA9 hG9)
    have q2 : w9.cell? ⟨A + 1, 0, none⟩ = some (.slice none 0 0) := by rw [blk_cell hA9.out]; rfl
    have q3 : w9.cell? ⟨A + 1, 1, none⟩ = some (.slice none 0 0) := by rw [blk_cell hA9.out]; rfl
    refine bodyPost_ret (v := .tuple #[.agg #[.slice none 0 0, .slice none 0 0], .int .i64 2]) (by simp [results, Tryz.results23, q2, q3, go_sem]) rfl ⟨_, rfl, tab_nil _ _, ?_⟩
    exact HB1.out.grown hG9.out HB1.out.size (fun j hj => by injection hj with hj; have := HAE.out; omega)
  | true =>
    rw [hq, show formZ true = 0 from rfl] at HCK
    have hq2 := hq
    unfold rightT at hq2
    simp only [Bool.and_eq_true, decide_eq_true_eq, List.all_eq_true] at hq2
    obtain ⟨⟨⟨hv32, hr4⟩, hnm⟩, hrow⟩ := hq2
    rw [names_is] at hnm
    simp only [Bool.and_eq_true, decide_eq_true_eq] at hnm
    have HND := Lib.hid hnm.2
    have HWD : Hid (∀ r ∈ R, r.length = V.length) := Lib.hid fun r hr => by
      have := hrow r hr
      unfold rowT at this
      simp only [Bool.and_eq_true, decide_eq_true_eq] at this
      exact this.1
    have HV32 := Lib.hid hv32
    have HR4 := Lib.hid hr4
    have hm4 : m ≤ 4096 := by have := HRL.out; omega
    have hn32 : n ≤ 32 := by have := HVL.out; omega
    clear hq hrow hv32 hr4 hnm
    go_enter Tryz.func23, Tryz.ntmps23
    go_wp2_with fail
    rw [HW0.out, HAE.out]
    refine (HCK.out).mono ?_
    rintro e w1 ⟨rfl, hb1⟩
    have hA1 := blk_on HA0.out hb1 (blk_lt HA0.out)
    have HX1 := Lib.hid (blk_on HX0.out hb1 (blk_lt HX0.out))
    have HB1 := Lib.hid (fb2 HB0.out hb1 (Nat.le_refl _))
    obtain ⟨G, hG⟩ : ∃ G, w1.heap.size = G := ⟨_, rfl⟩
    have HGE := Lib.hid hG
    have HAG := Lib.hid (show A + 1 < G by rw [← hG]; exact Nat.lt_of_lt_of_le (blk_lt HX0.out) hb1.size)
    have q0 : w1.cell? ⟨A, 0, none⟩ = some (.slice va n vc) := (blk_cell hA1 0).trans rfl
    have q1 : w1.cell? ⟨A, 1, none⟩ = some (.slice ra m rc) := (blk_cell hA1 1).trans rfl
    have HA1 := Lib.hid hA1
    clear hb1 hA1
    go_wp2_with (at_make; refine make_abs (.tmp 22) (.tmp 22) 72 ⟨rfl, rfl⟩ 75 i2 (.agg #[.slice none 0 0, .slice none 0 0]) 2 Tryz.underlying72 hi2 hz20 hz21 .i64 .i64 m rfl rfl (by rw [hz22]; omega) (by unfold maxLen; omega) G hG ?_; intro w2 hG2 hb2; have hA2 := blk_on HA1.out hb2.out (blk_lt HA1.out); have HA2 := Lib.hid hA2; have HX2 := Lib.hid (blk_on HX1.out hb2.out (blk_lt HX1.out)); have HG2 := Lib.hid hG2.out; have HB2 := Lib.hid (fb2 HB1.out hb2.out (Nat.le_refl _)); have q2 : w2.cell? ⟨A, 0, none⟩ = some (.slice va n vc) := (blk_cell hA2 0).trans rfl; have q3 : w2.cell? ⟨A, 1, none⟩ = some (.slice ra m rc) := (blk_cell hA2 1).trans rfl; clear hb2 hG2 hA2)
    have HS1 := Lib.hid (show Ord1 w A G (.slice va n vc) (.slice ra m rc) n R 0 w2 from ⟨HA2.out, HX2.out, ⟨_, by have := HG2.out; rw [made_lines] at this; exact this, by rw [HRL.out]; simp, fun j hj => absurd hj (Nat.not_lt_zero _)⟩, HB2.out⟩)
    clear q0 q1 q2 q3 HA2 HX2 HG2 HB2 HA1 HX1 HB1 hG
    go_loopg [8, 9, 27] m (fun g _ _ i wr => ∃ k : Nat, i = .int .i64 k ∧ k + g = m ∧ Hid (Ord1 w A G (.slice va n vc) (.slice ra m rc) n R k wr))
    case atStart => exact ⟨0, rfl, by omega, HS1⟩
    case round =>
      obtain ⟨W1, rfl⟩ : ∃ W1, W1 = wr := ⟨_, rfl⟩
      obtain ⟨k, rfl, hkg, HRD⟩ := hrel
      by_cases hk : k < m
      · obtain ⟨gg, rfl⟩ : ∃ gg, gk = gg + 1 := ⟨gk - 1, by omega⟩
        have hkR : k < R.length := by rw [HRL.out]; exact hk
        obtain ⟨g, o, ha, hgw, hcells⟩ := HR.out.cells (by omega)
        subst ha
        obtain ⟨a', c', hcell, htrm⟩ := hcells k hkR
        have hrk : R[k].length = n := (HWD.out _ (List.getElem_mem hkR)).trans HVL.out
        rw [hrk] at hcell htrm
        have HBW := Lib.hid HRD.out.below
        have hgW : g < W1.heap.size := Nat.lt_of_lt_of_le hgw HBW.out.size
        have c0 : W1.cell? ⟨g, o + k, none⟩ = some (.slice a' n c') := keptC hcell HBW.out hgw
        have HTW := Lib.hid (htrm.on HBW.out)
        have HTK := Lib.hid htrm.k
        have HLO := Lib.hid (lineOf_calls R[k] (HRR.out _ (List.getElem_mem hkR)) a' n c' W1 (HG.out.on HBW.out) HTW.out (by omega))
        obtain ⟨cs, hGB, hLT⟩ := HRD.out.lines
        have HGB := Lib.hid hGB
        have HLT := Lib.hid hLT
        have hfit : k * 2 + 2 ≤ cs.length := by have := hLT.1; omega
        have HA3 := Lib.hid HRD.out.arg
        have HX3 := Lib.hid HRD.out.box
        have HGW := Lib.hid (show w.heap.size ≤ G by have := HAE.out; have := HAG.out; omega)
        clear HRD hGB hLT hcell htrm hcells
        have k0 : (0 : Int) ≤ (k : Int) := by omega
        have k1 : (k : Int) < (m : Int) := by omega
        go_wp2_with (first
          | (go_at_call 48; refine HLO.out.mono ?_; rintro e w3 ⟨G', rfl, hvk, hb3⟩; have HVK := Lib.hid hvk; have HB3 := Lib.hid hb3; have HG3 := Lib.hid (blk_on HGB.out hb3 (blk_lt HGB.out)); clear hvk hb3 HLO)
          | (refine mid_abs 75 (.tmp 36) (.tmp 35) ⟨rfl, rfl⟩ G (k * 2) #[.slice a' n c', .slice (some ⟨G', 0, none⟩) n n] rfl rfl 75 cs _ HG3.out (by kernel_rfl) (by kernel_rfl) rfl (by simpa using hfit) ?_; intro w4 hG4 hg4))
        have HR5 := Lib.hid (show Ord1 w A G (.slice va n vc) (.slice (some ⟨g, o, none⟩) m rc) n R (k + 1) w4 from by
          have hst : Stay (fun i => i ≠ G) W1 w4 := (stay_below HB3.out).trans (stay_row hg4.out)
          have hst2 : Stay (fun i => i ≠ G) w w4 := (stay_below HBW.out).trans hst
          have hag := HAG.out
          refine ⟨blk_grown (blk_on HA3.out HB3.out (blk_lt HA3.out)) (by omega) hg4.out, blk_grown (blk_on HX3.out HB3.out (blk_lt HX3.out)) (by omega) hg4.out, ⟨_, hG4.out, (HLT.out.on hst).next hkR ⟨R[k], a', c', some ⟨G', 0, none⟩, n, ?_, ?_⟩ rfl rfl⟩, (fb2 HBW.out HB3.out (Nat.le_refl _)).grown hg4.out (Nat.le_trans HBW.out.size HB3.out.size) (fun j hj => by injection hj with hj; have := HGW.out; omega)⟩
          · have hlt := blk_lt HGB.out
            exact (HVK.out.mono (K' := fun i => i ≠ G) (fun i _ hi => by omega)).on (stay_row hg4.out)
          · have hgw := HGW.out
            exact (HTK.out.mono (K' := fun i => i ≠ G) (fun i hi _ => by omega)).on hst2)
        clear hG4 hg4 HG3 HB3 HVK
        go_roundg gg
        case measure => omega
        case rel => exact ⟨k + 1, by go_num, by omega, HR5⟩
      · have hkm : k = m := by omega
        have k1 : ¬ (k : Int) < (m : Int) := by omega
        rw [hkm] at HRD
        have HBW := Lib.hid HRD.out.below
        have HRK := Lib.hid (ranks_calls V K HVO.out HKO.out HND.out (by have := HV32.out; omega) va n vc ka mk kc W1 (HV.out.on HBW.out) (HKA.out.on HBW.out))
        have HLR := Lib.hid (fun p (hp : p ∈ onceC (rankP V K)) => once_lt (V := V) (K := K) hp)
        have HON := Lib.hid (show rowP (onceC (rankP V K)) = aheadP V K from by funext a b; exact rowP_once (rankP V K) a b)
        have HZE := Lib.hid (fun a (ha : a ∈ R) b (hb : b ∈ R) => ahead_zero (V := V) (K := K) (HWD.out a ha) (HWD.out b hb))
        obtain ⟨L, hL⟩ : ∃ L, onceC (rankP V K) = L := ⟨_, rfl⟩
        rw [hL] at HRK HLR HON
        rw [HVL.out] at HLR
        obtain ⟨l, hl⟩ : ∃ l, L.length = l := ⟨_, rfl⟩
        rw [hl] at HRK
        have HLL := Lib.hid hl
        have q2 : W1.cell? ⟨A, 0, none⟩ = some (.slice va n vc) := (blk_cell HRD.out.arg 0).trans rfl
        have HA3 := Lib.hid HRD.out.arg
        have HX3 := Lib.hid HRD.out.box
        have HLN := Lib.hid HRD.out.lines
        have HGW := Lib.hid (show w.heap.size ≤ G by have := HAE.out; have := HAG.out; omega)
        have HGL := Lib.hid (show G < W1.heap.size by obtain ⟨cs, hc, _⟩ := HRD.out.lines; exact blk_lt hc)
        clear HRD hL hl
        go_wp2_with fail
        refine HRK.out.mono ?_
        rintro e w3 ⟨rv, rfl, hrv, hb3⟩
        obtain ⟨a2, c2, rfl, hrk2⟩ := own_rank hrv HLL.out
        have HRN := Lib.hid hrk2
        obtain ⟨rb, hrb⟩ : ∃ rb, w3.heap.size = rb := ⟨_, rfl⟩
        have HRB := Lib.hid hrb
        obtain ⟨W4, hW4⟩ : ∃ W4, w3.alloc (.cells #[.slice a2 l c2] 77) = W4 := ⟨_, rfl⟩
        have HW4 := Lib.hid hW4
        have HB4 := Lib.hid (show Below W1.heap.size W1 W4 by rw [← hW4]; exact fb2 hb3 (box_below _ _) (Nat.le_refl _))
        have HRC := Lib.hid (show Blk W4 rb 77 #[.slice a2 l c2] by rw [← hW4, ← hrb]; exact blk_new _ _ _)
        have HRK4 := Lib.hid (show RankK (fun i => i ≠ G) W4 a2 l c2 L from (HRN.out.mono (K' := fun i => i ≠ G) (fun i _ hi => by have := HGL.out; omega)).on (by rw [← hW4]; exact stay_below (box_below _ _)))
        have HRL2 := Lib.hid (show G < rb by have := HGL.out; have := hb3.size; omega)
        clear hrv hb3 hrk2 hrb hW4 HRK HRN
        have HA4 := Lib.hid (blk_on HA3.out HB4.out (blk_lt HA3.out))
        have HX4 := Lib.hid (blk_on HX3.out HB4.out (blk_lt HX3.out))
        have HBW4 := Lib.hid (fb2 HBW.out HB4.out (Nat.le_refl _))
        have hgl := HGL.out
        have hln := HLN.out
        obtain ⟨cs, hGB, hLT⟩ := hln
        have hLT4 := hLT.on (stay_below HB4.out)
        obtain ⟨D, hD1, hD2⟩ := lines_of hLT4.1 (fun j hj => hLT4.2 j (by have := HRL.out; omega) hj)
        have hG4 := blk_on hGB HB4.out (blk_lt hGB)
        rw [← hD2] at hG4
        have hDl : D.length = m := by rw [← HRL.out, ← hD1, List.length_map]
        have hgd := HG.out
        have hsc := sortL_calls D L HLR.out (by rw [hD1, HON.out]; exact HZE.out) rb a2 l c2 ⟨hgd.on HBW4.out, ⟨by have := hgd.big; have := HGW.out; omega, by have := hgd.big2; have := HGW.out; omega⟩, (blk_cell HRC.out 0).trans rfl, blk_lt HRC.out, by have := HRL2.out; omega, HRK4.out⟩ hG4 (by omega)
        rw [hDl, hD1, HON.out] at hsc
        have HSC := Lib.hid hsc
        have HDL := Lib.hid hDl
        have HG4 := Lib.hid hG4
        clear hsc hG4 hGB hLT hLT4 HLN hD1 hD2 hDl hgd hgl
        go_wp2_with fail
        rw [HRB.out, HW4.out]
        refine HSC.out.mono ?_
        rintro e w5 ⟨rfl, hg5, E, hEl, hG5, hEo⟩
        have HEO := Lib.hid hEo
        have HEL := Lib.hid hEl
        have HG5 := Lib.hid hG5
        have HGR5 := Lib.hid hg5
        clear hg5 hEl hG5 hEo HSC
        obtain ⟨H, hH⟩ : ∃ H, w5.heap.size = H := ⟨_, rfl⟩
        have HHE := Lib.hid hH
        have HA5 := Lib.hid (blk_grown HA4.out (by have := HAG.out; omega) HGR5.out)
        have HX5 := Lib.hid (blk_grown HX4.out (by have := HAG.out; omega) HGR5.out)
        have HB5 := Lib.hid (HBW4.out.grown HGR5.out HBW4.out.size (fun j hj => by injection hj with hj; have := HGW.out; omega))
        go_wp2_with (at_make; refine make_abs (.tmp 46) (.tmp 46) 29 ⟨rfl, rfl⟩ 51 i0 (.slice none 0 0) 1 Tryz.underlying29 hi hz0 hz1 .i64 .i64 m rfl rfl (by rw [hz2]; omega) (by unfold maxLen; omega) H hH ?_; intro w6 hH6 hb6; have HH6 := Lib.hid hH6.out; have HB6 := Lib.hid hb6.out; clear hb6 hH6)
        have HS2 := Lib.hid (show Ord2 w A H (.slice va n vc) (.slice ra m rc) E m 0 w6 from by
          refine ⟨blk_on HA5.out HB6.out (blk_lt HA5.out), blk_on HX5.out HB6.out (blk_lt HX5.out), blk_on HG5.out HB6.out (blk_lt HG5.out), ?_, fb2 HB5.out HB6.out (Nat.le_refl _), (stay_row HGR5.out).trans (stay_below HB6.out)⟩
          have := HH6.out
          rw [made_rows] at this
          rw [show rowsTo E m 0 = List.replicate m nilV by unfold rowsTo; simp]
          exact this)
        have HGH := Lib.hid (show A + 1 < H ∧ G < H ∧ W4.heap.size ≤ H by rw [← hH]; exact ⟨blk_lt HX5.out, blk_lt HG5.out, HGR5.out.size⟩)
        have HEL2 := Lib.hid (show E.length = m from HEL.out.trans (by first | exact HDL.out | rfl))
        clear hH HA5 HX5 HB5 HH6 HB6 HG5 HGR5 HA4 HX4 HBW4 HB4 HRC HRK4 HA3 HX3 HBW HG4 q2
        go_loopg [12, 50] m (fun g _ i wr => ∃ k : Nat, i = .int .i64 k ∧ k + g = m ∧ Hid (Ord2 w A H (.slice va n vc) (.slice ra m rc) E m k wr))
        case atStart => exact ⟨0, rfl, by omega, HS2⟩
        case round =>
          obtain ⟨W6, rfl⟩ : ∃ W6, W6 = wr := ⟨_, rfl⟩
          obtain ⟨j, rfl, hjg, HRD⟩ := hrel
          by_cases hjm : j < m
          · obtain ⟨gg, rfl⟩ : ∃ gg, gk = gg + 1 := ⟨gk - 1, by omega⟩
            have hjE : j < E.length := by rw [HEL2.out]; exact hjm
            have HNX := Lib.hid (rowsTo_next HEL2.out hjE)
            have hc0 : W6.cell? ⟨G, j * 2, none⟩ = some (.slice E[j].ra n E[j].rc) := by
              rw [blk_cell HRD.out.lines]
              have := encL_at E j hjE 0 (by omega)
              simpa [Ln.enc] using this
            have hc1 : W6.cell? ⟨G, j * 2 + 1, none⟩ = some (.slice E[j].va n E[j].vc) := by
              rw [blk_cell HRD.out.lines]
              have := encL_at E j hjE 1 (by omega)
              simpa [Ln.enc] using this
            have hfit : j < (rowsTo E m j).length := by rw [rowsTo_length HEL2.out (by omega)]; exact hjm
            have HFI := Lib.hid hfit
            unfold rowV at HNX
            generalize E[j].ra = xa at hc0 HNX
            generalize E[j].rc = xc at hc0 HNX
            generalize E[j].va = xb at hc1
            generalize E[j].vc = xd at hc1
            have HBX := Lib.hid (box_below W6 (.cells #[.slice xa n xc, .slice xb n xd] 75))
            have HH2 := Lib.hid (blk_alloc HRD.out.rows (.cells #[.slice xa n xc, .slice xb n xd] 75))
            have k0 : (0 : Int) ≤ (j : Int) := by omega
            have k1 : (j : Int) < (m : Int) := by omega
            clear hfit
            go_wp2_with (refine one_abs 51 (.tmp 59) (.tmp 58) ⟨rfl, rfl⟩ H j (.slice xa n xc) rfl rfl rfl rfl 51 _ HH2.out (by kernel_rfl) HFI.out ?_; intro w7 hH7 hg7)
            have HR5 := Lib.hid (show Ord2 w A H (.slice va n vc) (.slice ra m rc) E m (j + 1) w7 from by
              have hgh := HGH.out
              have hr := HRD.out
              refine ⟨blk_grown (blk_on hr.arg HBX.out (blk_lt hr.arg)) (by omega) hg7.out, blk_grown (blk_on hr.box HBX.out (blk_lt hr.box)) (by omega) hg7.out, blk_grown (blk_on hr.lines HBX.out (blk_lt hr.lines)) (by omega) hg7.out, ?_, ?_, ?_⟩
              · rw [← HNX.out]; exact hH7.out
              · exact (fb2 hr.below HBX.out (Nat.le_refl _)).grown hg7.out (Nat.le_trans hr.below.size HBX.out.size) (fun i hi => by injection hi with hi; have := HGW.out; omega)
              · have hs := hr.stay.trans (stay_below HBX.out)
                exact ⟨Nat.le_trans hs.size hg7.out.size, fun i hi hne => (hg7.out.block i (Nat.lt_of_lt_of_le hi hs.size) (fun e => by injection e with e; omega)).trans (hs.block i hi hne)⟩)
            clear hH7 hg7
            go_roundg gg
            case measure => omega
            case rel => exact ⟨j + 1, by go_num, by omega, HR5⟩
          · have hjm2 : j = m := by omega
            have k1 : ¬ (j : Int) < (m : Int) := by omega
            rw [hjm2] at HRD
            have HBW := Lib.hid HRD.out.below
            have hrow2 := rows_tab HRD.out.rows HEL2.out (by unfold maxLen; omega) HRD.out.stay
            rw [HEO.out] at hrow2
            have hpm := order_perm (aheadP V K) R
            have hcc := copied_calls V (orderP (aheadP V K) R) va vc (some ⟨H, 0, none⟩) m m W6 (by rw [HVL.out]; exact HV.out.on HBW.out) hrow2 (fun r hr => HWD.out r (hpm.mem_iff.1 hr)) (by omega) (by have := HV32.out; omega)
            rw [HVL.out] at hcc
            have HCC := Lib.hid hcc
            have q2 : W6.cell? ⟨A, 0, none⟩ = some (.slice va n vc) := (blk_cell HRD.out.arg 0).trans rfl
            have HX2 := Lib.hid HRD.out.box
            have HXL := Lib.hid (blk_lt HRD.out.box)
            clear hcc hrow2 hpm
            go_wp2_with (first
              | (go_at_call 53; refine HCC.out.mono ?_; rintro e w3 ⟨tv, rfl, hK3, hb3⟩; obtain ⟨va2, n2, vc2, ra2, m2, rc2, rfl, hT1, hT2⟩ := hK3; have HX3 := Lib.hid (blk_on HX2.out hb3 HXL.out); have HT1 := Lib.hid hT1; have HT2 := Lib.hid hT2; have HB3 := Lib.hid hb3; clear hT1 hT2 hb3)
              | (refine whole_abs 31 (.tmp 4) (.tmp 64) ⟨rfl, rfl⟩ (A + 1) #[.slice va2 n2 vc2, .slice ra2 m2 rc2] rfl rfl 31 #[.slice none 0 0, .slice none 0 0] HX3.out (by kernel_rfl) rfl (by kernel_rfl) ?_; intro w9 hA9 hG9))
            have q5 : w9.cell? ⟨A + 1, 0, none⟩ = some (.slice va2 n2 vc2) := by rw [blk_cell hA9.out]; rfl
            have q6 : w9.cell? ⟨A + 1, 1, none⟩ = some (.slice ra2 m2 rc2) := by rw [blk_cell hA9.out]; rfl
            have HS9 : Stay (fun i => W6.heap.size ≤ i) w3 w9 := (stay_row hG9.out).mono (fun i _ hi => by have := HXL.out; omega)
            refine bodyPost_ret (v := .tuple #[.agg #[.slice va2 n2 vc2, .slice ra2 m2 rc2], .int .i64 0]) (by simp [results, Tryz.results23, q5, q6, go_sem]) rfl ⟨_, rfl, ?_, ?_⟩
            · exact TabK.mono ⟨va2, n2, vc2, ra2, m2, rc2, rfl, HT1.out.on HS9, HT2.out.on HS9⟩ (fun i _ hi => Nat.le_trans HBW.out.size hi)
            · exact (fb2 HBW.out HB3.out (Nat.le_refl _)).grown hG9.out (Nat.le_trans HBW.out.size HB3.out.size) (fun j hj => by injection hj with hj; have := HAE.out; omega)

end Go.Proofs.YtkfemnjblbnclaaGreatDoor
