/- GrpNames, GrpText, put together. -/
import Derived.Test.YtdnfaoanaehjhaaGreatDoorH9
import Derived.Test.YtdnfaoanaehjhaaGreatDoorH8
import Derived.Test.YtdnfaoanaehjhaaGreatDoorH10

/- Package group: the place of each variable; the aggregates' names, and what they are over; are texts names, each once; is an aggregate wrong? -/
namespace Go.Proofs.YtdnfaoanaehjhaaGreatDoor
open Go.RowKit Go.Maps Go.Shelf

set_option maxRecDepth 100000 in
set_option maxHeartbeats 2000000 in
theorem gcols_calls (L : List (List UInt8)) (hL : ∀ x ∈ L, okS x) (a : Option Addr) (n c : Nat) (w : World) (h : TxtA w a n c L) :
    Calls Tryz.prog 28 #[.slice a n c] w fun e w' => ∃ b, e = .returned (.map (some b)) ∧ b = w.heap.size ∧ MapS w' b (cntL L) (colF L) ∧ Below w.heap.size w w' := by
  have HV := Lib.hid h
  have HOK := Lib.hid hL
  have HL := Lib.hid h.len
  have hcp := h.cap
  have hms := h.most
  unfold maxLen at hms
  obtain ⟨B, hB⟩ : ∃ B, B = w.heap.size := ⟨_, rfl⟩
  have HM0 := Lib.hid (show ColR w B L 0 (w.alloc (.map #[] 0)) from ⟨by rw [hB, List.take_zero]; exact map_made _ _ _ w, box_below _ _⟩)
  have HBS := Lib.hid hB
  have hmm := fun W => run_makeMapH (n : Int) W
  clear h hL hB
  go_enter Tryz.func28, Tryz.ntmps28
  go_wp2
  rw [← HBS.out]
  clear hmm
  go_loopg [4, 5, 11] n (fun g _ _ i wr => ∃ k : Nat, i = .int .i64 k ∧ k + g = n ∧ Hid (ColR w B L k wr))
  case atStart => exact ⟨0, rfl, by omega, HM0⟩
  case round =>
    obtain ⟨W1, rfl⟩ : ∃ W1, W1 = wr := ⟨_, rfl⟩
    obtain ⟨k, rfl, hkg, HR⟩ := hrel
    by_cases hk : k < n
    · have hkL : k < L.length := by rw [HL.out]; exact hk
      obtain ⟨gg, rfl⟩ : ∃ gg, gk = gg + 1 := ⟨gk - 1, by omega⟩
      obtain ⟨g, o, ha, hgw, hcells⟩ := HV.out.cells (by omega)
      subst ha
      have hgW : g < W1.heap.size := Nat.lt_of_lt_of_le hgw HR.out.2.size
      have c0 := (HR.out.2.cell (p := ⟨g, o + k, none⟩) hgw).trans (hcells k hkL)
      have hok := Lib.hid (HOK.out _ (List.getElem_mem hkL))
      have HS := Lib.hid (show cntL (L.take k) < maxLen by
        have := cnt_le (L.take k)
        rw [List.length_take] at this
        unfold maxLen
        omega)
      have HWF := Lib.hid (wf_nat (n := k) (by omega))
      have HNX := Lib.hid (fun w1 h1 h2 => HR.out.next (w1 := w1) hkL (by rw [HBS.out]; exact Nat.le_refl _) h1 h2)
      clear hcells
      generalize L[k] = y at c0 hok HNX
      have k0 : (0 : Int) ≤ (k : Int) := by omega
      have k1 : (k : Int) < (n : Int) := by omega
      go_wp2_with (first | (at_mapUpdate; refine wpList_put_g rfl _ _ _ 62 rfl keyS Tryz.underlying62 rfl HR.out.1 HS.out y hok.out rfl (k : Int) rfl HWF.out ?_; intro w1 h1 h2; have HN2 := Lib.hid (HNX.out w1 h1 h2); clear h1 h2) | go_in)
      go_roundg gg
      case measure => omega
      case rel => exact ⟨k + 1, by go_num, by omega, HN2⟩
    · have HE := Lib.hid (show L.take k = L from List.take_of_length_le (by rw [HL.out]; omega))
      have k1 : ¬ (k : Int) < (n : Int) := by omega
      go_wp2
      go_ret
      have hr := HR.out
      unfold ColR at hr
      rw [HE.out] at hr
      exact ⟨B, rfl, HBS.out, hr.1, hr.2⟩

def nmArr (l : List AggL) (k : Nat) : List Value := (l.take k).map (fun g => .string (bs g.m)) ++ List.replicate (l.length - k) (.string ⟨#[]⟩)
theorem nm_set {l : List AggL} {k : Nat} (hk : k < l.length) : (nmArr l k).set k (.string (bs l[k].m)) = nmArr l (k + 1) := by
  obtain ⟨j, hj⟩ : ∃ j, l.length - k = j + 1 := ⟨l.length - k - 1, by omega⟩
  have hj2 : l.length - (k + 1) = j := by omega
  have hl : ((l.take k).map (fun g : AggL => Value.string (bs g.m))).length = k := by rw [List.length_map, List.length_take]; omega
  unfold nmArr
  rw [hj, hj2, List.take_succ_eq_append_getElem hk, List.map_append, List.replicate_succ, List.set_append_right (h := by rw [hl]; exact Nat.le_refl _), hl, Nat.sub_self, List.set_cons_zero, List.append_assoc]
  rfl
theorem nm_end (l : List AggL) : nmArr l l.length = textCells (aggNames l) := by
  unfold nmArr textCells aggNames
  rw [List.take_length, Nat.sub_self, List.replicate_zero, List.append_nil, List.map_map]; rfl
theorem txtA_blk {w : World} {g n : Nat} {V : List (List UInt8)} {T : TypeId} (h : Blk w g T (textCells V).toArray) (hn : V.length = n) (hm : n ≤ maxLen) : TxtA w (some ⟨g, 0, none⟩) n n V := by
  refine ⟨hn, Nat.le_refl _, hm, fun _ => ⟨g, 0, rfl, blk_lt h, fun j hj => ?_⟩⟩
  rw [blk_cell h]
  unfold textCells
  simp [hj]

set_option maxRecDepth 100000 in
set_option maxHeartbeats 2000000 in
theorem namesOf_calls (G : List AggL) (a : Option Addr) (n c : Nat) (w : World) (hV : AgA w a n c G) (h6 : n ≤ 1000000) :
    Calls Tryz.prog 27 #[.slice a n c] w fun e w' => ∃ g, e = .returned (.slice (some ⟨g, 0, none⟩) n n) ∧ Blk w' g 9 (textCells (aggNames G)).toArray ∧ Below w.heap.size w w' := by
  obtain ⟨i0, hi, hz0, hz1, hz2⟩ := info_parts info_text
  have HV := Lib.hid hV
  have HVL := Lib.hid hV.len
  have hvc := hV.cap
  have hvm := hV.most
  unfold maxLen at hvm
  obtain ⟨A, hA⟩ : ∃ A, w.heap.size = A := ⟨_, rfl⟩
  have HAE := Lib.hid hA
  clear hV
  go_enter Tryz.func27, Tryz.ntmps27
  go_wp2_with (at_make; refine make_abs (.tmp 7) (.tmp 7) 22 ⟨rfl, rfl⟩ 9 i0 (.string ⟨#[]⟩) 1 Tryz.underlying22 hi hz0 hz1 .i64 .i64 n rfl rfl (by rw [hz2]; omega) (by unfold maxLen; omega) A HAE.out ?_; intro w0 hG0 hb0; have HG0 := Lib.hid hG0.out; have HB0 := Lib.hid hb0.out; clear hG0 hb0)
  have HM0 := Lib.hid (show Blk w0 A 9 (nmArr G 0).toArray from by
    have := HG0.out
    have hm : madeCells (Value.cells (.string ⟨#[]⟩)) (n * 1) = ((List.replicate n [Value.string ⟨#[]⟩]).flatten).toArray := made_list (.string ⟨#[]⟩) n [.string ⟨#[]⟩] rfl (by decide)
    rw [hm] at this
    unfold nmArr
    rw [List.take_zero, List.map_nil, List.nil_append, Nat.sub_zero, HVL.out]
    simpa using this)
  clear hA
  go_loopg [4, 11] n (fun g _ i wr => ∃ k : Nat, i = .int .i64 k ∧ k + g = n ∧ Hid (Blk wr A 9 (nmArr G k).toArray) ∧ Hid (Below w.heap.size w wr))
  case atStart => exact ⟨0, rfl, by omega, HM0, HB0⟩
  case round =>
    obtain ⟨W1, rfl⟩ : ∃ W1, W1 = wr := ⟨_, rfl⟩
    obtain ⟨k, rfl, hkg, HM, HBW⟩ := hrel
    by_cases hk : k < n
    · obtain ⟨gg, rfl⟩ : ∃ gg, gk = gg + 1 := ⟨gk - 1, by omega⟩
      have hkL : k < G.length := by rw [HVL.out]; exact hk
      obtain ⟨g, o, ha, hgw, hcells⟩ := HV.out.cells (by omega)
      subst ha
      have hgW : g < W1.heap.size := Nat.lt_of_lt_of_le hgw HBW.out.size
      have hMW := blk_lt HM.out
      obtain ⟨c0, c1, c2⟩ := (hcells k hkL).on HBW.out hgw
      have HSET := Lib.hid (nm_set hkL)
      have HSZ := Lib.hid (show k < (nmArr G k).length by unfold nmArr; rw [List.length_append, List.length_map, List.length_take, List.length_replicate]; omega)
      clear hcells
      generalize G[k] = y at c0 c1 c2 HSET
      obtain ⟨yk, yo, ym⟩ := y
      dsimp only at c0 c1 c2 HSET
      have hk0 : (0 : Int) ≤ (k : Int) := by omega
      have hkn : (k : Int) < (n : Int) := by omega
      go_wp2_with (refine one_abs 9 (.tmp 20) (.tmp 19) ⟨rfl, rfl⟩ A k (.string (bs ym)) rfl rfl rfl rfl 9 (nmArr G k) (blk_alloc HM.out _) (by kernel_rfl) HSZ.out ?_; intro w5 h5 g5)
      go_roundg gg
      case measure => omega
      case rel => exact ⟨k + 1, by go_num, by omega, Lib.hid (by have := h5.out; rw [HSET.out] at this; exact this), Lib.hid ((fb2 HBW.out (box_below _ _) (Nat.le_refl _)).grown g5.out (Nat.le_trans HBW.out.size (by simp)) (fun q hq => by injection hq with hq; have := HAE.out; omega))⟩
    · have hkn : k = n := by omega
      subst hkn
      have k1 : ¬ (k : Int) < (k : Int) := by omega
      have HT := Lib.hid (show Blk W1 A 9 (textCells (aggNames G)).toArray from by have := HM.out; rw [show nmArr G k = textCells (aggNames G) from by rw [← HVL.out]; exact nm_end G] at this; exact this)
      go_wp2
      go_ret
      exact ⟨A, rfl, HT.out, HBW.out⟩

set_option maxHeartbeats 1000000 in
theorem areNames1_calls (x : List UInt8) (hx : okS x) (w : World) : Calls Tryz.prog 62 #[.string (bs x)] w fun e w' => e = .returned (.bool (!nameL x)) ∧ Below w.heap.size w w' := by
  have HC := Lib.hid (fun W => IsName_calls (bs x) W hx)
  simp only [bs_data] at HC
  clear hx
  go_enter Tryz.func62, Tryz.ntmps62
  go_wp2_with fail
  refine (HC.out _).mono ?_
  rintro e w1 ⟨rfl, hb1⟩
  have HB := Lib.hid hb1
  clear hb1
  go_wp2
  go_ret
  exact ⟨rfl, HB.out⟩

set_option maxRecDepth 100000 in
set_option maxHeartbeats 2000000 in
theorem areNames_calls (V : List (List UInt8)) (hV : ∀ x ∈ V, okS x) (a : Option Addr) (n c : Nat) (w : World) (h : TxtA w a n c V) :
    Calls Tryz.prog 31 #[.slice a n c] w fun e w' => e = .returned (.bool (namesB [] V)) ∧ Below w.heap.size w w' := by
  have eg : ∀ args w, (callFunc 62 args).run Tryz.prog w = .ok (.enter 62 args) w := enters_of Tryz.func62 (by kernel_rfl) rfl
  have HC := Lib.hid (gcols_calls V hV a n c w h)
  have HH := Lib.hid (fun W h => hasS_calls V (fun x => !nameL x) 62 #[] eg a n c W h (fun W j hj _ => areNames1_calls V[j] (hV _ (List.getElem_mem hj)) W))
  have HIN := Lib.hid h
  have HL := Lib.hid h.len
  have HA := Lib.hid (all_any nameL V)
  have HN := Lib.hid (names_is V)
  have HCL := Lib.hid (cnt_le V)
  have HCN := Lib.hid (cnt_nodup V)
  have hcp := h.cap
  have hms := h.most
  unfold maxLen at hms
  clear h hV eg
  go_enter Tryz.func31, Tryz.ntmps31
  go_wp2_with fail
  refine HC.out.mono ?_
  rintro e w1 ⟨b, rfl, hbw, hm, hb1⟩
  have hlen := fun ty => run_len_g Tryz.underlying62 hm ty
  have HB := Lib.hid hb1
  clear hb1 hm hbw
  obtain ⟨s, hs⟩ : ∃ s, cntL V = s := ⟨_, rfl⟩
  rw [hs] at hlen
  by_cases hd : s = n
  · have hd1 : ((s : Int) == (n : Int)) = true := beq_iff_eq.2 (by omega)
    have hd2 : (s == n) = true := beq_iff_eq.2 hd
    have HE := Lib.hid (show namesB [] V = !(V.any fun x => !nameL x) by
      rw [HN.out, HA.out, decide_eq_true (HCN.out.1 (by rw [hs, HL.out]; exact hd))]; simp)
    have HH1 := Lib.hid (HH.out w1 (HIN.out.on HB.out))
    clear hs hd
    generalize (V.any fun x => !nameL x) = q at HE HH1
    go_wp2_with fail
    refine HH1.out.mono ?_
    rintro e w2 ⟨rfl, hb2⟩
    have HB2 := Lib.hid (bnext HB.out hb2)
    clear hb2 hlen
    go_wp2
    go_ret
    exact ⟨by rw [HE.out]; rfl, HB2.out⟩
  · have hd1 : ((s : Int) == (n : Int)) = false := beq_eq_false_iff_ne.2 (by omega)
    have hd2 : (s == n) = false := beq_eq_false_iff_ne.2 hd
    have HE := Lib.hid (show namesB [] V = false by
      rw [HN.out, decide_eq_false (show ¬ V.Nodup from fun c => hd (by have := HCN.out.2 c; rw [hs, HL.out] at this; exact this))]; simp)
    clear hs hd
    go_wp2
    go_ret
    exact ⟨by rw [HE.out]; rfl, HB.out⟩

theorem eq_empty (x : List UInt8) : ((bs x).toList == ([] : List UInt8)) = decide (x = []) := by
  rw [bs_toList]
  cases x with
  | nil => rfl
  | cons a r => rfl
theorem empty_is (x : List UInt8) : (bs x).toList.isEmpty = decide (x = []) := by
  rw [bs_toList]
  cases x <;> rfl

set_option maxRecDepth 100000 in
set_option maxHeartbeats 2000000 in
theorem isWrong_calls (g : AggL) (hx : (bs g.o).size ≤ maxLen) (w : World) :
    Calls Tryz.prog 33 #[g.v] w fun e w' => e = .returned (.bool (!aggB g)) ∧ Below w.heap.size w w' := by
  have HNM := Lib.hid (fun W => IsName_calls (bs g.o) W hx)
  simp only [bs_data] at HNM
  have HAB := Lib.hid (show aggB g = (decide (1 ≤ g.k ∧ g.k ≤ 4) && (if g.o = [] then decide (g.k = 1) else nameL g.o)) from rfl)
  have HZ := empty_is g.o
  clear hx
  generalize aggB g = q at HAB ⊢
  obtain ⟨gk, go, gm⟩ := g
  dsimp only at HNM HAB HZ
  simp only [AggL.v]
  by_cases k1 : gk < 1
  · have HE := Lib.hid (show q = false by rw [HAB.out, decide_eq_false (by omega)]; rfl)
    go_enter Tryz.func33, Tryz.ntmps33
    go_wp2
    go_ret
    exact ⟨by rw [HE.out]; rfl, box_below _ _⟩
  by_cases k4 : 4 < gk
  · have HE := Lib.hid (show q = false by rw [HAB.out, decide_eq_false (by omega)]; rfl)
    go_enter Tryz.func33, Tryz.ntmps33
    go_wp2
    go_ret
    exact ⟨by rw [HE.out]; rfl, box_below _ _⟩
  replace HAB := Lib.hid (show q = (if go = [] then decide (gk = 1) else nameL go) by rw [HAB.out, decide_eq_true (show 1 ≤ gk ∧ gk ≤ 4 by omega)]; rfl)
  by_cases hz : go = []
  · rw [decide_eq_true hz] at HZ
    have HE := Lib.hid (HAB.out.trans (if_pos hz))
    by_cases h1 : gk = 1
    · have g1 : (gk == 1) = true := beq_iff_eq.2 h1
      have g2 : (gk != 1) = false := by rw [h1]; rfl
      have HE2 := Lib.hid (HE.out.trans (decide_eq_true h1))
      clear HE h1 hz HNM HAB
      go_enter Tryz.func33, Tryz.ntmps33
      go_wp2
      go_ret
      exact ⟨by rw [HE2.out]; rfl, box_below _ _⟩
    · have g1 : (gk == 1) = false := beq_eq_false_iff_ne.2 h1
      have g2 : (gk != 1) = true := bne_iff_ne.2 h1
      have HE2 := Lib.hid (HE.out.trans (decide_eq_false h1))
      clear HE h1 hz HNM HAB
      go_enter Tryz.func33, Tryz.ntmps33
      go_wp2
      go_ret
      exact ⟨by rw [HE2.out]; rfl, box_below _ _⟩
  · rw [decide_eq_false hz] at HZ
    have HE := Lib.hid (HAB.out.trans (if_neg hz))
    clear hz HAB
    go_enter Tryz.func33, Tryz.ntmps33
    go_wp2_with fail
    refine (HNM.out _).mono ?_
    rintro e w1 ⟨rfl, hb1⟩
    have HB := Lib.hid (one_box hb1)
    clear hb1
    go_wp2
    go_ret
    exact ⟨by rw [HE.out]; rfl, HB.out⟩

theorem overs_snoc {G : List AggL} {k : Nat} (hk : k < G.length) : oversL (G.take (k + 1)) = if G[k].o = [] then oversL (G.take k) else oversL (G.take k) ++ [G[k].o] := by
  unfold oversL
  rw [List.take_succ_eq_append_getElem hk, List.filter_append, List.map_append]
  by_cases h : G[k].o = []
  · rw [if_pos h]; simp [h]
  · rw [if_neg h]; simp [h]
theorem overs_len (G : List AggL) : (oversL G).length ≤ G.length := by unfold oversL; rw [List.length_map]; exact List.length_filter_le _ _
theorem overs_ok {G : List AggL} (h : ∀ g ∈ G, g.ok) : ∀ x ∈ oversL G, okS x := by
  intro x hx
  unfold oversL at hx
  obtain ⟨g, hg, rfl⟩ := List.mem_map.1 hx
  exact (h g (List.mem_filter.1 hg).1).1
theorem names_ok {G : List AggL} (h : ∀ g ∈ G, g.ok) : ∀ x ∈ aggNames G, okS x := by
  intro x hx
  unfold aggNames at hx
  obtain ⟨g, hg, rfl⟩ := List.mem_map.1 hx
  exact (h g hg).2
theorem textCells_len (L : List (List UInt8)) : (textCells L).length = L.length := by unfold textCells; rw [List.length_map]
theorem textCells_app (L M : List (List UInt8)) : textCells (L ++ M) = textCells L ++ textCells M := by unfold textCells; rw [List.map_append]

set_option maxRecDepth 100000 in
set_option maxHeartbeats 2000000 in
theorem oversOf_calls (G : List AggL) (a : Option Addr) (n c : Nat) (w : World) (hV : AgA w a n c G) (h6 : n ≤ 1000000) :
    Calls Tryz.prog 35 #[.slice a n c] w fun e w' => ∃ va q vc, e = .returned (.slice va q vc) ∧ TxtA w' va q vc (oversL G) ∧ Below w.heap.size w w' := by
  obtain ⟨i0, hi, hz0, hz1, hz2⟩ := info_parts info_text
  have HV := Lib.hid hV
  have HVL := Lib.hid hV.len
  have hvc := hV.cap
  have hvm := hV.most
  unfold maxLen at hvm
  clear hV
  go_enter Tryz.func35, Tryz.ntmps35
  go_wp2
  go_loopg [3, 8] n (fun g v i wr => ∃ k : Nat, i = .int .i64 k ∧ k + g = n ∧ Hid (wr.ownsRow w.heap.size 9 1 v (oversL (G.take k)).length (textCells (oversL (G.take k)))) ∧ Hid (Below w.heap.size w wr))
  case atStart => exact ⟨0, rfl, by omega, Lib.hid (World.ownsRow_nil _ _ _ _), Lib.hid (Below.refl _ _)⟩
  case round =>
    obtain ⟨W1, rfl⟩ : ∃ W1, W1 = wr := ⟨_, rfl⟩
    obtain ⟨k, rfl, hkg, HO, HBW⟩ := hrel
    by_cases hk : k < n
    · obtain ⟨gg, rfl⟩ : ∃ gg, gk = gg + 1 := ⟨gk - 1, by omega⟩
      have hkL : k < G.length := by rw [HVL.out]; exact hk
      obtain ⟨g, o, ha, hgw, hcells⟩ := HV.out.cells (by omega)
      subst ha
      have hgW : g < W1.heap.size := Nat.lt_of_lt_of_le hgw HBW.out.size
      obtain ⟨c0, c1, c2⟩ := (hcells k hkL).on HBW.out hgw
      have HSN := Lib.hid (overs_snoc hkL)
      have hle := overs_len (G.take k)
      rw [List.length_take] at hle
      obtain ⟨l0, hl0⟩ : ∃ l0, (oversL (G.take k)).length = l0 := ⟨_, rfl⟩
      rw [hl0] at hle
      have hO := HO.out
      rw [hl0] at hO
      have HO1 := Lib.hid hO
      have HL0 := Lib.hid hl0
      clear hcells hO hl0
      generalize G[k] = y at c0 c1 c2 HSN
      obtain ⟨yk, yo, ym⟩ := y
      dsimp only at c0 c1 c2 HSN
      have hz := empty_is yo
      have hk0 : (0 : Int) ≤ (k : Int) := by omega
      have hkn : (k : Int) < (n : Int) := by omega
      clear HO
      by_cases he : yo = []
      · rw [decide_eq_true he] at hz
        have HE := Lib.hid (HSN.out.trans (if_pos he))
        clear he HSN
        go_wp2
        go_roundg gg
        case measure => omega
        case rel => exact ⟨k + 1, by go_num, by omega, Lib.hid (by rw [HE.out, HL0.out]; exact HO1.out.alloc _), Lib.hid (fb2 HBW.out (box_below _ _) (Nat.le_refl _))⟩
      · rw [decide_eq_false he] at hz
        have HE := Lib.hid (HSN.out.trans (if_neg he))
        have HM1 := Lib.hid (show l0 + 1 ≤ maxLen by unfold maxLen; omega)
        have HM2 := Lib.hid (show (l0 + 1) * 16 ≤ 140737488355328 by omega)
        clear he HSN
        go_wp2_with (first | (at_builtin; (refine wpList_append_own_at _ rfl (.tmp 15) (.tmp 18) 22 rfl w.heap.size 9 i0 (.string ⟨#[]⟩) 1 16 Tryz.underlying22 hi hz0 hz1 hz2 rfl (by decide) u3 _ _ rfl ((HO1.out.alloc _).alloc _) ⟨W1.heap.size + 1, 0, none⟩ 1 1 [.string (bs yo)] rfl rfl (news_gen _ _ _ (by simp)) (by intro u hu; simp at hu; subst hu; rfl) HM1.out HM2.out (Nat.le_trans HBW.out.size (by simp; omega)) ?_; intro v4 w4 ho4 hg4 _ _; have HO4 := Lib.hid ho4; have HG4 := Lib.hid hg4; clear ho4 hg4)))
        go_roundg gg
        case measure => omega
        case rel => exact ⟨k + 1, by go_num, by omega, Lib.hid (by rw [HE.out, List.length_append, HL0.out, textCells_app]; exact HO4.out), Lib.hid ((fb2 (fb2 HBW.out (box_below _ _) (Nat.le_refl _)) (box_below _ _) (Nat.le_refl _)).grown HG4.out (Nat.le_trans HBW.out.size (by simp; omega)) (fun q hq => (HO1.out.lt q hq).1))⟩
    · have HE := Lib.hid (show G.take k = G from List.take_of_length_le (by rw [HVL.out]; omega))
      have k1 : ¬ (k : Int) < (n : Int) := by omega
      have ho := HO.out
      rw [HE.out] at ho
      obtain ⟨va, vc, rfl, hT⟩ := own_txts ho
      have HT := Lib.hid hT.a
      clear ho hT
      go_wp2
      go_ret
      exact ⟨va, _, vc, rfl, HT.out, HBW.out⟩

end Go.Proofs.YtdnfaoanaehjhaaGreatDoor

/- A row's text by numbers of its terms in some columns: package group's texts, and the closure that it tells (written by gen/mktext13.py). -/
namespace Go.Proofs.YtdnfaoanaehjhaaGreatDoor
open Go.RowKit Go.Maps

/- whole numbers in a slice -/
structure IntA (w : World) (a : Option Addr) (n c : Nat) (K : List Nat) : Prop where
  len : K.length = n
  cap : n ≤ c
  most : c ≤ maxLen
  cells : 0 < n → ∃ g o, a = some ⟨g, o, none⟩ ∧ g < w.heap.size ∧ ∀ j (h : j < K.length), w.cell? ⟨g, o + j, none⟩ = some (.int .i64 (K[j] : Nat))
theorem IntA.on {w w' : World} {a : Option Addr} {n c : Nat} {K : List Nat} (h : IntA w a n c K) (hb : Below w.heap.size w w') : IntA w' a n c K := ⟨h.len, h.cap, h.most, fun h0 => by
  obtain ⟨g, o, e, hg, hc⟩ := h.cells h0
  exact ⟨g, o, e, Nat.lt_of_lt_of_le hg hb.size, fun j hj => (hb.cell (p := ⟨g, _, none⟩) hg).trans (hc j hj)⟩⟩
def keyK (K : List Nat) (r : RowL) : RowL := K.map fun i => r.getD i nilT
theorem keyK_at {K : List Nat} {r : RowL} {k : Nat} (hk : k < (keyK K r).length) (hk2 : k < K.length) (hi : K[k] < r.length) : (keyK K r)[k] = r[K[k]] := by
  refine (List.getElem_map (f := fun i => r.getD i nilT) (h := hk)).trans ?_
  rw [List.getD_eq_getElem?_getD, List.getElem?_eq_getElem hi]
  rfl
theorem keyK_len (K : List Nat) (r : RowL) : (keyK K r).length = K.length := by unfold keyK; rw [List.length_map]
theorem keyK_ok {K : List Nat} {r : RowL} (h : ∀ t ∈ r, okT t) (hK : ∀ i ∈ K, i < r.length) : ∀ t ∈ keyK K r, okT t := by
  intro t ht
  unfold keyK at ht
  obtain ⟨i, hi, rfl⟩ := List.mem_map.1 ht
  have := hK i hi
  rw [List.getD_eq_getElem?_getD, List.getElem?_eq_getElem this]
  exact h _ (List.getElem_mem this)

set_option maxRecDepth 100000 in
set_option maxHeartbeats 4000000 in
theorem texts_calls (a : Option Addr) (n c : Nat) (w : World) :
    Calls Tryz.prog 67 #[.slice a n c] w fun e w' => ∃ P Q b, e = .returned (.func (.func 93) #[] #[.pointer (some ⟨P, 0, none⟩), .pointer (some ⟨Q, 0, none⟩)]) ∧ Blk w' P 71 #[.slice a n c] ∧ Blk w' Q 112 #[.map (some b)] ∧ MapT w' b 0 (fun _ => none) ∧ w.heap.size ≤ b ∧ Below w.heap.size w w' := by
  have hmm : ∀ W, (Instr.makeMap 112 none).run Tryz.prog W = .ok (.map (some W.heap.size)) (W.alloc (.map #[] 0)) := fun W => by kernel_rfl
  go_enter Tryz.func67, Tryz.ntmps67
  go_wp2
  go_ret
  have hb1 : Below w.heap.size w (w.alloc (.cells #[.slice a n c] 71)) := box_below _ _
  have hm := map_made 37 okT codeT (w.alloc (.cells #[.slice a n c] 71))
  rw [World.size_alloc] at hm
  have hq := blk_new ((w.alloc (.cells #[.slice a n c] 71)).alloc (.map #[] 0)) 112 #[.map (some (w.heap.size + 1))]
  rw [World.size_alloc, World.size_alloc] at hq
  exact ⟨w.heap.size, w.heap.size + 1 + 1, w.heap.size + 1, rfl, blk_alloc (blk_alloc (blk_new _ _ _) _) _, hq, hm.on (box_below _ _), Nat.le_succ _, fb2 (fb2 hb1 (box_below _ _) (Nat.le_refl _)) (box_below _ _) (Nat.le_refl _)⟩

set_option maxRecDepth 100000 in
set_option maxHeartbeats 8000000 in
theorem text1_calls (p : NumT × Nat) (b : Nat) (K : List Nat) (r : List TermL) (hr : ∀ t ∈ r, okT t) (hKr : ∀ i ∈ K, i < r.length) (a : Option Addr) (n c : Nat) (ka : Option Addr) (kn kc P Q : Nat) (w : World) (hg : Nm.Good w) (hm : MapT w b p.2 p.1) (hp : NumF p.1 p.2) (h : TrmA w a n c r) (hK : IntA w ka kn kc K) (hP : w.cell? ⟨P, 0, none⟩ = some (.slice ka kn kc)) (hQ : w.cell? ⟨Q, 0, none⟩ = some (.map (some b))) (hn : kn ≤ 1000) (hs : p.2 + kn ≤ 1000000) :
    Calls Tryz.prog 93 #[.slice a n c, .pointer (some ⟨P, 0, none⟩), .pointer (some ⟨Q, 0, none⟩)] w fun e w' => e = .returned (.string (bs (txtN (runN p (keyK K r)).1 (keyK K r)))) ∧ MapT w' b (runN p (keyK K r)).2 (runN p (keyK K r)).1 ∧ w.grownBy w' (some b) := by
  obtain ⟨i0, hi, hz0, hz1, hz2⟩ := info_parts info_byte
  have HIN := Lib.hid h
  have HRL := Lib.hid h.len
  have HK := Lib.hid hK
  have HKR := Lib.hid hKr
  have HL := Lib.hid ((keyK_len K r).trans hK.len)
  have HKL := Lib.hid hK.len
  have HOK := Lib.hid (keyK_ok hr hKr)
  have hkc2 := hK.cap
  have hkm2 := hK.most
  unfold maxLen at hkm2
  have HKA := Lib.hid (fun k hk hk2 hi => keyK_at (K := K) (r := r) (k := k) hk hk2 hi)
  generalize keyK K r = key at HL HOK HKA ⊢
  have HP := Lib.hid hp
  have HG := Lib.hid hg
  have hcp := h.cap
  have hms := h.most
  unfold maxLen at hms
  have hbw := Lib.hid hm.lt
  have HR0 := Lib.hid (show TextR w b p key 0 (.slice none 0 0) w from ⟨by rw [List.take_zero]; exact hm, by rw [List.take_zero]; exact World.ownsRow_nil _ _ _ _, grown_refl _ _⟩)
  have HM0 := Lib.hid hm
  have HQ := Lib.hid hQ
  have hlQ : Q < w.heap.size := World.block_lt_of_cell? _ _ hQ
  have hQb : Q ≠ b := map_cell hm hQ
  clear h hr hp hg hm hK hKr
  go_enter Tryz.func93, Tryz.ntmps93
  go_wp2
  clear hP hQ
  go_loopg [5, 7, 9, 10, 13] kn (fun g v _ _ _ i wr => ∃ k : Nat, i = .int .i64 k ∧ k + g = kn ∧ Hid (TextR w b p key k v wr))
  case atStart => exact ⟨0, rfl, by omega, HR0⟩
  case round =>
    obtain ⟨W1, rfl⟩ : ∃ W1, W1 = wr := ⟨_, rfl⟩
    obtain ⟨k, rfl, hkg, HR⟩ := hrel
    obtain ⟨hm1, ho1, hg1⟩ := HR.out
    by_cases hk : k < kn
    · obtain ⟨gg, rfl⟩ : ∃ gg, gk = gg + 1 := ⟨gk - 1, by omega⟩
      have hkL : k < key.length := by rw [HL.out]; exact hk
      have hkK : k < K.length := by rw [HKL.out]; exact hk
      have hil := HKR.out _ (List.getElem_mem hkK)
      have hke := HKA.out k hkL hkK hil
      obtain ⟨kg, ko, hka, hkgw, hkcs⟩ := HK.out.cells (by omega)
      subst hka
      have ck0 := hkcs k hkK
      have ck : W1.cell? ⟨kg, ko + k, none⟩ = some (.int .i64 (K[k] : Nat)) := (cell_same (hg1.block kg hkgw (fun e => map_cell HM0.out ck0 (Option.some.inj e))) _).trans ck0
      have cQ : W1.cell? ⟨Q, 0, none⟩ = some (.map (some b)) := (cell_same (hg1.block Q hlQ (fun e => hQb (Option.some.inj e))) _).trans HQ.out
      have hlQ1 : Q < W1.heap.size := Nat.lt_of_lt_of_le hlQ hg1.size
      obtain ⟨g, o, ha, hgw, hcells⟩ := HIN.out.cells (by have := HRL.out; omega)
      subst ha
      obtain ⟨⟨f, s⟩, hfs⟩ : ∃ q, runN p (key.take k) = q := ⟨_, rfl⟩
      have HNX := Lib.hid (text_next HP.out hkL hfs)
      rw [hfs] at hm1 ho1
      dsimp only at hm1 ho1
      have ht0 := hcells K[k] hil
      rw [← hke] at ht0
      obtain ⟨c0, c1, c2, c3⟩ := ht0.same (hg1.block g hgw (fun e => map_cell HM0.out ht0.1 (Option.some.inj e)))
      have hgW : g < W1.heap.size := Nat.lt_of_lt_of_le hgw hg1.size
      have hok := Lib.hid (HOK.out _ (List.getElem_mem hkL))
      have HSB := Lib.hid (show s ≤ 1000000 by have := HNX.out.le; omega)
      obtain ⟨l0, hl0⟩ : ∃ l0, (txtN f (key.take k)).length = l0 := ⟨_, rfl⟩
      have HLB := Lib.hid (show l0 ≤ 22000 by have := HNX.out.len HSB.out; rw [hl0] at this; omega)
      rw [hl0] at ho1
      have HL0 := Lib.hid hl0
      have HFS := Lib.hid hfs
      clear hcells ht0 hfs hl0 hke hkcs ck0
      have hi1 : ((K[k] : Nat) : Int) < (n : Int) := by have := HRL.out; omega
      have hi0 : (0 : Int) ≤ ((K[k] : Nat) : Int) := by omega
      generalize K[k] = ci at ck c0 c1 c2 c3 hi0 hi1 hil
      generalize key[k] = y at c0 c1 c2 c3 hok HNX
      have HB := Lib.hid (box_below W1 (.cells #[.int .i64 y.k, .string (bs y.x), .string (bs y.y), .string (bs y.z)] 37))
      have HMA := Lib.hid (hm1.on HB.out)
      have HOA := Lib.hid (ho1.alloc (.cells #[.int .i64 y.k, .string (bs y.x), .string (bs y.y), .string (bs y.z)] 37))
      have HGA := Lib.hid (hg1.andThen (World.grownBy_alloc W1 (.cells #[.int .i64 y.k, .string (bs y.x), .string (bs y.y), .string (bs y.z)] 37) none) (fun j hj => by cases hj))
      clear hm1 ho1 hg1 HB
      have k0 : (0 : Int) ≤ (k : Int) := by omega
      have k1 : (k : Int) < (kn : Int) := by omega
      cases hq : f y with
      | some u =>
        obtain ⟨e1, e2, e3, e4⟩ := HNX.out.old u hq
        have HTX := Lib.hid e2
        have HRN := Lib.hid e1
        have u0 : -9223372036854775808 ≤ u := by omega
        have u1 : u ≤ 9223372036854775807 := by have := HSB.out; omega
        have HTB := Lib.hid (tab_below HG.out HM0.out HGA.out)
        have hlim := Lib.hid (show l0 + 21 ≤ 140737488355328 by have := HLB.out; omega)
        have HM1 := Lib.hid (show l0 + (Lib.itoa u).length + 1 ≤ maxLen by have := itoa_len e3 (by omega); have := HLB.out; unfold maxLen; omega)
        have HM3 := Lib.hid (show (l0 + (Lib.itoa u).length + 1) * 1 ≤ 140737488355328 by have := itoa_len e3 (by omega); have := HLB.out; omega)
        clear HNX e1 e2 e3 e4
        go_wp2_with (first
          | (at_lookup; refine wpList_look_g rfl _ _ 112 rfl keyT Tryz.underlying112 rfl HMA.out y hok.out rfl ?_; rw [hq]; simp only [Option.getD_some, Option.isSome_some]; clear hq)
          | (go_at_call 94; refine (Tryz.strconv_AppendInt_10 w.heap.size l0 u u0 u1 u5 _ _ HOA.out HGA.out.size hlim.out HTB.out).mono ?_; rintro e w3 ⟨v3, rfl, ho3, hb3, _⟩; have HO3 := Lib.hid ho3; have HB3 := Lib.hid hb3; have HW3 := Lib.hid (Nat.le_trans HGA.out.size hb3.size); clear ho3 hb3 HTB hlim u0 u1)
          | (at_builtin; (refine wpList_append_own_at _ rfl (.tmp 37) (.tmp 38) 113 rfl w.heap.size 5 i0 (.int .u8 0) 1 1 Tryz.underlying113 hi hz0 hz1 hz2 rfl (by decide) v3 _ _ rfl (HO3.out.alloc _) ⟨w3.heap.size, 0, none⟩ 1 1 [.int .u8 32] rfl rfl (news_gen _ _ _ rfl) (by intro u hu; simp at hu; subst hu; rfl) HM1.out HM3.out (Nat.le_trans HW3.out (by simp)) ?_; intro v4 w4 ho4 hg4 _ _; have HO4 := Lib.hid ho4; have HG4 := Lib.hid hg4; clear ho4 hg4)))
        have HR5 := Lib.hid (show TextR w b p key (k + 1) v4 w4 from by
          have hg3 : w.grownBy w3 (some b) := grown_below HGA.out HB3.out
          unfold TextR
          rw [HRN.out]
          dsimp only
          rw [HTX.out]
          have hm3 : MapT w3 b s f := HMA.out.stay (stay_under HB3.out) hbw.out
          refine ⟨(hm3.on (box_below w3 _)).kept HG4.out (own_ne HO3.out hbw.out), own_text (L := txtN f (key.take k)) (u := u) (by rw [HL0.out]; exact HO4.out), ?_⟩
          exact (hg3.andThen (World.grownBy_alloc w3 _ none) (fun j hj => by cases hj)).andThen HG4.out (fun j hj => .inl (own_from HO3.out j hj)))
        clear HO4 HG4 HO3 HB3 HTX HRN HMA HOA HGA
        go_roundg gg
        case measure => omega
        case rel => exact ⟨k + 1, by go_num, by omega, HR5⟩
      | none =>
        obtain ⟨e1, e2⟩ := HNX.out.new hq
        have HTX := Lib.hid e2
        have HRN := Lib.hid e1
        have u0 : -9223372036854775808 ≤ (s : Int) := by omega
        have u1 : (s : Int) ≤ 9223372036854775807 := by have := HSB.out; omega
        have hlim := Lib.hid (show l0 + 21 ≤ 140737488355328 by have := HLB.out; omega)
        have HWF := Lib.hid (wf_nat (n := s) (by have := HSB.out; omega))
        have HSM := Lib.hid (show s < maxLen by have := HSB.out; unfold maxLen; omega)
        have hqs : (f y).isSome = false := by rw [hq]; rfl
        have HQS := Lib.hid hqs
        have HM1 := Lib.hid (show l0 + (Lib.itoa (s : Int)).length + 1 ≤ maxLen by have := itoa_len (v := (s : Int)) (by omega) (by omega); have := HLB.out; unfold maxLen; omega)
        have HM3 := Lib.hid (show (l0 + (Lib.itoa (s : Int)).length + 1) * 1 ≤ 140737488355328 by have := itoa_len (v := (s : Int)) (by omega) (by omega); have := HLB.out; omega)
        clear HNX e1 e2 hqs
        go_wp2_with (first
          | (at_lookup; refine wpList_look_g rfl _ _ 112 rfl keyT Tryz.underlying112 rfl HMA.out y hok.out rfl ?_; rw [hq]; simp only [Option.getD_none, Option.isSome_none]; clear hq)
          | (at_len; refine wpList_len_g rfl _ 112 rfl Tryz.underlying112 rfl HMA.out ?_)
          | (at_mapUpdate; refine wpList_put_g rfl _ _ _ 112 rfl keyT Tryz.underlying112 rfl HMA.out HSM.out y hok.out rfl (s : Int) rfl HWF.out ?_; intro w2 h2 g2; rw [if_neg (by rw [HQS.out]; simp), putT_upd] at h2; have HM2 := Lib.hid h2; have HG2 := Lib.hid (grown_trans HGA.out g2); have HO2 := Lib.hid (HOA.out.kept g2 (.inr (Ne.symm (own_ne HOA.out hbw.out)))); have HTB := Lib.hid (tab_below HG.out HM0.out HG2.out); clear h2 g2)
          | (go_at_call 94; refine (Tryz.strconv_AppendInt_10 w.heap.size l0 (s : Int) u0 u1 u5 _ _ HO2.out HG2.out.size hlim.out HTB.out).mono ?_; rintro e w3 ⟨v3, rfl, ho3, hb3, _⟩; have HO3 := Lib.hid ho3; have HB3 := Lib.hid hb3; have HW3 := Lib.hid (Nat.le_trans HG2.out.size hb3.size); clear ho3 hb3 HTB hlim u0 u1)
          | (at_builtin; (refine wpList_append_own_at _ rfl (.tmp 37) (.tmp 38) 113 rfl w.heap.size 5 i0 (.int .u8 0) 1 1 Tryz.underlying113 hi hz0 hz1 hz2 rfl (by decide) v3 _ _ rfl (HO3.out.alloc _) ⟨w3.heap.size, 0, none⟩ 1 1 [.int .u8 32] rfl rfl (news_gen _ _ _ rfl) (by intro u hu; simp at hu; subst hu; rfl) HM1.out HM3.out (Nat.le_trans HW3.out (by simp)) ?_; intro v4 w4 ho4 hg4 _ _; have HO4 := Lib.hid ho4; have HG4 := Lib.hid hg4; clear ho4 hg4)))
        have HR5 := Lib.hid (show TextR w b p key (k + 1) v4 w4 from by
          have hg3 : w.grownBy w3 (some b) := grown_below HG2.out HB3.out
          unfold TextR
          rw [HRN.out]
          dsimp only
          rw [HTX.out]
          have hm3 : MapT w3 b (s + 1) (putT f y (some (s : Int))) := HM2.out.stay (stay_under HB3.out) hbw.out
          refine ⟨(hm3.on (box_below w3 _)).kept HG4.out (own_ne HO3.out hbw.out), own_text (L := txtN f (key.take k)) (u := (s : Int)) (by rw [HL0.out]; exact HO4.out), ?_⟩
          exact (hg3.andThen (World.grownBy_alloc w3 _ none) (fun j hj => by cases hj)).andThen HG4.out (fun j hj => .inl (own_from HO3.out j hj)))
        clear HO4 HG4 HO3 HB3 HTX HRN HM2 HO2 HG2
        go_roundg gg
        case measure => omega
        case rel => exact ⟨k + 1, by go_num, by omega, HR5⟩
    · have hkn : k = kn := by omega
      have k1 : ¬ (k : Int) < (kn : Int) := by omega
      have ht : key.take k = key := List.take_of_length_le (by rw [HL.out]; omega)
      rw [ht] at hm1 ho1
      have hcv := conv_own ho1
      have HM1 := Lib.hid hm1
      have HG1 := Lib.hid hg1
      clear hm1 ho1 hg1 ht
      go_wp2
      go_ret
      exact ⟨rfl, HM1.out, HG1.out⟩


end Go.Proofs.YtdnfaoanaehjhaaGreatDoor
