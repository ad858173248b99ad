/- ShpInsPlain, ShpRefOrder, put together. -/
import Derived.Test.YtkfemnjblbnclaaGreatDoorGOrder
import Derived.Test.YtkfemnjblbnclaaGreatDoorGRows
import Derived.Test.YtkfemnjblbnclaaGreatDoorShpBefore

/- A row put to its place, one by one, in plain words (no program). -/
namespace Go.Proofs.YtkfemnjblbnclaaGreatDoor

def stepO (c : RowL → RowL → Int) (x : RowL) (p : List RowL × Bool) (y : RowL) : List RowL × Bool := if p.2 = false ∧ c x y < 0 then (p.1 ++ [x] ++ [y], true) else (p.1 ++ [y], p.2)
def insP (c : RowL → RowL → Int) (x : RowL) (F : List RowL) (k : Nat) : List RowL × Bool := (F.take k).foldl (stepO c x) ([], false)
theorem ins_zero (c : RowL → RowL → Int) (x : RowL) (F : List RowL) : insP c x F 0 = ([], false) := by unfold insP; rw [List.take_zero]; rfl
theorem ins_next {c : RowL → RowL → Int} {x : RowL} {F : List RowL} {k : Nat} (hk : k < F.length) : insP c x F (k + 1) = stepO c x (insP c x F k) F[k] := by
  unfold insP
  rw [List.take_succ_eq_append_getElem hk, List.foldl_append]; rfl
theorem fold_true (c : RowL → RowL → Int) (x : RowL) : ∀ (F G : List RowL), F.foldl (stepO c x) (G, true) = (G ++ F, true)
  | [], G => by simp
  | y :: F, G => by
    rw [List.foldl_cons]
    have e : stepO c x (G, true) y = (G ++ [y], true) := if_neg (fun h => by cases h.1)
    rw [e, fold_true c x F (G ++ [y])]
    simp
theorem fold_put (c : RowL → RowL → Int) (x : RowL) : ∀ (F G : List RowL), (if (F.foldl (stepO c x) (G, false)).2 = true then (F.foldl (stepO c x) (G, false)).1 else (F.foldl (stepO c x) (G, false)).1 ++ [x]) = G ++ putP c x F
  | [], G => by simp [putP]
  | y :: F, G => by
    rw [List.foldl_cons]
    by_cases h : c x y < 0
    · have e : stepO c x (G, false) y = (G ++ [x] ++ [y], true) := if_pos ⟨rfl, h⟩
      have e2 : putP c x (y :: F) = x :: y :: F := if_pos h
      rw [e, fold_true c x F, e2]
      simp
    · have e : stepO c x (G, false) y = (G ++ [y], false) := if_neg (fun k => h k.2)
      have e2 : putP c x (y :: F) = y :: putP c x F := if_neg h
      rw [e, fold_put c x F (G ++ [y]), e2]
      simp
theorem ins_end {c : RowL → RowL → Int} {x : RowL} {F : List RowL} {k : Nat} (hk : F.length ≤ k) : (if (insP c x F k).2 = true then (insP c x F k).1 else (insP c x F k).1 ++ [x]) = putP c x F := by
  unfold insP
  rw [List.take_of_length_le hk]
  have := fold_put c x F []
  simpa using this
theorem fold_len (c : RowL → RowL → Int) (x : RowL) : ∀ (F : List RowL) (p : List RowL × Bool), (F.foldl (stepO c x) p).1.length ≤ p.1.length + F.length + (if p.2 then 0 else 1)
  | [], p => by simp
  | y :: F, p => by
    rw [List.foldl_cons]
    have ih := fold_len c x F (stepO c x p y)
    unfold stepO at *
    by_cases h : p.2 = false ∧ c x y < 0
    · rw [if_pos h] at ih ⊢
      simp only [List.length_append, List.length_cons, List.length_nil, h.1, if_true, Bool.false_eq_true, if_false] at ih ⊢
      omega
    · rw [if_neg h] at ih ⊢
      simp only [List.length_append, List.length_cons, List.length_nil] at ih ⊢
      omega
theorem ins_len (c : RowL → RowL → Int) (x : RowL) (F : List RowL) (k : Nat) : (insP c x F k).1.length ≤ k + 1 := by
  have := fold_len c x (F.take k) ([], false)
  unfold insP
  simp only [List.length_take, List.length_nil, Bool.false_eq_true, if_false] at this
  omega
theorem order_len (c : RowL → RowL → Int) (R : List RowL) : (orderP c R).length = R.length := (order_perm c R).length_eq

end Go.Proofs.YtkfemnjblbnclaaGreatDoor

/- The rows in order, row by row put to its place: the document's Order (written by gen/mkrorder12.py). -/
namespace Go.Proofs.YtkfemnjblbnclaaGreatDoor
open Go.RowKit Go.Maps Go.Sort

theorem own_base {w : World} {B B' size n : Nat} {e : TypeId} {v : Value} {xs : List Value} (h : w.ownsRow B e size v n xs) (hB : B' ≤ B) : w.ownsRow B' e size v n xs := by
  refine ⟨h.1, ?_⟩
  rcases h.2 with h1 | ⟨g, cap, cur, h1, h2, h3⟩
  · exact .inl h1
  · exact .inr ⟨g, cap, cur, h1, Nat.le_trans hB h2, h3⟩
/- rows in a row of one's own, in blocks from N on; below them all is as it was in Wp; their terms lie below A -/
structure InR (Wp : World) (N A : Nat) (nv : Value) (G : List RowL) (wr : World) : Prop where
  own : ∃ cs, wr.ownsRow N 51 1 nv G.length cs ∧ RowCK (fun b => b < A) wr cs G
  below : Below N Wp wr
  size : N ≤ wr.heap.size
theorem InR.on {Wp W W' : World} {N A : Nat} {nv : Value} {G : List RowL} (h : InR Wp N A nv G W) (hb : Below W.heap.size W W') : InR Wp N A nv G W' := by
  obtain ⟨cs, h1, h2⟩ := h.own
  refine ⟨⟨cs, h1.kept (row := none) ⟨hb.os, hb.tape, hb.output, hb.size, fun b hb2 _ => hb.block b hb2⟩ (by
    cases hq : nv.ownBlock with
    | none => exact .inl rfl
    | some x => exact .inr (by simp)), h2.on (stay_below hb)⟩, h.below.trans (hb.mono h.size), Nat.le_trans h.size hb.size⟩
theorem InR.len {Wp W : World} {N A : Nat} {nv : Value} {G : List RowL} (h : InR Wp N A nv G W) : Hid (∃ cs, W.ownsRow N 51 1 nv G.length cs) := Lib.hid (by obtain ⟨cs, h1, _⟩ := h.own; exact ⟨cs, h1⟩)
theorem news_one {w : World} {b : Nat} {T : TypeId} {v : Value} (h : Blk w b T #[v]) : 0 < 1 → ∃ ad, some (⟨b, 0, none⟩ : Addr) = some ad ∧ ∀ j u, [v][j]? = some u → w.cell? (ad.add j) = some u := fun _ => ⟨_, rfl, fun j u hu => by
  cases j with
  | zero => injection hu with hu; subst hu; rw [add_at, blk_cell h]; rfl
  | succ j => simp at hu⟩
theorem one_cell1 {a : Option Addr} {n c : Nat} : ∀ u ∈ [Value.slice a n c], u.oneCell' = true := fun u hu => by rw [List.mem_singleton] at hu; subst hu; rfl
theorem in_next {Wp W w4 : World} {N A yn : Nat} {nv v4 : Value} {G : List RowL} {y : RowL} {cs : List Value} {a' : Option Addr} {c' : Nat} {o : Obj} (h : InR Wp N A nv G W) (hc : RowCK (fun b => b < A) W cs G) (h4 : w4.ownsRow N 51 1 v4 (G.length + 1) (cs ++ [.slice a' yn c'])) (g4 : (W.alloc o).grownBy w4 nv.ownBlock)
    (ho : ∀ e, nv.ownBlock = some e → N ≤ e) (hA : A ≤ N) (ht : TrmK (fun b => b < A) W a' yn c' y) (hy : y.length = yn) : InR Wp N A v4 (G ++ [y]) w4 := by
  have hb1 : Below N W (W.alloc o) := (box_below W o).mono h.size
  have hb : Below N W w4 := hb1.grown g4 (Nat.le_trans h.size (by simp)) ho
  have h1 : RowCK (fun b => b < A) W [.slice a' yn c'] [y] := ⟨rfl, fun j hj => by
    have e : j = 0 := by simp at hj; exact hj
    subst e
    subst hy
    exact ⟨a', c', rfl, ht⟩⟩
  have hst : Stay (fun b => b < A) W w4 := ⟨hb.size, fun b _ hk => hb.block b (by omega)⟩
  refine ⟨⟨cs ++ [.slice a' yn c'], ?_, (hc.app h1).on hst⟩, h.below.trans hb, Nat.le_trans h.size hb.size⟩
  rw [List.length_append]
  exact h4

set_option maxRecDepth 100000 in
set_option maxHeartbeats 8000000 in
theorem rOrder_calls (V : List (List UInt8)) (R : List RowL) (K : List KeyL) (hr : okR R) (hl : ∀ r ∈ R, r.length = V.length) (tv : Value) (ka : Option Addr) (mk kc : Nat) (w : World) (ht : TabA w tv V R) (hk : KeyA w ka mk kc K) (h40 : R.length ≤ 40) :
    Calls Tryz.prog 25 #[tv, .slice ka mk kc] w fun e w' => ∃ uv, e = .returned uv ∧ TabA w' uv V (orderP (aheadP V K) R) ∧ Below w.heap.size w w' := by
  obtain ⟨i0, hi, hz0, hz1, hz2⟩ := info_parts info_row
  obtain ⟨va, n, vc, ra, m, rc, rfl, hV, hR⟩ := ht
  have HV := Lib.hid hV
  have HR := Lib.hid hR
  have HK := Lib.hid hk
  have HRL := Lib.hid hR.len
  have HVL := Lib.hid hV.len
  have HOR := Lib.hid hr
  have HWD := Lib.hid (fun r hr' => (hl r hr').trans hV.len)
  have hm40 : m ≤ 40 := by rw [← hR.len]; exact h40
  obtain ⟨A, hA⟩ : ∃ A, w.heap.size = A := ⟨_, rfl⟩
  have HAE := Lib.hid hA
  obtain ⟨w0, hw0⟩ : ∃ w0, (w.alloc (.cells #[.slice va n vc, .slice ra m rc] 31)).alloc (.cells #[.slice none 0 0, .slice none 0 0] 31) = w0 := ⟨_, rfl⟩
  have HW0 := Lib.hid hw0
  have HBW0 := Lib.hid (show Below w.heap.size w w0 by rw [← hw0]; exact two_alloc _ _ _)
  have HT0 := Lib.hid (tabs2_new w (.slice va n vc) (.slice ra m rc) (.slice none 0 0) (.slice none 0 0))
  rw [hw0, hA] at HT0
  have HZ0 := Lib.hid (show w0.heap.size = A + 2 by rw [← hw0, ← hA]; simp)
  obtain ⟨w1, hw1⟩ : ∃ w1, w0.alloc (.cells #[] 51) = w1 := ⟨_, rfl⟩
  have HW1 := Lib.hid hw1
  have HS0 := Lib.hid (show InR w0 (A + 2) A (.slice (some ⟨A + 1 + 1, 0, none⟩) 0 0) (orderP (aheadP V K) (R.take 0)) w1 from by
    refine ⟨⟨[], ?_, rowCK_nil _ _⟩, by rw [← hw1]; exact (box_below w0 _).mono (by rw [HZ0.out]; exact Nat.le_refl _), by rw [← hw1]; simp; have := HZ0.out; omega⟩
    have := World.ownsRow_lit (base := A + 2) (e := 51) (size := 1) w0 #[] 0 (by rw [HZ0.out]; exact Nat.le_refl _) (by unfold maxLen; omega) rfl
    rw [hw1, HZ0.out] at this
    exact this)
  clear hA h40 hV hR hk hr hl hw0 hw1
  go_enter Tryz.func25, Tryz.ntmps25
  go_wp2
  rw [HW0.out, HAE.out, HW1.out]
  go_loopg [5, 6, 7, 8, 9] m (fun g ov i _ _ _ wr => ∃ i' : Nat, i = .int .i64 i' ∧ i' + g = m ∧ Hid (InR w0 (A + 2) A ov (orderP (aheadP V K) (R.take i')) wr))
  case atStart => exact ⟨0, rfl, by omega, HS0⟩
  case round =>
    obtain ⟨W0, rfl⟩ : ∃ W0, W0 = wr := ⟨_, rfl⟩
    obtain ⟨i, rfl, hig, HRD⟩ := hrel
    have HBW := Lib.hid (HBW0.out.trans (HRD.out.below.mono (by have := HAE.out; omega)))
    have q1 : W0.cell? ⟨A, 1, none⟩ = some (.slice ra m rc) := (blk_cell (blk_on HT0.out.one HRD.out.below (by omega)) 1).trans rfl
    have k0 : (0 : Int) ≤ (i : Int) := by omega
    by_cases him : i < m
    · obtain ⟨g1, rfl⟩ : ∃ g1, gk = g1 + 1 := ⟨gk - 1, by omega⟩
      have hiL : i < R.length := by rw [HRL.out]; exact him
      obtain ⟨g, o, rfl, hgw, hcells⟩ := HR.out.cells (by omega)
      obtain ⟨a', c', hcell, htrm⟩ := hcells i hiL
      have hyn := HWD.out _ (List.getElem_mem hiL)
      rw [hyn] at hcell htrm
      have hds := order_snoc (aheadP V K) (R.take i) R[i]
      rw [← List.take_succ_eq_append_getElem hiL] at hds
      have HDS := Lib.hid hds
      have HYO := Lib.hid (HOR.out _ (List.getElem_mem hiL))
      have HTW := Lib.hid htrm
      have HCL := Lib.hid hcell
      have HGW := Lib.hid hgw
      have HYN := Lib.hid hyn
      have HFL := Lib.hid (show (orderP (aheadP V K) (R.take i)).length = i by rw [order_len, List.length_take]; omega)
      have HFW := Lib.hid (show ∀ r ∈ orderP (aheadP V K) (R.take i), r.length = n from fun r hr => HWD.out r (List.mem_of_mem_take ((order_perm _ _).mem_iff.1 hr)))
      have HFO := Lib.hid (show okR (orderP (aheadP V K) (R.take i)) from fun r hr => HOR.out r (List.mem_of_mem_take ((order_perm _ _).mem_iff.1 hr)))
      generalize orderP (aheadP V K) (R.take i) = F at HRD HDS HFL HFW HFO
      generalize R[i] = y at HTW HDS HYO HYN
      clear hds hyn htrm hcell hgw hcells
      obtain ⟨cs, hown, hrc⟩ := HRD.out.own
      rw [HFL.out] at hown
      obtain ⟨a3, c3, rfl, hJ⟩ := own_rowsJ hown hrc HFL.out
      have HJ := Lib.hid hJ
      have k1 : (i : Int) < (m : Int) := by omega
      obtain ⟨N, hN⟩ : ∃ N, W0.heap.size = N := ⟨_, rfl⟩
      have HNE := Lib.hid hN
      have HNA := Lib.hid (show A + 2 ≤ N by rw [← hN]; exact HRD.out.size)
      obtain ⟨W9, hW9⟩ : ∃ W9, W0.alloc (.cells #[] 51) = W9 := ⟨_, rfl⟩
      have HW9 := Lib.hid hW9
      have HI0 := Lib.hid (show InR W0 N A (.slice (some ⟨N, 0, none⟩) 0 0) (insP (aheadP V K) y F 0).1 W9 from by
        rw [ins_zero]
        refine ⟨⟨[], ?_, rowCK_nil _ _⟩, by rw [← hW9]; exact (box_below W0 _).mono (by rw [hN]; exact Nat.le_refl _), by rw [← hW9]; simp; omega⟩
        have := World.ownsRow_lit (base := N) (e := 51) (size := 1) W0 #[] 0 (by rw [hN]; exact Nat.le_refl _) (by unfold maxLen; omega) rfl
        rw [hW9, hN] at this
        exact this)
      have HD0 := Lib.hid (show (insP (aheadP V K) y F 0).2 = false by rw [ins_zero])
      clear hown hrc hJ hN hW9 hiL
      go_wp2
      rw [HW9.out, HNE.out]
      clear q1
      go_loopg [7, 8, 9] i (fun g nv dn k wr => ∃ k' : Nat, k = .int .i64 k' ∧ k' + g = i ∧ dn = .bool (insP (aheadP V K) y F k').2 ∧ Hid (InR W0 N A nv (insP (aheadP V K) y F k').1 wr))
      case atStart => exact ⟨0, rfl, by omega, by rw [HD0.out], HI0⟩
      case round =>
        obtain ⟨W1, rfl⟩ : ∃ W1, W1 = wr := ⟨_, rfl⟩
        obtain ⟨k, rfl, hkg, rfl, HIN⟩ := hrel
        have HB01 := Lib.hid (show Below W0.heap.size W0 W1 from HIN.out.below.mono (by rw [HNE.out]; exact Nat.le_refl _))
        have HBW1 := Lib.hid (fb2 HBW.out HB01.out (Nat.le_refl _))
        have HA1 := Lib.hid (show Blk W1 A 31 #[.slice va n vc, .slice (some ⟨g, o, none⟩) m rc] from blk_on (blk_on HT0.out.one HRD.out.below (by omega)) HIN.out.below (by have := HNA.out; omega))
        have q1 : W1.cell? ⟨A, 1, none⟩ = some (.slice (some ⟨g, o, none⟩) m rc) := (blk_cell HA1.out 1).trans rfl
        have c0 : W1.cell? ⟨g, o + i, none⟩ = some (.slice a' n c') := keptC HCL.out HBW1.out HGW.out
        have j0 : (0 : Int) ≤ (k : Int) := by omega
        have HTY := Lib.hid (show TrmK (fun b => b < A) W1 a' n c' y from ((HTW.out.k).on (stay_below HBW1.out)).mono (fun b _ hb => by have := HAE.out; omega))
        obtain ⟨cs, hown, hrc⟩ := HIN.out.own
        have HLN := Lib.hid (ins_len (aheadP V K) y F k)
        have HOB : Hid (∀ e, Value.ownBlock u7 = some e → N ≤ e) := Lib.hid (fun e he => (hown.lt e he).1)
        have HRC := Lib.hid hrc
        by_cases hki : k < i
        · obtain ⟨h1, rfl⟩ : ∃ h1, gk = h1 + 1 := ⟨gk - 1, by omega⟩
          have hkF : k < F.length := by rw [HFL.out]; exact hki
          have HNX := Lib.hid (ins_next (c := aheadP V K) (x := y) hkF)
          have HZO := Lib.hid (HFO.out _ (List.getElem_mem hkF))
          have hzl := HFW.out _ (List.getElem_mem hkF)
          obtain ⟨g3, o3, rfl, hg3, _, hc3⟩ := HJ.out.cells (by omega)
          obtain ⟨a5, c5, hcell5, htrm5⟩ := hc3 k hkF
          rw [hzl] at hcell5 htrm5
          have c1 : W1.cell? ⟨g3, o3 + k, none⟩ = some (.slice a5 n c5) := keptC hcell5 HB01.out hg3
          have HTZ := Lib.hid (htrm5.on (stay_below HB01.out))
          have HTZ0 := Lib.hid htrm5
          have HC5 := Lib.hid (And.intro hcell5 hg3)
          have HZL := Lib.hid hzl
          clear hc3 hcell5 htrm5 hg3 hzl
          generalize F[k] = z at HNX HZO HTZ HTZ0 HZL
          obtain ⟨G, hG⟩ : ∃ G, (insP (aheadP V K) y F k).1 = G := ⟨_, rfl⟩
          obtain ⟨dn, hdn⟩ : ∃ dn, (insP (aheadP V K) y F k).2 = dn := ⟨_, rfl⟩
          have hpr : insP (aheadP V K) y F k = (G, dn) := by rw [← hG, ← hdn]
          rw [hpr] at HNX HIN HLN hown HRC ⊢
          dsimp only at HIN HLN hown HRC ⊢
          obtain ⟨l0, hl0⟩ : ∃ l0, G.length = l0 := ⟨_, rfl⟩
          rw [hl0] at hown
          have HGL := Lib.hid hl0
          have HOW := Lib.hid hown
          have HLX := Lib.hid (show l0 + 3 ≤ 100 by have h1 := HLN.out; omega)
          have HSZ := Lib.hid HIN.out.size
          have j1 : (k : Int) < (i : Int) := by omega
          have hrc2 := HRC.out
          clear hG hdn hpr hown hrc hl0 HLN hkF hrc2
          have cB := fun d os => Calls.regrown_of (rBefore_calls V K y z HYO.out HZO.out va n vc ka mk kc a' c' a5 c5 (grow (redrawn W1 d) os) ((HV.out.on HBW1.out).on (below_regrown W1 d os)) ((HK.out.on HBW1.out).on (below_regrown W1 d os)) (HTY.out.a.on (below_regrown W1 d os)) (HTZ.out.a.on (below_regrown W1 d os)))
          have e0 := regrown_cell (show W1.cell? ⟨A, 0, none⟩ = some (.slice va n vc) from (blk_cell HA1.out 0).trans rfl)
          have e1 := regrown_cell q1
          have e2 := regrown_cell c0
          have e3 := regrown_cell c1
          cases dn with
          | true =>
            have HN2 := Lib.hid (show insP (aheadP V K) y F (k + 1) = (G ++ [z], true) from HNX.out.trans (if_neg (fun h => by cases h.1)))
            clear HNX cB
            go_wp2_with fail
            refine wp_region_quiet_below (by kernel_rfl) (by kernel_rfl) ?_
            quiet_step (fail)
            quiet_step (fail)
            quiet_step (fail)
            repeat go_big_quiet_skip
            quiet_step (fail)
            refine wpQuiet_nil ?_
            intro W4 hw'
            obtain ⟨⟨dq, osq⟩, hw''⟩ := hw'
            have hb4 : Below W1.heap.size W1 W4 := by rw [hw'']; exact below_regrown W1 dq osq
            have HI4 := Lib.hid (HIN.out.on hb4)
            have HB4 := Lib.hid hb4
            have d0 : W4.cell? ⟨A, 1, none⟩ = some (.slice (some ⟨g, o, none⟩) m rc) := (blk_cell (blk_on HA1.out hb4 (blk_lt HA1.out)) 1).trans rfl
            have d1 := keptC c0 hb4 (Nat.lt_of_lt_of_le HGW.out HBW1.out.size)
            have d2 := keptC c1 hb4 (World.block_lt_of_cell? _ _ c1)
            have HOW4 := Lib.hid (HOW.out.kept (row := none) ⟨hb4.os, hb4.tape, hb4.output, hb4.size, fun b hb _ => hb4.block b hb⟩ (by
              cases hq : Value.ownBlock u7 with
              | none => exact .inl rfl
              | some x => exact .inr (by simp)))
            have HRC4 := Lib.hid (HRC.out.on (stay_below hb4))
            have HTY4 := Lib.hid (HTY.out.on (stay_below hb4))
            have HTZ4 := Lib.hid (HTZ.out.on (stay_below hb4))
            have HS4S := Lib.hid (Nat.le_trans HSZ.out hb4.size)
            have w5L := HGL
            have w5O := HOB
            clear hw'' hb4 e0 e1 e2 e3 q1 c0 c1
            go_wp2_with (at_builtin; (refine append_any (.tmp 51) (.tmp 56) 29 ⟨rfl, rfl⟩ N 51 i0 (.slice none 0 0) 1 24 Tryz.underlying29 hi hz0 hz1 hz2 rfl (by decide) u7 l0 _ rfl (HOW4.out.alloc _) (some ⟨W4.heap.size, 0, none⟩) 1 1 [.slice a5 n c5] rfl rfl (news_one (blk_new _ _ _)) one_cell1 (by have := HLX.out; unfold maxLen; omega) (by have := HLX.out; omega) (by have := HS4S.out; simp; omega) ?_; intro w5v w5 how5 hgw5 _; have w5I := Lib.hid (in_next HI4.out HRC4.out (by rw [w5L.out]; exact how5.out) hgw5.out w5O.out (by have := HNA.out; omega) HTZ4.out HZL.out); clear how5 hgw5))
            go_roundg h1
            case measure => omega
            case rel => exact ⟨k + 1, by go_num, by omega, by rw [HN2.out], by rw [HN2.out]; exact w5I⟩
          | false =>
            obtain ⟨x, hx⟩ : ∃ x, aheadP V K y z = x := ⟨_, rfl⟩
            rw [hx] at cB
            by_cases hx0 : x < 0
            · have HN2 := Lib.hid (show insP (aheadP V K) y F (k + 1) = (G ++ [y] ++ [z], true) from HNX.out.trans (if_pos ⟨rfl, by rw [hx]; exact hx0⟩))
              clear HNX hx
              go_wp2_with fail
              refine wp_region_quiet_below (by kernel_rfl) (by kernel_rfl) ?_
              repeat (quiet_step (exact cB _ _))
              refine wpQuiet_nil ?_
              clear cB
              intro W4 hw'
              obtain ⟨⟨dq, osq⟩, hw''⟩ := hw'
              have hb4 : Below W1.heap.size W1 W4 := by rw [hw'']; exact below_regrown W1 dq osq
              have HI4 := Lib.hid (HIN.out.on hb4)
              have HB4 := Lib.hid hb4
              have d0 : W4.cell? ⟨A, 1, none⟩ = some (.slice (some ⟨g, o, none⟩) m rc) := (blk_cell (blk_on HA1.out hb4 (blk_lt HA1.out)) 1).trans rfl
              have d1 := keptC c0 hb4 (Nat.lt_of_lt_of_le HGW.out HBW1.out.size)
              have d2 := keptC c1 hb4 (World.block_lt_of_cell? _ _ c1)
              have HOW4 := Lib.hid (HOW.out.kept (row := none) ⟨hb4.os, hb4.tape, hb4.output, hb4.size, fun b hb _ => hb4.block b hb⟩ (by
                cases hq : Value.ownBlock u7 with
                | none => exact .inl rfl
                | some x => exact .inr (by simp)))
              have HRC4 := Lib.hid (HRC.out.on (stay_below hb4))
              have HTY4 := Lib.hid (HTY.out.on (stay_below hb4))
              have HTZ4 := Lib.hid (HTZ.out.on (stay_below hb4))
              have HS4S := Lib.hid (Nat.le_trans HSZ.out hb4.size)
              have w5L := HGL
              have w5O := HOB
              clear hw'' hb4 e0 e1 e2 e3 q1 c0 c1
              go_wp2_with (first
                | (at_builtin; (refine append_any (.tmp 43) (.tmp 49) 29 ⟨rfl, rfl⟩ N 51 i0 (.slice none 0 0) 1 24 Tryz.underlying29 hi hz0 hz1 hz2 rfl (by decide) u7 l0 _ rfl (HOW4.out.alloc _) (some ⟨W4.heap.size, 0, none⟩) 1 1 [.slice a' n c'] rfl rfl (news_one (blk_new _ _ _)) one_cell1 (by have := HLX.out; unfold maxLen; omega) (by have := HLX.out; omega) (by have := HS4S.out; simp; omega) ?_; intro w5v w5 how5 hgw5 _; have w5I := Lib.hid (in_next HI4.out HRC4.out (by rw [w5L.out]; exact how5.out) hgw5.out w5O.out (by have := HNA.out; omega) HTY4.out HYN.out); clear how5 hgw5); have c9 : w5.cell? ⟨g3, o3 + k, none⟩ = some (.slice a5 n c5) := keptC HC5.out.1 w5I.out.below (by have h1 := HC5.out.2; have h2 := HNE.out; omega); obtain ⟨cs5, ho5b, hr5b⟩ := w5I.out.own; have w6L := Lib.hid (show (G ++ [y]).length = l0 + 1 by rw [List.length_append, HGL.out]; rfl); rw [w6L.out] at ho5b; have HOW5 := Lib.hid ho5b; have HRC5 := Lib.hid hr5b; have w6O : Hid (∀ e, Value.ownBlock w5v = some e → N ≤ e) := Lib.hid (fun e he => (ho5b.lt e he).1); have HS5S := Lib.hid w5I.out.size; have HTZ5 := Lib.hid (HTZ0.out.on (w' := w5) ⟨Nat.le_trans (by have := HNE.out; omega) w5I.out.size, fun b _ hk => w5I.out.below.block b (by have := HNA.out; omega)⟩); clear ho5b hr5b)
                | (at_builtin; (refine append_any (.tmp 51) (.tmp 56) 29 ⟨rfl, rfl⟩ N 51 i0 (.slice none 0 0) 1 24 Tryz.underlying29 hi hz0 hz1 hz2 rfl (by decide) w5v (l0 + 1) _ rfl (HOW5.out.alloc _) (some ⟨w5.heap.size, 0, none⟩) 1 1 [.slice a5 n c5] rfl rfl (news_one (blk_new _ _ _)) one_cell1 (by have := HLX.out; unfold maxLen; omega) (by have := HLX.out; omega) (by have := HS5S.out; simp; omega) ?_; intro w6v w6 how6 hgw6 _; have w6I := Lib.hid (in_next w5I.out HRC5.out (by rw [w6L.out]; exact how6.out) hgw6.out w6O.out (by have := HNA.out; omega) HTZ5.out HZL.out); clear how6 hgw6)))
              go_roundg h1
              case measure => omega
              case rel => exact ⟨k + 1, by go_num, by omega, by rw [HN2.out], by rw [HN2.out]; exact w6I⟩
            · have HN2 := Lib.hid (show insP (aheadP V K) y F (k + 1) = (G ++ [z], false) from HNX.out.trans (if_neg (fun h => hx0 (by rw [← hx]; exact h.2))))
              clear HNX hx
              go_wp2_with fail
              refine wp_region_quiet_below (by kernel_rfl) (by kernel_rfl) ?_
              repeat (quiet_step (exact cB _ _))
              refine wpQuiet_nil ?_
              clear cB
              intro W4 hw'
              obtain ⟨⟨dq, osq⟩, hw''⟩ := hw'
              have hb4 : Below W1.heap.size W1 W4 := by rw [hw'']; exact below_regrown W1 dq osq
              have HI4 := Lib.hid (HIN.out.on hb4)
              have HB4 := Lib.hid hb4
              have d0 : W4.cell? ⟨A, 1, none⟩ = some (.slice (some ⟨g, o, none⟩) m rc) := (blk_cell (blk_on HA1.out hb4 (blk_lt HA1.out)) 1).trans rfl
              have d1 := keptC c0 hb4 (Nat.lt_of_lt_of_le HGW.out HBW1.out.size)
              have d2 := keptC c1 hb4 (World.block_lt_of_cell? _ _ c1)
              have HOW4 := Lib.hid (HOW.out.kept (row := none) ⟨hb4.os, hb4.tape, hb4.output, hb4.size, fun b hb _ => hb4.block b hb⟩ (by
                cases hq : Value.ownBlock u7 with
                | none => exact .inl rfl
                | some x => exact .inr (by simp)))
              have HRC4 := Lib.hid (HRC.out.on (stay_below hb4))
              have HTY4 := Lib.hid (HTY.out.on (stay_below hb4))
              have HTZ4 := Lib.hid (HTZ.out.on (stay_below hb4))
              have HS4S := Lib.hid (Nat.le_trans HSZ.out hb4.size)
              have w5L := HGL
              have w5O := HOB
              clear hw'' hb4 e0 e1 e2 e3 q1 c0 c1
              go_wp2_with (at_builtin; (refine append_any (.tmp 51) (.tmp 56) 29 ⟨rfl, rfl⟩ N 51 i0 (.slice none 0 0) 1 24 Tryz.underlying29 hi hz0 hz1 hz2 rfl (by decide) u7 l0 _ rfl (HOW4.out.alloc _) (some ⟨W4.heap.size, 0, none⟩) 1 1 [.slice a5 n c5] rfl rfl (news_one (blk_new _ _ _)) one_cell1 (by have := HLX.out; unfold maxLen; omega) (by have := HLX.out; omega) (by have := HS4S.out; simp; omega) ?_; intro w5v w5 how5 hgw5 _; have w5I := Lib.hid (in_next HI4.out HRC4.out (by rw [w5L.out]; exact how5.out) hgw5.out w5O.out (by have := HNA.out; omega) HTZ4.out HZL.out); clear how5 hgw5))
              go_roundg h1
              case measure => omega
              case rel => exact ⟨k + 1, by go_num, by omega, by rw [HN2.out], by rw [HN2.out]; exact w5I⟩
        · have j1 : ¬ (k : Int) < (i : Int) := by omega
          have hend := ins_end (c := aheadP V K) (x := y) (F := F) (k := k) (by have := HFL.out; omega)
          obtain ⟨G, hG⟩ : ∃ G, (insP (aheadP V K) y F k).1 = G := ⟨_, rfl⟩
          obtain ⟨dn, hdn⟩ : ∃ dn, (insP (aheadP V K) y F k).2 = dn := ⟨_, rfl⟩
          have hpr : insP (aheadP V K) y F k = (G, dn) := by rw [← hG, ← hdn]
          rw [hpr] at hend HIN HLN hown HRC ⊢
          dsimp only at hend HIN HLN hown HRC ⊢
          obtain ⟨l0, hl0⟩ : ∃ l0, G.length = l0 := ⟨_, rfl⟩
          rw [hl0] at hown
          have HGL := Lib.hid hl0
          have HOW := Lib.hid hown
          have HLX := Lib.hid (show l0 + 3 ≤ 100 by have h1 := HLN.out; omega)
          have HSZ := Lib.hid HIN.out.size
          have HUP : ∀ nv' L W', InR W0 N A nv' L W' → InR w0 (A + 2) A nv' L W' := fun nv' L W' h => by
            obtain ⟨cs', g1', g2'⟩ := h.own
            exact ⟨⟨cs', own_base g1' HNA.out, g2'⟩, HRD.out.below.trans (h.below.mono HNA.out), Nat.le_trans HNA.out h.size⟩
          have HUP := Lib.hid HUP
          clear hG hdn hpr hown hrc hl0 HLN
          cases dn with
          | true =>
            have HN2 := Lib.hid (show orderP (aheadP V K) (R.take (i + 1)) = G by rw [HDS.out, ← hend]; rfl)
            clear hend
            go_wp2
            go_roundg g1
            case measure => omega
            case rel => exact ⟨i + 1, by go_num, by omega, by rw [HN2.out]; exact Lib.hid (HUP.out _ _ _ HIN.out)⟩
          | false =>
            have HN2 := Lib.hid (show orderP (aheadP V K) (R.take (i + 1)) = G ++ [y] by rw [HDS.out, ← hend]; rfl)
            clear hend
            have HS4S := HSZ
            have w5L := HGL
            have w5O := HOB
            go_wp2_with (at_builtin; (refine append_any (.tmp 60) (.tmp 66) 29 ⟨rfl, rfl⟩ N 51 i0 (.slice none 0 0) 1 24 Tryz.underlying29 hi hz0 hz1 hz2 rfl (by decide) u7 l0 _ rfl (HOW.out.alloc _) (some ⟨W1.heap.size, 0, none⟩) 1 1 [.slice a' n c'] rfl rfl (news_one (blk_new _ _ _)) one_cell1 (by have := HLX.out; unfold maxLen; omega) (by have := HLX.out; omega) (by have := HS4S.out; simp; omega) ?_; intro w5v w5 how5 hgw5 _; have w5I := Lib.hid (in_next HIN.out HRC.out (by rw [w5L.out]; exact how5.out) hgw5.out w5O.out (by have := HNA.out; omega) HTY.out HYN.out); clear how5 hgw5))
            go_roundg g1
            case measure => omega
            case rel => exact ⟨i + 1, by go_num, by omega, by rw [HN2.out]; exact Lib.hid (HUP.out _ _ _ w5I.out)⟩
    · have k1 : ¬ (i : Int) < (m : Int) := by omega
      have hE : R.take i = R := List.take_of_length_le (by have := HRL.out; omega)
      rw [hE] at HRD
      obtain ⟨cs, hown, hrc⟩ := HRD.out.own
      have hfl : (orderP (aheadP V K) R).length = m := by rw [order_len, HRL.out]
      rw [hfl] at hown
      obtain ⟨a3, c3, rfl, hrow⟩ := own_rows hown hrc hfl
      have HRC := Lib.hid hrc
      have HOW := Lib.hid hown
      have HFL := Lib.hid hfl
      have q0 : W0.cell? ⟨A, 0, none⟩ = some (.slice va n vc) := (blk_cell (blk_on HT0.out.one HRD.out.below (by omega)) 0).trans rfl
      have HE1 := Lib.hid (blk_on HT0.out.two HRD.out.below (by omega))
      clear hE hrow hown hrc hfl
      go_wp2_with (refine whole_abs 31 (.tmp 4) (.tmp 72) ⟨rfl, rfl⟩ (A + 1) #[.slice va n vc, .slice a3 m c3] rfl rfl 31 #[.slice none 0 0, .slice none 0 0] HE1.out (by kernel_rfl) rfl (by kernel_rfl) ?_; intro w9 hA9 hG9)
      have hae := HAE.out
      have hb9 : Below w.heap.size w w9 := HBW.out.grown hG9.out HBW.out.size (fun j hj => by injection hj with hj; omega)
      have hown9 := HOW.out.kept hG9.out (.inr (fun e => by have := (HOW.out.lt _ e).1; omega))
      have hrc9 := HRC.out.on (w' := w9) ⟨hG9.out.size, fun b hb hk => hG9.out.block b hb (fun e => by injection e with e; omega)⟩
      obtain ⟨a6, c6, hv6, hrow6⟩ := own_rows hown9 hrc9 HFL.out
      have e6 : a3 = a6 ∧ c3 = c6 := by simpa using hv6
      obtain ⟨rfl, rfl⟩ := e6
      have q5 : w9.cell? ⟨A + 1, 0, none⟩ = some (.slice va n vc) := (blk_cell hA9.out 0).trans rfl
      have q6 : w9.cell? ⟨A + 1, 1, none⟩ = some (.slice a3 m c3) := (blk_cell hA9.out 1).trans rfl
      refine bodyPost_ret (v := .agg #[.slice va n vc, .slice a3 m c3]) (by simp [results, Tryz.results25, q5, q6, go_sem]) rfl ⟨_, rfl, ⟨va, n, vc, a3, m, c3, rfl, HV.out.on hb9, hrow6⟩, hb9⟩

end Go.Proofs.YtkfemnjblbnclaaGreatDoor
