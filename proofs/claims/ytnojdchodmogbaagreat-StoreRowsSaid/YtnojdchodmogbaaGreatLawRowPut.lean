/- A row's terms put into a pattern: the statements' of and put. -/
import Derived.Test.YtnojdchodmogbaaGreatStoLawPlain
import Derived.Test.YtnojdchodmogbaaGreatRefMatch
import Derived.Deep.RegionHeld3
namespace Go.Proofs.YtnojdchodmogbaaGreat
open Go.RowKit

def cells4 (t : TermL) : Array Value := #[.int .i64 t.k, .string (bs t.x), .string (bs t.y), .string (bs t.z)]
theorem of_ret (tm : Array Value) (W : World) (A : Nat) (t : TermL) (Q : Ending → World → Prop) (h6 : tm.getD 6 undef = .pointer (some ⟨A, 0, none⟩)) (hA : Blk W A 27 (cells4 t)) (hQ : Q (.returned t.v) W) :
    bodyPost Tryz.prog Tryz.f56 Q Exit.ret { tmps := tm, defers := [] } W := by
  have q : ∀ i, W.cell? ⟨A, i, none⟩ = (cells4 t)[i]? := fun i => blk_cell hA i
  have q0 : W.cell? ⟨A, 0, none⟩ = some (.int .i64 t.k) := q 0
  have q1 : W.cell? ⟨A, 1, none⟩ = some (.string (bs t.x)) := q 1
  have q2 : W.cell? ⟨A, 2, none⟩ = some (.string (bs t.y)) := q 2
  have q3 : W.cell? ⟨A, 3, none⟩ = some (.string (bs t.z)) := q 3
  have e6 : tm[6]?.getD undef = .pointer (some ⟨A, 0, none⟩) := by rw [← Array.getD_eq_getD_getElem?]; exact h6
  refine bodyPost_ret (v := t.v) (by unfold TermL.v; simp [results, Tryz.results56, e6, q0, q1, q2, q3, go_sem]) rfl hQ
theorem ofT_stop {x : TermL} {V : List (List UInt8)} {R : List TermL} {k : Nat} (h : V.length ≤ k ∨ R.length ≤ k) (e : ofT x (V.drop k) (R.drop k) = ofT x V R) : ofT x V R = x := by
  rw [← e]
  rcases h with h | h
  · rw [List.drop_of_length_le h]; simp [ofT]
  · rw [List.drop_of_length_le h]
    cases V.drop k <;> simp [ofT]
theorem ofT_here {x : TermL} {V : List (List UInt8)} {R : List TermL} {k : Nat} (hV : k < V.length) (hR : k < R.length) (e : ofT x (V.drop k) (R.drop k) = ofT x V R) (h : x.k = 4 ∧ x.x = V[k]) : ofT x V R = R[k] := by
  rw [← e, List.drop_eq_getElem_cons hV, List.drop_eq_getElem_cons hR, ofT, if_pos h]
theorem ofT_next {x : TermL} {V : List (List UInt8)} {R : List TermL} {k : Nat} (hV : k < V.length) (hR : k < R.length) (e : ofT x (V.drop k) (R.drop k) = ofT x V R) (h : ¬ (x.k = 4 ∧ x.x = V[k])) : ofT x (V.drop (k + 1)) (R.drop (k + 1)) = ofT x V R := by
  rw [← e, List.drop_eq_getElem_cons hV, List.drop_eq_getElem_cons hR, ofT, if_neg h]
theorem three_blocks (w : World) (a b c : Array Value) (A B C : TypeId) : Blk (((w.alloc (.cells a A)).alloc (.cells b B)).alloc (.cells c C)) w.heap.size A a ∧ Blk (((w.alloc (.cells a A)).alloc (.cells b B)).alloc (.cells c C)) (w.heap.size + 1) B b ∧ Blk (((w.alloc (.cells a A)).alloc (.cells b B)).alloc (.cells c C)) (w.heap.size + 1 + 1) C c := by
  have h1 : Below ((w.alloc (.cells a A)).alloc (.cells b B)).heap.size ((w.alloc (.cells a A)).alloc (.cells b B)) (((w.alloc (.cells a A)).alloc (.cells b B)).alloc (.cells c C)) := box_below _ _
  refine ⟨blk_on (blk_on (blk_new w A a) (box_below _ _) (by simp)) h1 (by simp; omega), blk_on (blk_second _ _ _ _) h1 (by simp), ?_⟩
  have h := blk_new ((w.alloc (.cells a A)).alloc (.cells b B)) C c
  have e : ((w.alloc (.cells a A)).alloc (.cells b B)).heap.size = w.heap.size + 1 + 1 := by simp
  rw [e] at h
  exact h

set_option maxRecDepth 100000 in
set_option maxHeartbeats 4000000 in
theorem rowOf_calls (x : TermL) (V : List (List UInt8)) (R : List TermL) (va ra : Option Addr) (vc rn rc : Nat) (row : Value) (w : World) (hV : Reads w (.slice va V.length vc) V.length (textCells V)) (hR : Reads w row R.length (cellsT R)) (hl : V.length ≤ 1000) (hl2 : R.length ≤ 1000) :
    Calls Tryz.prog 56 #[x.v, .agg #[.slice va V.length vc, .slice ra rn rc], row] w fun e w' => e = .returned (ofT x V R).v ∧ Below w.heap.size w w' := by
  obtain ⟨qa, qc, rfl, hq⟩ := reads_terms hR
  obtain ⟨n, hn⟩ : ∃ n, V.length = n := ⟨_, rfl⟩
  obtain ⟨m, hm⟩ : ∃ m, R.length = m := ⟨_, rfl⟩
  rw [hn] at hV hl ⊢
  rw [hm] at hl2 ⊢
  obtain ⟨va', vc', e, hv⟩ := texts_open hV
  injection e with e1 _ e3
  subst e1; subst e3
  have HV := Lib.hid hv
  have HQ := Lib.hid (show 0 < m → ∃ g, qa = some ⟨g, 0, none⟩ ∧ g < w.heap.size ∧ m ≤ qc ∧ ∀ j u, (cellsT R)[j]? = some u → w.cell? ⟨g, j, none⟩ = some u from fun h0 => by obtain ⟨g, a1, a2, a3, a4⟩ := hq (by rw [hm]; exact h0); exact ⟨g, a1, a2, by rw [← hm]; exact a3, a4⟩)
  have HN := Lib.hid hn
  have HM := Lib.hid hm
  have hb3 := three_blocks w (cells4 x) #[.slice va n vc, .slice ra rn rc] (cells4 noTerm) 27 56 27
  have HB3 := Lib.hid (three_box w (.cells (cells4 x) 27) (.cells #[.slice va n vc, .slice ra rn rc] 56) (.cells (cells4 noTerm) 27))
  have HX := Lib.hid hb3
  have hsz := Lib.hid (show ∀ o o2 o3, (((w.alloc o).alloc o2).alloc o3).heap.size = w.heap.size + 3 from fun _ _ _ => by simp)
  clear hV hR hq hv hn hm hb3
  obtain ⟨W3, hW3⟩ : ∃ W3, ((w.alloc (.cells (cells4 x) 27)).alloc (.cells #[.slice va n vc, .slice ra rn rc] 56)).alloc (.cells (cells4 noTerm) 27) = W3 := ⟨_, rfl⟩
  have HW3 := Lib.hid hW3
  have hx1 := HX.out
  have hb1 := HB3.out
  have hs1 := hsz.out (.cells (cells4 x) 27) (.cells #[.slice va n vc, .slice ra rn rc] 56) (.cells (cells4 noTerm) 27)
  rw [hW3] at hx1 hb1 hs1
  have BX := Lib.hid hx1.1
  have BT := Lib.hid hx1.2.1
  have BA := Lib.hid hx1.2.2
  have HB := Lib.hid hb1
  have HSZ := Lib.hid hs1
  clear hW3 hx1 hb1 hs1 HX HB3 hsz
  unfold TermL.v
  go_enter Tryz.func56, Tryz.ntmps56
  go_wp2_with fail
  have e0 := HW3.out
  unfold cells4 noTerm at e0
  go_loopw [7] (fun i wr => ∃ k : Nat, k ≤ n ∧ k ≤ m ∧ i = .int .i64 k ∧ Hid (ofT x (V.drop k) (R.drop k) = ofT x V R) ∧ Below W3.heap.size W3 wr) (fun i _ => n - (intOf i).toNat)
  case atStart => exact ⟨0, Nat.zero_le _, Nat.zero_le _, rfl, by show _ = _; rfl, by rw [← e0]; exact Below.refl _ _⟩
  case round =>
    obtain ⟨k, hk, hk2, rfl, hE, hbr⟩ := hrel
    clear e0
    have g1 : (0 : Int) ≤ (k : Int) := by omega
    have HBR := Lib.hid hbr
    have cT : wr.cell? ⟨w.heap.size + 1, 0, none⟩ = some (.slice va n vc) := keptC (show W3.cell? ⟨w.heap.size + 1, 0, none⟩ = some (.slice va n vc) by rw [blk_cell BT.out]; rfl) hbr (blk_lt BT.out)
    have c0 : wr.cell? ⟨w.heap.size, 0, none⟩ = some (.int .i64 x.k) := keptC (show W3.cell? ⟨w.heap.size, 0, none⟩ = some (.int .i64 x.k) by rw [blk_cell BX.out]; rfl) hbr (blk_lt BX.out)
    have c1 : wr.cell? ⟨w.heap.size, 1, none⟩ = some (.string (bs x.x)) := keptC (show W3.cell? ⟨w.heap.size, 1, none⟩ = some (.string (bs x.x)) by rw [blk_cell BX.out]; rfl) hbr (blk_lt BX.out)
    have c2 : wr.cell? ⟨w.heap.size, 2, none⟩ = some (.string (bs x.y)) := keptC (show W3.cell? ⟨w.heap.size, 2, none⟩ = some (.string (bs x.y)) by rw [blk_cell BX.out]; rfl) hbr (blk_lt BX.out)
    have c3 : wr.cell? ⟨w.heap.size, 3, none⟩ = some (.string (bs x.z)) := keptC (show W3.cell? ⟨w.heap.size, 3, none⟩ = some (.string (bs x.z)) by rw [blk_cell BX.out]; rfl) hbr (blk_lt BX.out)
    have BA9 := Lib.hid (blk_on BA.out hbr (blk_lt BA.out))
    have HBW := Lib.hid (HB.out.trans (hbr.mono HB.out.size))
    clear hbr
    by_cases hlt : k < n ∧ k < m
    · obtain ⟨hn, hm⟩ := hlt
      have g2 : (k : Int) < (n : Int) := by omega
      have g3 : (k : Int) < (m : Int) := by omega
      have hkV : k < V.length := by rw [HN.out]; exact hn
      have hkR : k < R.length := by rw [HM.out]; exact hm
      obtain ⟨gv, rfl, hgv, hvc, hnm⟩ := HV.out (by omega)
      obtain ⟨gq, rfl, hgq, hqc, hrq⟩ := HQ.out (by omega)
      have cn := keptC (keptC (hnm k hkV) HB.out hgv) HBR.out (Nat.lt_of_lt_of_le hgv (by have := HSZ.out; omega))
      have hq4 := Lib.hid (terms_cell hrq k hkR)
      have hhere := Lib.hid (ofT_here (x := x) hkV hkR hE.out)
      have hnext := Lib.hid (ofT_next (x := x) hkV hkR hE.out)
      have hgv9 : gv < wr.heap.size := Nat.lt_of_lt_of_le hgv HBW.out.size
      have hgq9 : gq < wr.heap.size := Nat.lt_of_lt_of_le hgq HBW.out.size
      clear hnm hrq
      generalize V[k] = nm at cn hhere hnext
      generalize R[k] = t at hq4 hhere
      obtain ⟨q0, q1, q2, q3⟩ := hq4.out
      replace q0 := keptC q0 HBW.out hgq
      replace q1 := keptC q1 HBW.out hgq
      replace q2 := keptC q2 HBW.out hgq
      replace q3 := keptC q3 HBW.out hgq
      clear hq4
      by_cases h4 : x.k = 4
      · by_cases he : x.x = nm
        · have heq : (bs x.x).toList = (bs nm).toList := by rw [he]
          have HE := Lib.hid (hhere.out ⟨h4, he⟩)
          clear he hhere hnext hE
          go_wp2
          go_quiet (fail)
          go_wp2_with (refine whole_abs 27 (.tmp 6) (.tmp 37) ⟨rfl, rfl⟩ (w.heap.size + 1 + 1) (cells4 t) (by kernel_rfl) (by kernel_rfl) 27 (cells4 noTerm) (by first | exact BA9.out | exact blkDrew BA9.out) (by kernel_rfl) rfl (by kernel_rfl) ?_; intro w5 hA5 hG5)
          refine of_ret _ _ (w.heap.size + 1 + 1) t _ (by first | rfl | simp) hA5.out ⟨by rw [HE.out]; rfl, ?_⟩
          first
            | exact HBW.out.grown hG5.out HBW.out.size (fun z hz => by injection hz with hz; omega)
            | exact (drewN_below HBW.out _).grown hG5.out HBW.out.size (fun z hz => by injection hz with hz; omega)
        · have hne : ((bs x.x).toList == (bs nm).toList) = false := by rw [bs_toList, bs_toList]; exact beq_eq_false_iff_ne.2 he
          have HE := Lib.hid (hnext.out (fun c => he c.2))
          clear he hhere hnext hE q0 q1 q2 q3
          go_wp2
          go_quiet (fail)
          go_wp2
          refine ⟨⟨k + 1, by omega, by omega, by go_num, HE, by first | exact HBR.out | exact HBR.out.drew | exact drewN_below HBR.out _⟩, by simp [intOf]; omega⟩
      · have h4' : (x.k == 4) = false := by simp [h4]
        have HE := Lib.hid (hnext.out (fun c => h4 c.1))
        clear hhere hnext hE q0 q1 q2 q3
        go_wp2
        go_quiet (fail)
        go_wp2
        refine ⟨⟨k + 1, by omega, by omega, by go_num, HE, by first | exact HBR.out | exact HBR.out.drew | exact drewN_below HBR.out _⟩, by simp [intOf]; omega⟩
    · have HE := Lib.hid (ofT_stop (x := x) (V := V) (R := R) (k := k) (by rw [HN.out, HM.out]; omega) hE.out)
      clear hE
      by_cases hn : k < n
      · have g2 : (k : Int) < (n : Int) := by omega
        have g3 : ¬ (k : Int) < (m : Int) := by omega
        go_wp2_with (refine whole_abs 27 (.tmp 6) (.tmp 38) ⟨rfl, rfl⟩ (w.heap.size + 1 + 1) (cells4 x) (by kernel_rfl) (by kernel_rfl) 27 (cells4 noTerm) (by first | exact BA9.out | exact blkDrew BA9.out) (by kernel_rfl) rfl (by kernel_rfl) ?_; intro w5 hA5 hG5)
        refine of_ret _ _ (w.heap.size + 1 + 1) x _ (by first | rfl | simp) hA5.out ⟨by rw [HE.out]; rfl, ?_⟩
        first
          | exact HBW.out.grown hG5.out HBW.out.size (fun z hz => by injection hz with hz; omega)
          | exact (drewN_below HBW.out _).grown hG5.out HBW.out.size (fun z hz => by injection hz with hz; omega)
      · have g2 : ¬ (k : Int) < (n : Int) := by omega
        go_wp2_with (refine whole_abs 27 (.tmp 6) (.tmp 38) ⟨rfl, rfl⟩ (w.heap.size + 1 + 1) (cells4 x) (by kernel_rfl) (by kernel_rfl) 27 (cells4 noTerm) (by first | exact BA9.out | exact blkDrew BA9.out) (by kernel_rfl) rfl (by kernel_rfl) ?_; intro w5 hA5 hG5)
        refine of_ret _ _ (w.heap.size + 1 + 1) x _ (by first | rfl | simp) hA5.out ⟨by rw [HE.out]; rfl, ?_⟩
        first
          | exact HBW.out.grown hG5.out HBW.out.size (fun z hz => by injection hz with hz; omega)
          | exact (drewN_below HBW.out _).grown hG5.out HBW.out.size (fun z hz => by injection hz with hz; omega)

theorem put_ret (tm : Array Value) (W : World) (A : Nat) (t : TripL) (Q : Ending → World → Prop) (h6 : tm.getD 6 undef = .pointer (some ⟨A, 0, none⟩)) (hA : Blk W A 29 (cells12 t)) (hQ : Q (.returned t.v) W) :
    bodyPost Tryz.prog Tryz.f29 Q Exit.ret { tmps := tm, defers := [] } W := by
  obtain ⟨⟨c0, c1, c2, c3⟩, ⟨c4, c5, c6, c7⟩, ⟨c8, c9, c10, c11⟩⟩ := box12_of hA
  have e6 : tm[6]?.getD undef = .pointer (some ⟨A, 0, none⟩) := by rw [← Array.getD_eq_getD_getElem?]; exact h6
  refine bodyPost_ret (v := t.v) (by unfold TripL.v; simp [results, Tryz.results29, e6, c0, c1, c2, c3, c4, c5, c6, c7, c8, c9, c10, c11, go_sem]) rfl hQ

set_option maxRecDepth 100000 in
set_option maxHeartbeats 8000000 in
theorem rowPut_calls (p : TripL) (V : List (List UInt8)) (R : List TermL) (va ra : Option Addr) (vc rn rc : Nat) (row : Value) (w : World) (hV : Reads w (.slice va V.length vc) V.length (textCells V)) (hR : Reads w row R.length (cellsT R)) (hl : V.length ≤ 1000) (hl2 : R.length ≤ 1000) :
    Calls Tryz.prog 29 #[p.v, .agg #[.slice va V.length vc, .slice ra rn rc], row] w fun e w' => e = .returned (putT p V R).v ∧ Below w.heap.size w w' := by
  obtain ⟨n, hn⟩ : ∃ n, V.length = n := ⟨_, rfl⟩
  have hof := Lib.hid (fun (x : TermL) (W : World) (hb : Below w.heap.size w W) => rowOf_calls x V R va ra vc rn rc row W (readsOn hV hb (Nat.le_refl _)) (readsOn hR hb (Nat.le_refl _)) hl hl2)
  rw [hn] at hof ⊢
  have hb3 := three_blocks w (cells12 p) #[.slice va n vc, .slice ra rn rc] (cells12 noTrip) 29 56 29
  have HB3 := three_box w (.cells (cells12 p) 29) (.cells #[.slice va n vc, .slice ra rn rc] 56) (.cells (cells12 noTrip) 29)
  have hsz := (show (((w.alloc (.cells (cells12 p) 29)).alloc (.cells #[.slice va n vc, .slice ra rn rc] 56)).alloc (.cells (cells12 noTrip) 29)).heap.size = w.heap.size + 3 from by simp)
  obtain ⟨W3, hW3⟩ : ∃ W3, ((w.alloc (.cells (cells12 p) 29)).alloc (.cells #[.slice va n vc, .slice ra rn rc] 56)).alloc (.cells (cells12 noTrip) 29) = W3 := ⟨_, rfl⟩
  rw [hW3] at hb3 HB3 hsz
  have HW3 := Lib.hid hW3
  have BX := Lib.hid (box12_of hb3.1)
  have BT := Lib.hid hb3.2.1
  have BA := Lib.hid hb3.2.2
  have HB := Lib.hid HB3
  have HSZ := Lib.hid hsz
  have hx3 := Lib.hid (show w.heap.size < W3.heap.size by omega)
  clear hW3 hb3 HB3 hsz hn hl hl2 hV hR
  simp only [TripL.v]
  go_enter Tryz.func29, Tryz.ntmps29
  go_wp2_with fail
  refine name_world (fun W1 hW1 => ?_)
  have e1 : W3 = W1 := (hW1.trans HW3.out).symm
  clear hW1
  subst e1
  refine wp_region_held_drew (S := (fun W => Below (w.heap.size + 1 + 1) W3 W)) (by kernel_rfl) ?_ (fun hHeld => ?_)
  · (try dsimp only); first | exact Below.refl _ _ | exact (Below.refl _ _).drew
  obtain ⟨w5, hw5⟩ : ∃ w5, W3.drew = w5 := ⟨_, rfl⟩
  rw [hw5]
  have hbn : Below W3.heap.size W3 w5 := by rw [← hw5]; exact (Below.refl _ _).drew
  have hbq : Below (w.heap.size + 1 + 1) W3 w5 := hbn.mono (by have := HSZ.out; omega)
  clear hw5
  refine wpAnyH_take (i := 0) (oi := ⟨some 7, _, _, _, _, _⟩) (v := ?_) rfl (by kernel_rfl) (by kernel_rfl) (by kernel_rfl) (fun _ _ _ h => h) (Or.inl ⟨by kernel_rfl, ?_⟩) (by assumption) ?_
  rotate_left
  · (intro ww hSw; (try dsimp only at hSw); go_simp); (try with_reducible rfl)
  (try simp only [Act.put, List.setIfInBounds_toArray, List.set_cons_zero, List.set_cons_succ])
  refine wpAnyH_take (i := 1) (oi := ⟨some 8, _, _, _, _, _⟩) (v := ?_) rfl (by kernel_rfl) (by kernel_rfl) (by kernel_rfl) (fun _ _ _ h => h) (Or.inl ⟨by kernel_rfl, ?_⟩) (by assumption) ?_
  rotate_left
  · (intro ww hSw; (try dsimp only at hSw); obtain ⟨⟨c0, c1, c2, c3⟩, ⟨c4, c5, c6, c7⟩, ⟨c8, c9, c10, c11⟩⟩ := box_on BX.out hSw (by omega); go_simp); (try with_reducible rfl)
  (try simp only [Act.put, List.setIfInBounds_toArray, List.set_cons_zero, List.set_cons_succ])
  refine wpAnyH_take (i := 2) (oi := ⟨some 9, _, _, _, _, _⟩) (v := ?_) rfl (by kernel_rfl) (by kernel_rfl) (by kernel_rfl) (fun _ _ _ h => h) (Or.inl ⟨by kernel_rfl, ?_⟩) (by assumption) ?_
  rotate_left
  · (intro ww hSw; (try dsimp only at hSw); have t0 := keptC (show W3.cell? ⟨w.heap.size + 1, 0, none⟩ = some (.slice va n vc) by rw [blk_cell BT.out]; rfl) hSw (by show w.heap.size + 1 < _; omega); have t1 := keptC (show W3.cell? ⟨w.heap.size + 1, 1, none⟩ = some (.slice ra rn rc) by rw [blk_cell BT.out]; rfl) hSw (by show w.heap.size + 1 < _; omega); go_simp); (try with_reducible rfl)
  (try simp only [Act.put, List.setIfInBounds_toArray, List.set_cons_zero, List.set_cons_succ])
  refine wpAnyH_take (i := 3) (oi := ⟨some 10, _, _, _, _, _⟩) (v := ?_) rfl (by kernel_rfl) (by kernel_rfl) (by kernel_rfl) (fun _ _ _ h => h) (Or.inl ⟨by kernel_rfl, ?_⟩) (by assumption) ?_
  rotate_left
  · (intro ww hSw; (try dsimp only at hSw); go_simp); (try with_reducible rfl)
  (try simp only [Act.put, List.setIfInBounds_toArray, List.set_cons_zero, List.set_cons_succ])
  refine wpAnyH_take (i := 5) (oi := ⟨some 12, _, _, _, _, _⟩) (v := ?_) rfl (by kernel_rfl) (by kernel_rfl) (by kernel_rfl) (fun _ _ _ h => h) (Or.inl ⟨by kernel_rfl, ?_⟩) (by assumption) ?_
  rotate_left
  · (intro ww hSw; (try dsimp only at hSw); go_simp); (try with_reducible rfl)
  (try simp only [Act.put, List.setIfInBounds_toArray, List.set_cons_zero, List.set_cons_succ])
  refine wpAnyH_take (i := 6) (oi := ⟨some 13, _, _, _, _, _⟩) (v := ?_) rfl (by kernel_rfl) (by kernel_rfl) (by kernel_rfl) (fun _ _ _ h => h) (Or.inl ⟨by kernel_rfl, ?_⟩) (by assumption) ?_
  rotate_left
  · (intro ww hSw; (try dsimp only at hSw); obtain ⟨⟨c0, c1, c2, c3⟩, ⟨c4, c5, c6, c7⟩, ⟨c8, c9, c10, c11⟩⟩ := box_on BX.out hSw (by omega); go_simp); (try with_reducible rfl)
  (try simp only [Act.put, List.setIfInBounds_toArray, List.set_cons_zero, List.set_cons_succ])
  refine wpAnyH_take (i := 7) (oi := ⟨some 14, _, _, _, _, _⟩) (v := ?_) rfl (by kernel_rfl) (by kernel_rfl) (by kernel_rfl) (fun _ _ _ h => h) (Or.inl ⟨by kernel_rfl, ?_⟩) (by assumption) ?_
  rotate_left
  · (intro ww hSw; (try dsimp only at hSw); have t0 := keptC (show W3.cell? ⟨w.heap.size + 1, 0, none⟩ = some (.slice va n vc) by rw [blk_cell BT.out]; rfl) hSw (by show w.heap.size + 1 < _; omega); have t1 := keptC (show W3.cell? ⟨w.heap.size + 1, 1, none⟩ = some (.slice ra rn rc) by rw [blk_cell BT.out]; rfl) hSw (by show w.heap.size + 1 < _; omega); go_simp); (try with_reducible rfl)
  (try simp only [Act.put, List.setIfInBounds_toArray, List.set_cons_zero, List.set_cons_succ])
  refine wpAnyH_take (i := 8) (oi := ⟨some 15, _, _, _, _, _⟩) (v := ?_) rfl (by kernel_rfl) (by kernel_rfl) (by kernel_rfl) (fun _ _ _ h => h) (Or.inl ⟨by kernel_rfl, ?_⟩) (by assumption) ?_
  rotate_left
  · (intro ww hSw; (try dsimp only at hSw); go_simp); (try with_reducible rfl)
  (try simp only [Act.put, List.setIfInBounds_toArray, List.set_cons_zero, List.set_cons_succ])
  refine wpAnyH_take (i := 10) (oi := ⟨some 17, _, _, _, _, _⟩) (v := ?_) rfl (by kernel_rfl) (by kernel_rfl) (by kernel_rfl) (fun _ _ _ h => h) (Or.inl ⟨by kernel_rfl, ?_⟩) (by assumption) ?_
  rotate_left
  · (intro ww hSw; (try dsimp only at hSw); go_simp); (try with_reducible rfl)
  (try simp only [Act.put, List.setIfInBounds_toArray, List.set_cons_zero, List.set_cons_succ])
  refine wpAnyH_take (i := 11) (oi := ⟨some 18, _, _, _, _, _⟩) (v := ?_) rfl (by kernel_rfl) (by kernel_rfl) (by kernel_rfl) (fun _ _ _ h => h) (Or.inl ⟨by kernel_rfl, ?_⟩) (by assumption) ?_
  rotate_left
  · (intro ww hSw; (try dsimp only at hSw); obtain ⟨⟨c0, c1, c2, c3⟩, ⟨c4, c5, c6, c7⟩, ⟨c8, c9, c10, c11⟩⟩ := box_on BX.out hSw (by omega); go_simp); (try with_reducible rfl)
  (try simp only [Act.put, List.setIfInBounds_toArray, List.set_cons_zero, List.set_cons_succ])
  refine wpAnyH_take (i := 12) (oi := ⟨some 19, _, _, _, _, _⟩) (v := ?_) rfl (by kernel_rfl) (by kernel_rfl) (by kernel_rfl) (fun _ _ _ h => h) (Or.inl ⟨by kernel_rfl, ?_⟩) (by assumption) ?_
  rotate_left
  · (intro ww hSw; (try dsimp only at hSw); have t0 := keptC (show W3.cell? ⟨w.heap.size + 1, 0, none⟩ = some (.slice va n vc) by rw [blk_cell BT.out]; rfl) hSw (by show w.heap.size + 1 < _; omega); have t1 := keptC (show W3.cell? ⟨w.heap.size + 1, 1, none⟩ = some (.slice ra rn rc) by rw [blk_cell BT.out]; rfl) hSw (by show w.heap.size + 1 < _; omega); go_simp); (try with_reducible rfl)
  (try simp only [Act.put, List.setIfInBounds_toArray, List.set_cons_zero, List.set_cons_succ])
  refine wpAnyH_take (i := 13) (oi := ⟨some 20, _, _, _, _, _⟩) (v := ?_) rfl (by kernel_rfl) (by kernel_rfl) (by kernel_rfl) (fun _ _ _ h => h) (Or.inl ⟨by kernel_rfl, ?_⟩) (by assumption) ?_
  rotate_left
  · (intro ww hSw; (try dsimp only at hSw); go_simp); (try with_reducible rfl)
  (try simp only [Act.put, List.setIfInBounds_toArray, List.set_cons_zero, List.set_cons_succ])
  refine wpAnyH_ready (rs := [4]) (by kernel_rfl) (by simp) ?_
  refine AllReadyH.cons rfl (fun K hK => ?_) AllReadyH.nil
  go_simp
  refine (hof.out p.s _ (by first | exact HB.out.trans (hbn.mono HB.out.size) | exact (HB.out.trans (hbn.mono HB.out.size)).drew)).mono ?_
  rintro e w6 ⟨rfl, hbh⟩
  (try replace hbh := from_drew hbh)
  replace hbn := fb2 hbn hbh (Nat.le_refl _)
  clear hbh
  simp only [TermL.v]
  go_wp2_with fail
  refine hK.out _ _ ?_ (fun hHeld => ?_)
  · (try dsimp only); first | exact hbn.mono (by have := HSZ.out; omega) | exact hbn.drew.mono (by have := HSZ.out; omega)
  clear hK K
  (try simp only [Act.put, List.setIfInBounds_toArray, List.set_cons_zero, List.set_cons_succ])
  refine wpAnyH_ready (rs := [9]) (by kernel_rfl) (by simp) ?_
  refine AllReadyH.cons rfl (fun K hK => ?_) AllReadyH.nil
  go_simp
  refine (hof.out p.p _ (by first | exact HB.out.trans (hbn.mono HB.out.size) | exact (HB.out.trans (hbn.mono HB.out.size)).drew)).mono ?_
  rintro e w7 ⟨rfl, hbh⟩
  (try replace hbh := from_drew hbh)
  replace hbn := fb2 hbn hbh (Nat.le_refl _)
  clear hbh
  simp only [TermL.v]
  go_wp2_with fail
  refine hK.out _ _ ?_ (fun hHeld => ?_)
  · (try dsimp only); first | exact hbn.mono (by have := HSZ.out; omega) | exact hbn.drew.mono (by have := HSZ.out; omega)
  clear hK K
  (try simp only [Act.put, List.setIfInBounds_toArray, List.set_cons_zero, List.set_cons_succ])
  refine wpAnyH_ready (rs := [14]) (by kernel_rfl) (by simp) ?_
  refine AllReadyH.cons rfl (fun K hK => ?_) AllReadyH.nil
  go_simp
  refine (hof.out p.o _ (by first | exact HB.out.trans (hbn.mono HB.out.size) | exact (HB.out.trans (hbn.mono HB.out.size)).drew)).mono ?_
  rintro e w8 ⟨rfl, hbh⟩
  (try replace hbh := from_drew hbh)
  replace hbn := fb2 hbn hbh (Nat.le_refl _)
  clear hbh
  simp only [TermL.v]
  go_wp2_with fail
  refine hK.out _ _ ?_ (fun hHeld => ?_)
  · (try dsimp only); first | exact hbn.mono (by have := HSZ.out; omega) | exact hbn.drew.mono (by have := HSZ.out; omega)
  clear hK K
  (try simp only [Act.put, List.setIfInBounds_toArray, List.set_cons_zero, List.set_cons_succ])
  refine wpAnyH_take (i := 15) (oi := ⟨some 22, _, _, _, _, _⟩) (v := ?_) rfl (by kernel_rfl) (by kernel_rfl) (by kernel_rfl) (fun _ _ _ h => h) (Or.inl ⟨by kernel_rfl, ?_⟩) (by assumption) ?_
  rotate_left
  · (intro ww hSw; (try dsimp only at hSw); go_simp); (try with_reducible rfl)
  (try simp only [Act.put, List.setIfInBounds_toArray, List.set_cons_zero, List.set_cons_succ])
  refine wpAnyH_ready (rs := [16]) (by kernel_rfl) (by simp) ?_
  refine AllReadyH.cons rfl (fun K hK => ?_) AllReadyH.nil
  refine wp_store_row 29 (.tmp 6) (.tmp 22) rfl (w.heap.size + 1 + 1) (cells12 (putT p V R)) (by kernel_rfl) (by kernel_rfl) 29 (cells12 noTrip) (by first | exact blk_on BA.out hbn (blk_lt BA.out) | exact blkDrew (blk_on BA.out hbn (blk_lt BA.out))) (by kernel_rfl) rfl (by kernel_rfl) ?_
  have hA9 := Lib.hid (blk_row (blk_on BA.out hbn (blk_lt BA.out)) (cells12 (putT p V R)))
  have hB9 := Lib.hid ((hbn.mono (show w.heap.size + 1 + 1 ≤ W3.heap.size by have := HSZ.out; omega)).grown (grown_set w8 (w.heap.size + 1 + 1) (cells12 (putT p V R))) (by have := hbn.size; have := HSZ.out; omega) (fun z hz => by injection hz with hz; omega))
  change K (Act.put _ none undef) _
  refine hK.out _ _ ?_ (fun hHeld => ?_)
  · (try dsimp only); first | exact hB9.out | exact hB9.out.drew
  clear hK K
  (try simp only [Act.put])
  refine wpAnyH_done (by kernel_rfl) ?_ _
  have hZ := Lib.hid (HB.out.trans (hB9.out.mono (show w.heap.size ≤ w.heap.size + 1 + 1 by omega)))
  go_wp2
  refine put_ret _ _ (w.heap.size + 1 + 1) (putT p V R) _ (by first | rfl | simp) (by first | exact hA9.out | exact blkDrew hA9.out) ⟨rfl, ?_⟩
  first | exact hZ.out | exact hZ.out.drew

end Go.Proofs.YtnojdchodmogbaaGreat
