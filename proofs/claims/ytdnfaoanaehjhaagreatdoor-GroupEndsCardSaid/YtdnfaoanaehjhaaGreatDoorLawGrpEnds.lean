/- A least and a greatest term of any table: the walk of the statement's function (written by gen/mklaw13.py). -/
import Derived.Test.YtdnfaoanaehjhaaGreatDoorGrpJoin
import Derived.Test.YtdnfaoanaehjhaaGreatDoorH27
import Derived.Test.YtdnfaoanaehjhaaGreatDoorGrpName
import Derived.Test.YtdnfaoanaehjhaaGreatDoorH18
import Derived.Test.YtdnfaoanaehjhaaGreatDoorH29
import Derived.Test.YtdnfaoanaehjhaaGreatDoorRGrpComes
import Derived.Test.YtdnfaoanaehjhaaGreatDoorH13
namespace Go.Proofs.YtdnfaoanaehjhaaGreatDoor
open Go.RowKit Go.Maps Go.Sort

theorem check_ends (V : List (List UInt8)) (R : List RowL) (o m : List UInt8) : checkG V R [] [⟨4, o, m⟩] = checkG V R [] [⟨3, o, m⟩] := by
  have e : aggB ⟨4, o, m⟩ = aggB ⟨3, o, m⟩ := by
    unfold aggB
    dsimp only
    by_cases h : o = [] <;> simp [h]
  have e1 : formG V [] R [⟨4, o, m⟩] = formG V [] R [⟨3, o, m⟩] := by
    unfold formG
    rw [List.all_cons, List.all_cons, e]; rfl
  have e2 : scopeG V [] [⟨4, o, m⟩] = scopeG V [] [⟨3, o, m⟩] := by
    rw [scope_is, scope_is]; rfl
  unfold checkG
  rw [e1, e2]; rfl
def cntE (a : TermL) (l : List TermL) : Nat := (l.filter fun t => decide (t = a)).length
theorem cntE_snoc (a : TermL) (l : List TermL) (t : TermL) : cntE a (l ++ [t]) = cntE a l + if t = a then 1 else 0 := by
  unfold cntE
  rw [List.filter_append, List.length_append]
  by_cases h : t = a
  · rw [if_pos h]; simp [h]
  · rw [if_neg h]; simp [h]
theorem cntE_le (a : TermL) (l : List TermL) : cntE a l ≤ l.length := List.length_filter_le _ _
theorem cntE_pos {a : TermL} {l : List TermL} (h : a ∈ l) : 0 < cntE a l := List.length_pos_of_mem (List.mem_filter.2 ⟨h, by simp⟩)
theorem ends_two (l : List TermL) : valP (endT false l) (endT true l) ≤ 0 := by
  by_cases h : l = []
  · subst h
    show valP nilT nilT ≤ 0
    rw [valP_self]; omega
  · have h1 := (end_is false l h).2 _ (end_is true l h).1
    simpa using h1
theorem ends_in {l : List TermL} {x : TermL} (h : x ∈ l) : ¬ valP x (endT false l) < 0 ∧ ¬ 0 < valP x (endT true l) := by
  have hl : l ≠ [] := fun e => by rw [e] at h; exact absurd h List.not_mem_nil
  have h1 := (end_is false l hl).2 x h
  have h2 := (end_is true l hl).2 x h
  have h3 := valP_anti (endT false l) x
  simp only [Bool.false_eq_true, if_false, if_true] at h1 h2
  omega
theorem boundP_ok {V : List (List UInt8)} {r : RowL} (h : ∀ t ∈ r, t.ok) (x : List UInt8) : (boundP V r x).ok := by
  unfold boundP
  split
  · rename_i i _
    rw [List.getD_eq_getElem?_getD]
    cases hq : r[i]? with
    | none => exact nilT_ok
    | some u => exact h u (List.mem_of_getElem? hq)
  · exact nilT_ok
theorem bound_mem {V : List (List UInt8)} {R : List RowL} {r : RowL} {x : List UInt8} (h : r ∈ R) (hk : (boundP V r x).k ≠ 0) : boundP V r x ∈ boundC V R x := by
  unfold boundC
  exact List.mem_filter.2 ⟨List.mem_map.2 ⟨r, h, rfl⟩, by simpa using hk⟩

set_option maxRecDepth 100000 in
set_option maxHeartbeats 16000000 in
theorem groupEnds_calls (V : List (List UInt8)) (R : List RowL) (o : List UInt8) (hx : okV V) (hr : okR R) (ho : okS o) (tv : Value) (w : World) (hg : Nm.Good w) (ht : TabA w tv V R) :
    Calls Tryz.prog 8 #[tv, .string (bs o)] w fun e w' => e = .returned (.bool true) ∧ Below w.heap.size w w' := by
  obtain ⟨va, n, vc, ra, m, rc, rfl, hV, hR⟩ := ht
  obtain ⟨A, hA⟩ : ∃ A, w.heap.size = A := ⟨_, rfl⟩
  obtain ⟨W0, hW0⟩ : ∃ W0, w.alloc (.cells #[.slice va n vc, .slice ra m rc] 25) = W0 := ⟨_, rfl⟩
  have HB0 := Lib.hid (show Below w.heap.size w W0 by rw [← hW0]; exact box_below _ _)
  have HA0 := Lib.hid (show Blk W0 A 25 #[.slice va n vc, .slice ra m rc] by rw [← hW0, ← hA]; exact blk_new _ _ _)
  have HG := Lib.hid hg
  have HRA := Lib.hid hR
  have HRL := Lib.hid hR.len
  have hrc := hR.cap
  have hrm := hR.most
  unfold maxLen at hrm
  have hTB : ∀ W, Below w.heap.size w W → TabA W (.agg #[.slice va n vc, .slice ra m rc]) V R := fun W hb => ⟨va, n, vc, ra, m, rc, rfl, hV.on hb, hR.on hb⟩
  have HLI := Lib.hid (fun W (hW : Below w.heap.size w W) => light_calls V R _ W (hTB W hW))
  have HNM : Hid (lightB V R = true → ∀ W, Below w.heap.size w W → Calls Tryz.prog 20 #[.agg #[.slice va n vc, .slice ra m rc]] W fun e w' => e = .returned (.string (bs (nameP V))) ∧ Below W.heap.size W w') := Lib.hid fun h W hW => name_calls V R hx (by unfold lightB at h; simp only [Bool.and_eq_true, decide_eq_true_eq] at h; exact h.2) _ W (hTB W hW)
  have HAW := Lib.hid (fun W hW => awake_calls W hW)
  have HRK : Hid (∀ W g, Below w.heap.size w W → Blk W g 41 #[.int .i64 3, .string (bs o), .string (bs (nameP V))] → Calls Tryz.prog 12 #[.agg #[.slice va n vc, .slice ra m rc], .slice none 0 0, .slice (some ⟨g, 0, none⟩) 1 1] W fun e w' => e = .returned (.int .i64 (checkG V R [] [⟨3, o, nameP V⟩])) ∧ Below W.heap.size W w') := Lib.hid fun W g hW hB => rGCheck_calls V R [] [⟨3, o, nameP V⟩] hx hr (fun _ h => absurd h List.not_mem_nil) (fun g h => by rw [List.mem_singleton] at h; subst h; exact ⟨ho, name_ok V⟩) _ none 0 0 (some ⟨g, 0, none⟩) 1 1 W (hTB W hW) (txts_none _) (aggs_one (a := ⟨3, o, nameP V⟩) hB) (by omega)
  have HO3 : Hid (checkG V R [] [⟨3, o, nameP V⟩] = 0 → ∀ W, Below w.heap.size w W → Calls Tryz.prog 17 #[.agg #[.slice va n vc, .slice ra m rc], .agg #[.int .i64 3, .string (bs o), .string (bs (nameP V))]] W fun e w' => e = .returned (.tuple #[(endT false (boundC V R o)).v, .int .i64 0]) ∧ Below W.heap.size W w') := Lib.hid fun h W hW => by
    have h1 := gOf_calls V R ⟨3, o, nameP V⟩ hx hr ⟨ho, name_ok V⟩ _ W (hg.on hW) (hTB W hW)
    have h2 : ofG V R ⟨3, o, nameP V⟩ = endT false (boundC V R o) := by
      unfold ofG
      rw [if_pos h, comes_end (by show ¬ (3 : Int) = 1; decide) (by show ¬ (3 : Int) = 2; decide)]; rfl
    rw [h, h2] at h1
    exact h1
  have HO4 : Hid (checkG V R [] [⟨3, o, nameP V⟩] = 0 → ∀ W, Below w.heap.size w W → Calls Tryz.prog 17 #[.agg #[.slice va n vc, .slice ra m rc], .agg #[.int .i64 4, .string (bs o), .string (bs (nameP V))]] W fun e w' => e = .returned (.tuple #[(endT true (boundC V R o)).v, .int .i64 0]) ∧ Below W.heap.size W w') := Lib.hid fun h W hW => by
    have h1 := gOf_calls V R ⟨4, o, nameP V⟩ hx hr ⟨ho, name_ok V⟩ _ W (hg.on hW) (hTB W hW)
    have h2 : ofG V R ⟨4, o, nameP V⟩ = endT true (boundC V R o) := by
      unfold ofG
      rw [check_ends, if_pos h, comes_end (by show ¬ (4 : Int) = 1; decide) (by show ¬ (4 : Int) = 2; decide)]; rfl
    rw [check_ends, h, h2] at h1
    exact h1
  have HBC := Lib.hid (fun W r a' q c' (h1 : Below w.heap.size w W) (h2 : TrmA W a' q c' r) => bound_calls o V r va n vc a' q c' W (hV.on h1) h2)
  have HOL := Lib.hid (show ∀ t ∈ boundC V R o, t.ok from boundC_ok hr o)
  have HRO := Lib.hid hr
  have HL40 : Hid (lightB V R = true → m ≤ 40) := Lib.hid fun h => by unfold lightB at h; simp only [Bool.and_eq_true, decide_eq_true_eq] at h; rw [← hR.len]; exact h.1
  have HAE := Lib.hid hA
  have HW0 := Lib.hid hW0
  clear hTB hV hR hg hA hW0 hx hr ho
  generalize checkG V R [] [⟨3, o, nameP V⟩] = z at HRK HO3 HO4
  generalize nameP V = nm at HNM HRK HO3 HO4
  have q0 : W0.cell? ⟨A, 0, none⟩ = some (.slice va n vc) := (blk_cell HA0.out 0).trans rfl
  have q1 : W0.cell? ⟨A, 1, none⟩ = some (.slice ra m rc) := (blk_cell HA0.out 1).trans rfl
  have hlA := blk_lt HA0.out
  cases hli : lightB V R with
  | false =>
    rw [hli] at HLI
    clear hli HNM HRK HO3 HO4
    go_enter Tryz.func8, Tryz.ntmps8
    go_wp2_with fail
    rw [HW0.out, HAE.out]
    refine wp_region_held_drew (S := (fun W => Below W0.heap.size W0 W)) (by kernel_rfl) ?_ (fun hHeld => ?_)
    · (try dsimp only); exact (Below.refl _ _).drew
    obtain ⟨Wd, hWd⟩ : ∃ Wd, W0.drew = Wd := ⟨_, rfl⟩
    rw [hWd] at hHeld ⊢
    have HBS := Lib.hid (show Below W0.heap.size W0 Wd by rw [← hWd]; exact (Below.refl _ _).drew)
    clear hWd
    refine wpAnyH_take (i := 0) (oi := ⟨some 14, _, _, _, _, _⟩) (v := ?_) rfl (by kernel_rfl) (by kernel_rfl) (by kernel_rfl) (fun _ _ _ h => h) (Or.inl ⟨by kernel_rfl, ?_⟩) (by assumption) ?_
    rotate_left
    · (intro ww hSw; (try dsimp only at hSw); have e0 := keptC q0 hSw hlA; have e1 := keptC q1 hSw hlA; go_simp); (try with_reducible rfl)
    (try simp only [Act.put, List.setIfInBounds_toArray, List.set_cons_zero, List.set_cons_succ])
    refine wpAnyH_ready (rs := [1]) (by kernel_rfl) (by simp) ?_
    refine AllReadyH.cons rfl (fun K hK => ?_) AllReadyH.nil
    go_simp
    refine (HLI.out Wd (fb2 HB0.out HBS.out (Nat.le_refl _))).mono ?_
    rintro e W100 ⟨rfl, hb⟩
    have hbx : Below Wd.heap.size Wd W100 := hb
    clear hb
    replace HBS := Lib.hid (fb2 HBS.out hbx (Nat.le_refl _))
    clear hbx
    go_wp2_with fail
    refine hK.out _ _ ?_ (fun hHeld => ?_)
    · (try dsimp only); exact HBS.out
    clear hK K
    (try simp only [Act.put, List.setIfInBounds_toArray, List.set_cons_zero, List.set_cons_succ])
    refine wpAnyH_take (i := 2) (oi := ⟨some 16, _, _, _, _, _⟩) (v := ?_) rfl (by kernel_rfl) (by kernel_rfl) (by kernel_rfl) (fun _ _ _ h => h) (Or.inl ⟨by kernel_rfl, ?_⟩) (by assumption) ?_
    rotate_left
    · (intro ww hSw; (try dsimp only at hSw); go_simp); (try with_reducible rfl)
    (try simp only [Act.put, List.setIfInBounds_toArray, List.set_cons_zero, List.set_cons_succ])
    refine wpAnyH_take (i := 3) (oi := ⟨some 17, _, _, _, _, _⟩) (v := ?_) rfl (by kernel_rfl) (by kernel_rfl) (by kernel_rfl) (fun _ _ _ h => h) (Or.inl ⟨by kernel_rfl, ?_⟩) (by assumption) ?_
    rotate_left
    · (intro ww hSw; (try dsimp only at hSw); go_simp); (try with_reducible rfl)
    (try simp only [Act.put, List.setIfInBounds_toArray, List.set_cons_zero, List.set_cons_succ])
    refine wpAnyH_take (i := 4) (oi := ⟨some 18, _, _, _, _, _⟩) (v := undef) rfl (by kernel_rfl) (by kernel_rfl) (by kernel_rfl) (fun _ _ _ h => h) (Or.inr ⟨by kernel_rfl, rfl⟩) (by assumption) ?_
    (try simp only [Act.put, List.setIfInBounds_toArray, List.set_cons_zero, List.set_cons_succ])
    refine wpAnyH_take (i := 5) (oi := ⟨some 19, _, _, _, _, _⟩) (v := undef) rfl (by kernel_rfl) (by kernel_rfl) (by kernel_rfl) (fun _ _ _ h => h) (Or.inr ⟨by kernel_rfl, rfl⟩) (by assumption) ?_
    (try simp only [Act.put, List.setIfInBounds_toArray, List.set_cons_zero, List.set_cons_succ])
    refine wpAnyH_take (i := 6) (oi := ⟨some 20, _, _, _, _, _⟩) (v := undef) rfl (by kernel_rfl) (by kernel_rfl) (by kernel_rfl) (fun _ _ _ h => h) (Or.inr ⟨by kernel_rfl, rfl⟩) (by assumption) ?_
    (try simp only [Act.put, List.setIfInBounds_toArray, List.set_cons_zero, List.set_cons_succ])
    refine wpAnyH_take (i := 7) (oi := ⟨some 21, _, _, _, _, _⟩) (v := undef) rfl (by kernel_rfl) (by kernel_rfl) (by kernel_rfl) (fun _ _ _ h => h) (Or.inr ⟨by kernel_rfl, rfl⟩) (by assumption) ?_
    (try simp only [Act.put, List.setIfInBounds_toArray, List.set_cons_zero, List.set_cons_succ])
    refine wpAnyH_take (i := 8) (oi := ⟨some 22, _, _, _, _, _⟩) (v := undef) rfl (by kernel_rfl) (by kernel_rfl) (by kernel_rfl) (fun _ _ _ h => h) (Or.inr ⟨by kernel_rfl, rfl⟩) (by assumption) ?_
    (try simp only [Act.put, List.setIfInBounds_toArray, List.set_cons_zero, List.set_cons_succ])
    refine wpAnyH_take (i := 9) (oi := ⟨some 23, _, _, _, _, _⟩) (v := undef) rfl (by kernel_rfl) (by kernel_rfl) (by kernel_rfl) (fun _ _ _ h => h) (Or.inr ⟨by kernel_rfl, rfl⟩) (by assumption) ?_
    (try simp only [Act.put, List.setIfInBounds_toArray, List.set_cons_zero, List.set_cons_succ])
    refine wpAnyH_take (i := 10) (oi := ⟨some 24, _, _, _, _, _⟩) (v := undef) rfl (by kernel_rfl) (by kernel_rfl) (by kernel_rfl) (fun _ _ _ h => h) (Or.inr ⟨by kernel_rfl, rfl⟩) (by assumption) ?_
    (try simp only [Act.put, List.setIfInBounds_toArray, List.set_cons_zero, List.set_cons_succ])
    refine wpAnyH_take (i := 11) (oi := ⟨some 25, _, _, _, _, _⟩) (v := undef) rfl (by kernel_rfl) (by kernel_rfl) (by kernel_rfl) (fun _ _ _ h => h) (Or.inr ⟨by kernel_rfl, rfl⟩) (by assumption) ?_
    (try simp only [Act.put, List.setIfInBounds_toArray, List.set_cons_zero, List.set_cons_succ])
    refine wpAnyH_take (i := 12) (oi := ⟨some 26, _, _, _, _, _⟩) (v := ?_) rfl (by kernel_rfl) (by kernel_rfl) (by kernel_rfl) (fun _ _ _ h => h) (Or.inl ⟨by kernel_rfl, ?_⟩) (by assumption) ?_
    rotate_left
    · (intro ww hSw; (try dsimp only at hSw); go_simp); (try with_reducible rfl)
    (try simp only [Act.put, List.setIfInBounds_toArray, List.set_cons_zero, List.set_cons_succ])
    refine wpAnyH_done (by kernel_rfl) ?_ _
    have HB1 := Lib.hid (fb2 HB0.out HBS.out (Nat.le_refl _))
    go_wp2_with fail
    refine (HAW.out _ (HG.out.on HB1.out)).mono ?_
    rintro e w2 ⟨rfl, hb2⟩
    have HBz := Lib.hid (fb2 HB1.out hb2 (Nat.le_refl _))
    clear hb2
    go_wp2
    go_ret
    exact ⟨rfl, HBz.out⟩
  | true =>
    have hm40 := HL40.out hli
    have HN := Lib.hid (HNM.out hli)
    rw [hli] at HLI
    clear hli HNM HL40
    go_enter Tryz.func8, Tryz.ntmps8
    go_wp2_with fail
    rw [HW0.out, HAE.out]
    refine wp_region_held_drew (S := (fun W => Below W0.heap.size W0 W)) (by kernel_rfl) ?_ (fun hHeld => ?_)
    · (try dsimp only); exact (Below.refl _ _).drew
    obtain ⟨Wd, hWd⟩ : ∃ Wd, W0.drew = Wd := ⟨_, rfl⟩
    rw [hWd] at hHeld ⊢
    have HBS := Lib.hid (show Below W0.heap.size W0 Wd by rw [← hWd]; exact (Below.refl _ _).drew)
    clear hWd
    refine wpAnyH_take (i := 0) (oi := ⟨some 14, _, _, _, _, _⟩) (v := ?_) rfl (by kernel_rfl) (by kernel_rfl) (by kernel_rfl) (fun _ _ _ h => h) (Or.inl ⟨by kernel_rfl, ?_⟩) (by assumption) ?_
    rotate_left
    · (intro ww hSw; (try dsimp only at hSw); have e0 := keptC q0 hSw hlA; have e1 := keptC q1 hSw hlA; go_simp); (try with_reducible rfl)
    (try simp only [Act.put, List.setIfInBounds_toArray, List.set_cons_zero, List.set_cons_succ])
    refine wpAnyH_ready (rs := [1]) (by kernel_rfl) (by simp) ?_
    refine AllReadyH.cons rfl (fun K hK => ?_) AllReadyH.nil
    go_simp
    refine (HLI.out Wd (fb2 HB0.out HBS.out (Nat.le_refl _))).mono ?_
    rintro e W100 ⟨rfl, hb⟩
    have hbx : Below Wd.heap.size Wd W100 := hb
    clear hb
    replace HBS := Lib.hid (fb2 HBS.out hbx (Nat.le_refl _))
    clear hbx
    go_wp2_with fail
    refine hK.out _ _ ?_ (fun hHeld => ?_)
    · (try dsimp only); exact HBS.out
    clear hK K
    (try simp only [Act.put, List.setIfInBounds_toArray, List.set_cons_zero, List.set_cons_succ])
    refine wpAnyH_take (i := 2) (oi := ⟨some 16, _, _, _, _, _⟩) (v := ?_) rfl (by kernel_rfl) (by kernel_rfl) (by kernel_rfl) (fun _ _ _ h => h) (Or.inl ⟨by kernel_rfl, ?_⟩) (by assumption) ?_
    rotate_left
    · (intro ww hSw; (try dsimp only at hSw); go_simp); (try with_reducible rfl)
    (try simp only [Act.put, List.setIfInBounds_toArray, List.set_cons_zero, List.set_cons_succ])
    refine wpAnyH_take (i := 3) (oi := ⟨some 17, _, _, _, _, _⟩) (v := ?_) rfl (by kernel_rfl) (by kernel_rfl) (by kernel_rfl) (fun _ _ _ h => h) (Or.inl ⟨by kernel_rfl, ?_⟩) (by assumption) ?_
    rotate_left
    · (intro ww hSw; (try dsimp only at hSw); go_simp); (try with_reducible rfl)
    (try simp only [Act.put, List.setIfInBounds_toArray, List.set_cons_zero, List.set_cons_succ])
    refine wpAnyH_take (i := 4) (oi := ⟨some 18, _, _, _, _, _⟩) (v := ?_) rfl (by kernel_rfl) (by kernel_rfl) (by kernel_rfl) (fun _ _ _ h => h) (Or.inl ⟨by kernel_rfl, ?_⟩) (by assumption) ?_
    rotate_left
    · (intro ww hSw; (try dsimp only at hSw); have e0 := keptC q0 hSw hlA; have e1 := keptC q1 hSw hlA; go_simp); (try with_reducible rfl)
    (try simp only [Act.put, List.setIfInBounds_toArray, List.set_cons_zero, List.set_cons_succ])
    refine wpAnyH_take (i := 5) (oi := ⟨some 19, _, _, _, _, _⟩) (v := ?_) rfl (by kernel_rfl) (by kernel_rfl) (by kernel_rfl) (fun _ _ _ h => h) (Or.inl ⟨by kernel_rfl, ?_⟩) (by assumption) ?_
    rotate_left
    · (intro ww hSw; (try dsimp only at hSw); go_simp); (try with_reducible rfl)
    (try simp only [Act.put, List.setIfInBounds_toArray, List.set_cons_zero, List.set_cons_succ])
    refine wpAnyH_take (i := 6) (oi := ⟨some 20, _, _, _, _, _⟩) (v := ?_) rfl (by kernel_rfl) (by kernel_rfl) (by kernel_rfl) (fun _ _ _ h => h) (Or.inl ⟨by kernel_rfl, ?_⟩) (by assumption) ?_
    rotate_left
    · (intro ww hSw; (try dsimp only at hSw); have e0 := keptC q0 hSw hlA; have e1 := keptC q1 hSw hlA; go_simp); (try with_reducible rfl)
    (try simp only [Act.put, List.setIfInBounds_toArray, List.set_cons_zero, List.set_cons_succ])
    refine wpAnyH_ready (rs := [7]) (by kernel_rfl) (by simp) ?_
    refine AllReadyH.cons rfl (fun K hK => ?_) AllReadyH.nil
    go_simp
    refine (HN.out W100 (fb2 HB0.out HBS.out (Nat.le_refl _))).mono ?_
    rintro e W101 ⟨rfl, hb⟩
    have hbx : Below W100.heap.size W100 W101 := hb
    clear hb
    replace HBS := Lib.hid (fb2 HBS.out hbx (Nat.le_refl _))
    clear hbx
    go_wp2_with fail
    refine hK.out _ _ ?_ (fun hHeld => ?_)
    · (try dsimp only); exact HBS.out
    clear hK K
    (try simp only [Act.put, List.setIfInBounds_toArray, List.set_cons_zero, List.set_cons_succ])
    refine wpAnyH_take (i := 8) (oi := ⟨some 22, _, _, _, _, _⟩) (v := ?_) rfl (by kernel_rfl) (by kernel_rfl) (by kernel_rfl) (fun _ _ _ h => h) (Or.inl ⟨by kernel_rfl, ?_⟩) (by assumption) ?_
    rotate_left
    · (intro ww hSw; (try dsimp only at hSw); go_simp); (try with_reducible rfl)
    (try simp only [Act.put, List.setIfInBounds_toArray, List.set_cons_zero, List.set_cons_succ])
    refine wpAnyH_ready (rs := [9]) (by kernel_rfl) (by simp) ?_
    refine AllReadyH.cons rfl (fun K hK => ?_) AllReadyH.nil
    go_simp
    obtain ⟨W102, hWn⟩ : ∃ W102, W101.alloc (.cells #[.int .i64 3, .string (bs o), .string (bs nm)] 41) = W102 := ⟨_, rfl⟩
    obtain ⟨G9, hG9⟩ : ∃ G9, W101.heap.size = G9 := ⟨_, rfl⟩
    have HBG9 := Lib.hid (show Blk W102 G9 41 #[.int .i64 3, .string (bs o), .string (bs nm)] by rw [← hWn, ← hG9]; exact blk_new _ _ _)
    have hbx : Below W101.heap.size W101 W102 := by rw [← hWn]; exact box_below _ _
    have HGEG9 := Lib.hid (show W101.heap.size = G9 from hG9)
    rw [hWn, hG9]
    clear hWn hG9
    replace HBS := Lib.hid (fb2 HBS.out hbx (Nat.le_refl _))
    clear hbx
    refine hK.out _ _ ?_ (fun hHeld => ?_)
    · (try dsimp only); exact HBS.out
    clear hK K
    (try simp only [Act.put, List.setIfInBounds_toArray, List.set_cons_zero, List.set_cons_succ])
    refine wpAnyH_ready (rs := [10]) (by kernel_rfl) (by simp) ?_
    refine AllReadyH.cons rfl (fun K hK => ?_) AllReadyH.nil
    go_simp
    refine (HRK.out W102 G9 (fb2 HB0.out HBS.out (Nat.le_refl _)) HBG9.out).mono ?_
    rintro e W103 ⟨rfl, hb⟩
    have hbx : Below W102.heap.size W102 W103 := hb
    clear hb
    replace HBG9 := Lib.hid (blk_on HBG9.out hbx (blk_lt HBG9.out))
    replace HBS := Lib.hid (fb2 HBS.out hbx (Nat.le_refl _))
    clear hbx
    go_wp2_with fail
    refine hK.out _ _ ?_ (fun hHeld => ?_)
    · (try dsimp only); exact HBS.out
    clear hK K
    (try simp only [Act.put, List.setIfInBounds_toArray, List.set_cons_zero, List.set_cons_succ])
    refine wpAnyH_take (i := 11) (oi := ⟨some 25, _, _, _, _, _⟩) (v := ?_) rfl (by kernel_rfl) (by kernel_rfl) (by kernel_rfl) (fun _ _ _ h => h) (Or.inl ⟨by kernel_rfl, ?_⟩) (by assumption) ?_
    rotate_left
    · (intro ww hSw; (try dsimp only at hSw); go_simp); (try with_reducible rfl)
    (try simp only [Act.put, List.setIfInBounds_toArray, List.set_cons_zero, List.set_cons_succ])
    refine wpAnyH_take (i := 12) (oi := ⟨some 26, _, _, _, _, _⟩) (v := ?_) rfl (by kernel_rfl) (by kernel_rfl) (by kernel_rfl) (fun _ _ _ h => h) (Or.inl ⟨by kernel_rfl, ?_⟩) (by assumption) ?_
    rotate_left
    · (intro ww hSw; (try dsimp only at hSw); go_simp); (try with_reducible rfl)
    (try simp only [Act.put, List.setIfInBounds_toArray, List.set_cons_zero, List.set_cons_succ])
    refine wpAnyH_done (by kernel_rfl) ?_ _
    obtain ⟨W1, hW1⟩ : ∃ W1, W1 = W103 := ⟨_, rfl⟩
    have HB1 := Lib.hid (show Below w.heap.size w W1 by rw [hW1]; exact (fb2 HB0.out HBS.out (Nat.le_refl _)))
    have HA1 := Lib.hid (show Blk W1 A 25 #[.slice va n vc, .slice ra m rc] by rw [hW1]; exact blk_on HA0.out HBS.out (blk_lt HA0.out))
    rw [← hW1]
    clear hW1 HBS HBG9 HGEG9 q0 q1 hlA
    by_cases hz : z = 0
    · have gz : (z != 0) = false := by rw [hz]; rfl
      have H3 := Lib.hid (HO3.out hz)
      have H4 := Lib.hid (HO4.out hz)
      clear hz HO3 HO4
      have q0 : W1.cell? ⟨A, 0, none⟩ = some (.slice va n vc) := (blk_cell HA1.out 0).trans rfl
      have q1 : W1.cell? ⟨A, 1, none⟩ = some (.slice ra m rc) := (blk_cell HA1.out 1).trans rfl
      have hlA := blk_lt HA1.out
      have HAO := Lib.hid (ends_ok (last := false) HOL.out)
      have HBO := Lib.hid (ends_ok (last := true) HOL.out)
      have HLE2 := Lib.hid (ends_two (boundC V R o))
      have HIN := Lib.hid (fun x (h : x ∈ boundC V R o) => ends_in h)
      have HNIL := Lib.hid (show (boundC V R o).length = 0 → (endT false (boundC V R o)).k = 0 ∧ (endT true (boundC V R o)).k = 0 from fun h => by rw [List.eq_nil_of_length_eq_zero h]; exact ⟨rfl, rfl⟩)
      have HMA := Lib.hid (show 0 < (boundC V R o).length → endT false (boundC V R o) ∈ boundC V R o ∧ endT true (boundC V R o) ∈ boundC V R o from fun h => ⟨(end_is false _ (fun e => by rw [e] at h; exact absurd h (Nat.lt_irrefl _))).1, (end_is true _ (fun e => by rw [e] at h; exact absurd h (Nat.lt_irrefl _))).1⟩)
      generalize endT false (boundC V R o) = ta at H3 HAO HLE2 HIN HNIL HMA
      generalize endT true (boundC V R o) = tb at H4 HBO HLE2 HIN HNIL HMA
      obtain ⟨ak, ax, ay, az⟩ := ta
      obtain ⟨bk, bx, bY, bz⟩ := tb
      simp only [TermL.v] at H3 H4
      dsimp only at HNIL
      go_wp2_with fail
      apply join_wp (F := fun (X : Nat) (Wj : World) => Below W1.heap.size W1 Wj ∧ Blk Wj X 37 #[.int .i64 ak, .string (bs ax), .string (bs ay), .string (bs az)])
      · intro key
        refine wp_region_held_drew (S := (fun W => Below W1.heap.size W1 W)) (by kernel_rfl) ?_ (fun hHeld => ?_)
        · (try dsimp only); exact (Below.refl _ _).drew
        obtain ⟨Wd, hWd⟩ : ∃ Wd, W1.drew = Wd := ⟨_, rfl⟩
        rw [hWd] at hHeld ⊢
        have HBS := Lib.hid (show Below W1.heap.size W1 Wd by rw [← hWd]; exact (Below.refl _ _).drew)
        clear hWd
        refine wpAnyH_take (i := 0) (oi := ⟨some 29, _, _, _, _, _⟩) (v := ?_) rfl (by kernel_rfl) (by kernel_rfl) (by kernel_rfl) (fun _ _ _ h => h) (Or.inl ⟨by kernel_rfl, ?_⟩) (by assumption) ?_
        rotate_left
        · (intro ww hSw; (try dsimp only at hSw); have e0 := keptC q0 hSw hlA; have e1 := keptC q1 hSw hlA; go_simp); (try with_reducible rfl)
        (try simp only [Act.put, List.setIfInBounds_toArray, List.set_cons_zero, List.set_cons_succ])
        refine wpAnyH_take (i := 1) (oi := ⟨some 30, _, _, _, _, _⟩) (v := ?_) rfl (by kernel_rfl) (by kernel_rfl) (by kernel_rfl) (fun _ _ _ h => h) (Or.inl ⟨by kernel_rfl, ?_⟩) (by assumption) ?_
        rotate_left
        · (intro ww hSw; (try dsimp only at hSw); go_simp); (try with_reducible rfl)
        (try simp only [Act.put, List.setIfInBounds_toArray, List.set_cons_zero, List.set_cons_succ])
        refine wpAnyH_take (i := 2) (oi := ⟨some 31, _, _, _, _, _⟩) (v := ?_) rfl (by kernel_rfl) (by kernel_rfl) (by kernel_rfl) (fun _ _ _ h => h) (Or.inl ⟨by kernel_rfl, ?_⟩) (by assumption) ?_
        rotate_left
        · (intro ww hSw; (try dsimp only at hSw); have e0 := keptC q0 hSw hlA; have e1 := keptC q1 hSw hlA; go_simp); (try with_reducible rfl)
        (try simp only [Act.put, List.setIfInBounds_toArray, List.set_cons_zero, List.set_cons_succ])
        refine wpAnyH_ready (rs := [3, 9]) (by kernel_rfl) (by simp) ?_
        refine AllReadyH.cons rfl (fun K hK => ?_) (AllReadyH.cons rfl (fun K hK => ?_) AllReadyH.nil)
        · go_simp
          refine (HN.out Wd (fb2 HB1.out HBS.out (Nat.le_refl _))).mono ?_
          rintro e W100 ⟨rfl, hb⟩
          have hbx : Below Wd.heap.size Wd W100 := hb
          clear hb
          replace HBS := Lib.hid (fb2 HBS.out hbx (Nat.le_refl _))
          clear hbx
          go_wp2_with fail
          refine hK.out _ _ ?_ (fun hHeld => ?_)
          · (try dsimp only); exact HBS.out
          clear hK K
          (try simp only [Act.put, List.setIfInBounds_toArray, List.set_cons_zero, List.set_cons_succ])
          refine wpAnyH_take (i := 4) (oi := ⟨some 33, _, _, _, _, _⟩) (v := ?_) rfl (by kernel_rfl) (by kernel_rfl) (by kernel_rfl) (fun _ _ _ h => h) (Or.inl ⟨by kernel_rfl, ?_⟩) (by assumption) ?_
          rotate_left
          · (intro ww hSw; (try dsimp only at hSw); go_simp); (try with_reducible rfl)
          (try simp only [Act.put, List.setIfInBounds_toArray, List.set_cons_zero, List.set_cons_succ])
          refine wpAnyH_ready (rs := [5, 9]) (by kernel_rfl) (by simp) ?_
          refine AllReadyH.cons rfl (fun K hK => ?_) (AllReadyH.cons rfl (fun K hK => ?_) AllReadyH.nil)
          · go_simp
            refine (H3.out W100 (fb2 HB1.out HBS.out (Nat.le_refl _))).mono ?_
            rintro e W101 ⟨rfl, hb⟩
            have hbx : Below W100.heap.size W100 W101 := hb
            clear hb
            replace HBS := Lib.hid (fb2 HBS.out hbx (Nat.le_refl _))
            clear hbx
            go_wp2_with fail
            refine hK.out _ _ ?_ (fun hHeld => ?_)
            · (try dsimp only); exact HBS.out
            clear hK K
            (try simp only [Act.put, List.setIfInBounds_toArray, List.set_cons_zero, List.set_cons_succ])
            refine wpAnyH_take (i := 6) (oi := ⟨some 28, _, _, _, _, _⟩) (v := ?_) rfl (by kernel_rfl) (by kernel_rfl) (by kernel_rfl) (fun _ _ _ h => h) (Or.inl ⟨by kernel_rfl, ?_⟩) (by assumption) ?_
            rotate_left
            · (intro ww hSw; (try dsimp only at hSw); go_simp); (try with_reducible rfl)
            (try simp only [Act.put, List.setIfInBounds_toArray, List.set_cons_zero, List.set_cons_succ])
            refine wpAnyH_take (i := 7) (oi := ⟨some 35, _, _, _, _, _⟩) (v := ?_) rfl (by kernel_rfl) (by kernel_rfl) (by kernel_rfl) (fun _ _ _ h => h) (Or.inl ⟨by kernel_rfl, ?_⟩) (by assumption) ?_
            rotate_left
            · (intro ww hSw; (try dsimp only at hSw); go_simp); (try with_reducible rfl)
            (try simp only [Act.put, List.setIfInBounds_toArray, List.set_cons_zero, List.set_cons_succ])
            refine wpAnyH_take (i := 8) (oi := ⟨some 36, _, _, _, _, _⟩) (v := ?_) rfl (by kernel_rfl) (by kernel_rfl) (by kernel_rfl) (fun _ _ _ h => h) (Or.inl ⟨by kernel_rfl, ?_⟩) (by assumption) ?_
            rotate_left
            · (intro ww hSw; (try dsimp only at hSw); go_simp); (try with_reducible rfl)
            (try simp only [Act.put, List.setIfInBounds_toArray, List.set_cons_zero, List.set_cons_succ])
            refine wpAnyH_ready (rs := [9]) (by kernel_rfl) (by simp) ?_
            refine AllReadyH.cons rfl (fun K hK => ?_) AllReadyH.nil
            go_simp
            obtain ⟨W102, hWn⟩ : ∃ W102, W101.alloc (.cells #[.int .i64 0, .string ⟨#[]⟩, .string ⟨#[]⟩, .string ⟨#[]⟩] 37) = W102 := ⟨_, rfl⟩
            obtain ⟨X, hX⟩ : ∃ X, W101.heap.size = X := ⟨_, rfl⟩
            have HBX := Lib.hid (show Blk W102 X 37 #[.int .i64 0, .string ⟨#[]⟩, .string ⟨#[]⟩, .string ⟨#[]⟩] by rw [← hWn, ← hX]; exact blk_new _ _ _)
            have hbx : Below W101.heap.size W101 W102 := by rw [← hWn]; exact box_below _ _
            have HGEX := Lib.hid (show W101.heap.size = X from hX)
            rw [hWn, hX]
            clear hWn hX
            replace HGEX := Lib.hid (show W1.heap.size ≤ X by have h1 := HBS.out.size; have h2 := HGEX.out; omega)
            replace HBS := Lib.hid (fb2 HBS.out hbx (Nat.le_refl _))
            clear hbx
            refine hK.out _ _ ?_ (fun hHeld => ?_)
            · (try dsimp only); exact HBS.out
            clear hK K
            (try simp only [Act.put, List.setIfInBounds_toArray, List.set_cons_zero, List.set_cons_succ])
            refine wpAnyH_ready (rs := [10]) (by kernel_rfl) (by simp) ?_
            refine AllReadyH.cons rfl (fun K hK => ?_) AllReadyH.nil
            refine wp_whole_abs 37 (.tmp 5) (.tmp 35) rfl X #[.int .i64 ak, .string (bs ax), .string (bs ay), .string (bs az)] rfl rfl 37 #[.int .i64 0, .string ⟨#[]⟩, .string ⟨#[]⟩, .string ⟨#[]⟩] HBX.out (by kernel_rfl) rfl (by simp [Value.oneCell']) ?_
            intro W103 hXs hgs
            replace HBS := Lib.hid (HBS.out.grown hgs HBS.out.size (fun j hj => by injection hj with hj; have := HGEX.out; omega))
            replace HBX := Lib.hid (show Blk W103 X 37 #[.int .i64 ak, .string (bs ax), .string (bs ay), .string (bs az)] from hXs)
            clear hXs hgs
            refine hK.out _ _ ?_ (fun hHeld => ?_)
            · (try dsimp only); exact HBS.out
            clear hK K
            (try simp only [Act.put, List.setIfInBounds_toArray])
            refine wpAnyH_take (i := 11) (oi := ⟨some 6, _, _, _, _, _⟩) (v := ?_) rfl (by kernel_rfl) (by kernel_rfl) (by kernel_rfl) (fun _ _ _ h => h) (Or.inl ⟨by kernel_rfl, ?_⟩) (by assumption) ?_
            rotate_left
            · (intro ww hSw; (try dsimp only at hSw); go_simp); (try with_reducible rfl)
            (try simp only [Act.put])
            refine wpAnyH_done (by kernel_rfl) ?_ _
            exact key X W103 ⟨HBS.out, HBX.out⟩
          · go_simp
            obtain ⟨W101, hWn⟩ : ∃ W101, W100.alloc (.cells #[.int .i64 0, .string ⟨#[]⟩, .string ⟨#[]⟩, .string ⟨#[]⟩] 37) = W101 := ⟨_, rfl⟩
            obtain ⟨X, hX⟩ : ∃ X, W100.heap.size = X := ⟨_, rfl⟩
            have HBX := Lib.hid (show Blk W101 X 37 #[.int .i64 0, .string ⟨#[]⟩, .string ⟨#[]⟩, .string ⟨#[]⟩] by rw [← hWn, ← hX]; exact blk_new _ _ _)
            have hbx : Below W100.heap.size W100 W101 := by rw [← hWn]; exact box_below _ _
            have HGEX := Lib.hid (show W100.heap.size = X from hX)
            rw [hWn, hX]
            clear hWn hX
            replace HGEX := Lib.hid (show W1.heap.size ≤ X by have h1 := HBS.out.size; have h2 := HGEX.out; omega)
            replace HBS := Lib.hid (fb2 HBS.out hbx (Nat.le_refl _))
            clear hbx
            refine hK.out _ _ ?_ (fun hHeld => ?_)
            · (try dsimp only); exact HBS.out
            clear hK K
            (try simp only [Act.put, List.setIfInBounds_toArray, List.set_cons_zero, List.set_cons_succ])
            refine wpAnyH_ready (rs := [5]) (by kernel_rfl) (by simp) ?_
            refine AllReadyH.cons rfl (fun K hK => ?_) AllReadyH.nil
            go_simp
            refine (H3.out W101 (fb2 HB1.out HBS.out (Nat.le_refl _))).mono ?_
            rintro e W102 ⟨rfl, hb⟩
            have hbx : Below W101.heap.size W101 W102 := hb
            clear hb
            replace HBX := Lib.hid (blk_on HBX.out hbx (blk_lt HBX.out))
            replace HBS := Lib.hid (fb2 HBS.out hbx (Nat.le_refl _))
            clear hbx
            go_wp2_with fail
            refine hK.out _ _ ?_ (fun hHeld => ?_)
            · (try dsimp only); exact HBS.out
            clear hK K
            (try simp only [Act.put, List.setIfInBounds_toArray, List.set_cons_zero, List.set_cons_succ])
            refine wpAnyH_take (i := 6) (oi := ⟨some 28, _, _, _, _, _⟩) (v := ?_) rfl (by kernel_rfl) (by kernel_rfl) (by kernel_rfl) (fun _ _ _ h => h) (Or.inl ⟨by kernel_rfl, ?_⟩) (by assumption) ?_
            rotate_left
            · (intro ww hSw; (try dsimp only at hSw); go_simp); (try with_reducible rfl)
            (try simp only [Act.put, List.setIfInBounds_toArray, List.set_cons_zero, List.set_cons_succ])
            refine wpAnyH_take (i := 7) (oi := ⟨some 35, _, _, _, _, _⟩) (v := ?_) rfl (by kernel_rfl) (by kernel_rfl) (by kernel_rfl) (fun _ _ _ h => h) (Or.inl ⟨by kernel_rfl, ?_⟩) (by assumption) ?_
            rotate_left
            · (intro ww hSw; (try dsimp only at hSw); go_simp); (try with_reducible rfl)
            (try simp only [Act.put, List.setIfInBounds_toArray, List.set_cons_zero, List.set_cons_succ])
            refine wpAnyH_take (i := 8) (oi := ⟨some 36, _, _, _, _, _⟩) (v := ?_) rfl (by kernel_rfl) (by kernel_rfl) (by kernel_rfl) (fun _ _ _ h => h) (Or.inl ⟨by kernel_rfl, ?_⟩) (by assumption) ?_
            rotate_left
            · (intro ww hSw; (try dsimp only at hSw); go_simp); (try with_reducible rfl)
            (try simp only [Act.put, List.setIfInBounds_toArray, List.set_cons_zero, List.set_cons_succ])
            refine wpAnyH_ready (rs := [10]) (by kernel_rfl) (by simp) ?_
            refine AllReadyH.cons rfl (fun K hK => ?_) AllReadyH.nil
            refine wp_whole_abs 37 (.tmp 5) (.tmp 35) rfl X #[.int .i64 ak, .string (bs ax), .string (bs ay), .string (bs az)] rfl rfl 37 #[.int .i64 0, .string ⟨#[]⟩, .string ⟨#[]⟩, .string ⟨#[]⟩] HBX.out (by kernel_rfl) rfl (by simp [Value.oneCell']) ?_
            intro W103 hXs hgs
            replace HBS := Lib.hid (HBS.out.grown hgs HBS.out.size (fun j hj => by injection hj with hj; have := HGEX.out; omega))
            replace HBX := Lib.hid (show Blk W103 X 37 #[.int .i64 ak, .string (bs ax), .string (bs ay), .string (bs az)] from hXs)
            clear hXs hgs
            refine hK.out _ _ ?_ (fun hHeld => ?_)
            · (try dsimp only); exact HBS.out
            clear hK K
            (try simp only [Act.put, List.setIfInBounds_toArray])
            refine wpAnyH_take (i := 11) (oi := ⟨some 6, _, _, _, _, _⟩) (v := ?_) rfl (by kernel_rfl) (by kernel_rfl) (by kernel_rfl) (fun _ _ _ h => h) (Or.inl ⟨by kernel_rfl, ?_⟩) (by assumption) ?_
            rotate_left
            · (intro ww hSw; (try dsimp only at hSw); go_simp); (try with_reducible rfl)
            (try simp only [Act.put])
            refine wpAnyH_done (by kernel_rfl) ?_ _
            exact key X W103 ⟨HBS.out, HBX.out⟩
        · go_simp
          obtain ⟨W100, hWn⟩ : ∃ W100, Wd.alloc (.cells #[.int .i64 0, .string ⟨#[]⟩, .string ⟨#[]⟩, .string ⟨#[]⟩] 37) = W100 := ⟨_, rfl⟩
          obtain ⟨X, hX⟩ : ∃ X, Wd.heap.size = X := ⟨_, rfl⟩
          have HBX := Lib.hid (show Blk W100 X 37 #[.int .i64 0, .string ⟨#[]⟩, .string ⟨#[]⟩, .string ⟨#[]⟩] by rw [← hWn, ← hX]; exact blk_new _ _ _)
          have hbx : Below Wd.heap.size Wd W100 := by rw [← hWn]; exact box_below _ _
          have HGEX := Lib.hid (show Wd.heap.size = X from hX)
          rw [hWn, hX]
          clear hWn hX
          replace HGEX := Lib.hid (show W1.heap.size ≤ X by have h1 := HBS.out.size; have h2 := HGEX.out; omega)
          replace HBS := Lib.hid (fb2 HBS.out hbx (Nat.le_refl _))
          clear hbx
          refine hK.out _ _ ?_ (fun hHeld => ?_)
          · (try dsimp only); exact HBS.out
          clear hK K
          (try simp only [Act.put, List.setIfInBounds_toArray, List.set_cons_zero, List.set_cons_succ])
          refine wpAnyH_ready (rs := [3]) (by kernel_rfl) (by simp) ?_
          refine AllReadyH.cons rfl (fun K hK => ?_) AllReadyH.nil
          go_simp
          refine (HN.out W100 (fb2 HB1.out HBS.out (Nat.le_refl _))).mono ?_
          rintro e W101 ⟨rfl, hb⟩
          have hbx : Below W100.heap.size W100 W101 := hb
          clear hb
          replace HBX := Lib.hid (blk_on HBX.out hbx (blk_lt HBX.out))
          replace HBS := Lib.hid (fb2 HBS.out hbx (Nat.le_refl _))
          clear hbx
          go_wp2_with fail
          refine hK.out _ _ ?_ (fun hHeld => ?_)
          · (try dsimp only); exact HBS.out
          clear hK K
          (try simp only [Act.put, List.setIfInBounds_toArray, List.set_cons_zero, List.set_cons_succ])
          refine wpAnyH_take (i := 4) (oi := ⟨some 33, _, _, _, _, _⟩) (v := ?_) rfl (by kernel_rfl) (by kernel_rfl) (by kernel_rfl) (fun _ _ _ h => h) (Or.inl ⟨by kernel_rfl, ?_⟩) (by assumption) ?_
          rotate_left
          · (intro ww hSw; (try dsimp only at hSw); go_simp); (try with_reducible rfl)
          (try simp only [Act.put, List.setIfInBounds_toArray, List.set_cons_zero, List.set_cons_succ])
          refine wpAnyH_ready (rs := [5]) (by kernel_rfl) (by simp) ?_
          refine AllReadyH.cons rfl (fun K hK => ?_) AllReadyH.nil
          go_simp
          refine (H3.out W101 (fb2 HB1.out HBS.out (Nat.le_refl _))).mono ?_
          rintro e W102 ⟨rfl, hb⟩
          have hbx : Below W101.heap.size W101 W102 := hb
          clear hb
          replace HBX := Lib.hid (blk_on HBX.out hbx (blk_lt HBX.out))
          replace HBS := Lib.hid (fb2 HBS.out hbx (Nat.le_refl _))
          clear hbx
          go_wp2_with fail
          refine hK.out _ _ ?_ (fun hHeld => ?_)
          · (try dsimp only); exact HBS.out
          clear hK K
          (try simp only [Act.put, List.setIfInBounds_toArray, List.set_cons_zero, List.set_cons_succ])
          refine wpAnyH_take (i := 6) (oi := ⟨some 28, _, _, _, _, _⟩) (v := ?_) rfl (by kernel_rfl) (by kernel_rfl) (by kernel_rfl) (fun _ _ _ h => h) (Or.inl ⟨by kernel_rfl, ?_⟩) (by assumption) ?_
          rotate_left
          · (intro ww hSw; (try dsimp only at hSw); go_simp); (try with_reducible rfl)
          (try simp only [Act.put, List.setIfInBounds_toArray, List.set_cons_zero, List.set_cons_succ])
          refine wpAnyH_take (i := 7) (oi := ⟨some 35, _, _, _, _, _⟩) (v := ?_) rfl (by kernel_rfl) (by kernel_rfl) (by kernel_rfl) (fun _ _ _ h => h) (Or.inl ⟨by kernel_rfl, ?_⟩) (by assumption) ?_
          rotate_left
          · (intro ww hSw; (try dsimp only at hSw); go_simp); (try with_reducible rfl)
          (try simp only [Act.put, List.setIfInBounds_toArray, List.set_cons_zero, List.set_cons_succ])
          refine wpAnyH_take (i := 8) (oi := ⟨some 36, _, _, _, _, _⟩) (v := ?_) rfl (by kernel_rfl) (by kernel_rfl) (by kernel_rfl) (fun _ _ _ h => h) (Or.inl ⟨by kernel_rfl, ?_⟩) (by assumption) ?_
          rotate_left
          · (intro ww hSw; (try dsimp only at hSw); go_simp); (try with_reducible rfl)
          (try simp only [Act.put, List.setIfInBounds_toArray, List.set_cons_zero, List.set_cons_succ])
          refine wpAnyH_ready (rs := [10]) (by kernel_rfl) (by simp) ?_
          refine AllReadyH.cons rfl (fun K hK => ?_) AllReadyH.nil
          refine wp_whole_abs 37 (.tmp 5) (.tmp 35) rfl X #[.int .i64 ak, .string (bs ax), .string (bs ay), .string (bs az)] rfl rfl 37 #[.int .i64 0, .string ⟨#[]⟩, .string ⟨#[]⟩, .string ⟨#[]⟩] HBX.out (by kernel_rfl) rfl (by simp [Value.oneCell']) ?_
          intro W103 hXs hgs
          replace HBS := Lib.hid (HBS.out.grown hgs HBS.out.size (fun j hj => by injection hj with hj; have := HGEX.out; omega))
          replace HBX := Lib.hid (show Blk W103 X 37 #[.int .i64 ak, .string (bs ax), .string (bs ay), .string (bs az)] from hXs)
          clear hXs hgs
          refine hK.out _ _ ?_ (fun hHeld => ?_)
          · (try dsimp only); exact HBS.out
          clear hK K
          (try simp only [Act.put, List.setIfInBounds_toArray])
          refine wpAnyH_take (i := 11) (oi := ⟨some 6, _, _, _, _, _⟩) (v := ?_) rfl (by kernel_rfl) (by kernel_rfl) (by kernel_rfl) (fun _ _ _ h => h) (Or.inl ⟨by kernel_rfl, ?_⟩) (by assumption) ?_
          rotate_left
          · (intro ww hSw; (try dsimp only at hSw); go_simp); (try with_reducible rfl)
          (try simp only [Act.put])
          refine wpAnyH_done (by kernel_rfl) ?_ _
          exact key X W103 ⟨HBS.out, HBX.out⟩
      · intro X Wj hj
        clear q0 q1 hlA
        obtain ⟨W2, rfl⟩ : ∃ W2, W2 = Wj := ⟨_, rfl⟩
        obtain ⟨hjs, hjg⟩ := hj
        have HB2 := Lib.hid (show Below w.heap.size w W2 from fb2 HB1.out hjs (Nat.le_refl _))
        have HA2 := Lib.hid (blk_on HA1.out hjs (blk_lt HA1.out))
        have HX2 := Lib.hid hjg
        clear hjs hjg HA1 HB1
        have q0 : W2.cell? ⟨A, 0, none⟩ = some (.slice va n vc) := (blk_cell HA2.out 0).trans rfl
        have q1 : W2.cell? ⟨A, 1, none⟩ = some (.slice ra m rc) := (blk_cell HA2.out 1).trans rfl
        have hlA := blk_lt HA2.out
        go_wp2_with fail
        apply join_wp (F := fun (Y : Nat) (Wj : World) => Below W2.heap.size W2 Wj ∧ Blk Wj Y 37 #[.int .i64 bk, .string (bs bx), .string (bs bY), .string (bs bz)])
        · intro key
          refine wp_region_held_drew (S := (fun W => Below W2.heap.size W2 W)) (by kernel_rfl) ?_ (fun hHeld => ?_)
          · (try dsimp only); exact (Below.refl _ _).drew
          obtain ⟨Wd, hWd⟩ : ∃ Wd, W2.drew = Wd := ⟨_, rfl⟩
          rw [hWd] at hHeld ⊢
          have HBS := Lib.hid (show Below W2.heap.size W2 Wd by rw [← hWd]; exact (Below.refl _ _).drew)
          clear hWd
          refine wpAnyH_take (i := 0) (oi := ⟨some 38, _, _, _, _, _⟩) (v := ?_) rfl (by kernel_rfl) (by kernel_rfl) (by kernel_rfl) (fun _ _ _ h => h) (Or.inl ⟨by kernel_rfl, ?_⟩) (by assumption) ?_
          rotate_left
          · (intro ww hSw; (try dsimp only at hSw); have e0 := keptC q0 hSw hlA; have e1 := keptC q1 hSw hlA; go_simp); (try with_reducible rfl)
          (try simp only [Act.put, List.setIfInBounds_toArray, List.set_cons_zero, List.set_cons_succ])
          refine wpAnyH_take (i := 1) (oi := ⟨some 39, _, _, _, _, _⟩) (v := ?_) rfl (by kernel_rfl) (by kernel_rfl) (by kernel_rfl) (fun _ _ _ h => h) (Or.inl ⟨by kernel_rfl, ?_⟩) (by assumption) ?_
          rotate_left
          · (intro ww hSw; (try dsimp only at hSw); go_simp); (try with_reducible rfl)
          (try simp only [Act.put, List.setIfInBounds_toArray, List.set_cons_zero, List.set_cons_succ])
          refine wpAnyH_take (i := 2) (oi := ⟨some 40, _, _, _, _, _⟩) (v := ?_) rfl (by kernel_rfl) (by kernel_rfl) (by kernel_rfl) (fun _ _ _ h => h) (Or.inl ⟨by kernel_rfl, ?_⟩) (by assumption) ?_
          rotate_left
          · (intro ww hSw; (try dsimp only at hSw); have e0 := keptC q0 hSw hlA; have e1 := keptC q1 hSw hlA; go_simp); (try with_reducible rfl)
          (try simp only [Act.put, List.setIfInBounds_toArray, List.set_cons_zero, List.set_cons_succ])
          refine wpAnyH_ready (rs := [3, 9]) (by kernel_rfl) (by simp) ?_
          refine AllReadyH.cons rfl (fun K hK => ?_) (AllReadyH.cons rfl (fun K hK => ?_) AllReadyH.nil)
          · go_simp
            refine (HN.out Wd (fb2 HB2.out HBS.out (Nat.le_refl _))).mono ?_
            rintro e W100 ⟨rfl, hb⟩
            have hbx : Below Wd.heap.size Wd W100 := hb
            clear hb
            replace HBS := Lib.hid (fb2 HBS.out hbx (Nat.le_refl _))
            clear hbx
            go_wp2_with fail
            refine hK.out _ _ ?_ (fun hHeld => ?_)
            · (try dsimp only); exact HBS.out
            clear hK K
            (try simp only [Act.put, List.setIfInBounds_toArray, List.set_cons_zero, List.set_cons_succ])
            refine wpAnyH_take (i := 4) (oi := ⟨some 42, _, _, _, _, _⟩) (v := ?_) rfl (by kernel_rfl) (by kernel_rfl) (by kernel_rfl) (fun _ _ _ h => h) (Or.inl ⟨by kernel_rfl, ?_⟩) (by assumption) ?_
            rotate_left
            · (intro ww hSw; (try dsimp only at hSw); go_simp); (try with_reducible rfl)
            (try simp only [Act.put, List.setIfInBounds_toArray, List.set_cons_zero, List.set_cons_succ])
            refine wpAnyH_ready (rs := [5, 9]) (by kernel_rfl) (by simp) ?_
            refine AllReadyH.cons rfl (fun K hK => ?_) (AllReadyH.cons rfl (fun K hK => ?_) AllReadyH.nil)
            · go_simp
              refine (H4.out W100 (fb2 HB2.out HBS.out (Nat.le_refl _))).mono ?_
              rintro e W101 ⟨rfl, hb⟩
              have hbx : Below W100.heap.size W100 W101 := hb
              clear hb
              replace HBS := Lib.hid (fb2 HBS.out hbx (Nat.le_refl _))
              clear hbx
              go_wp2_with fail
              refine hK.out _ _ ?_ (fun hHeld => ?_)
              · (try dsimp only); exact HBS.out
              clear hK K
              (try simp only [Act.put, List.setIfInBounds_toArray, List.set_cons_zero, List.set_cons_succ])
              refine wpAnyH_take (i := 6) (oi := ⟨some 37, _, _, _, _, _⟩) (v := ?_) rfl (by kernel_rfl) (by kernel_rfl) (by kernel_rfl) (fun _ _ _ h => h) (Or.inl ⟨by kernel_rfl, ?_⟩) (by assumption) ?_
              rotate_left
              · (intro ww hSw; (try dsimp only at hSw); go_simp); (try with_reducible rfl)
              (try simp only [Act.put, List.setIfInBounds_toArray, List.set_cons_zero, List.set_cons_succ])
              refine wpAnyH_take (i := 7) (oi := ⟨some 44, _, _, _, _, _⟩) (v := ?_) rfl (by kernel_rfl) (by kernel_rfl) (by kernel_rfl) (fun _ _ _ h => h) (Or.inl ⟨by kernel_rfl, ?_⟩) (by assumption) ?_
              rotate_left
              · (intro ww hSw; (try dsimp only at hSw); go_simp); (try with_reducible rfl)
              (try simp only [Act.put, List.setIfInBounds_toArray, List.set_cons_zero, List.set_cons_succ])
              refine wpAnyH_take (i := 8) (oi := ⟨some 45, _, _, _, _, _⟩) (v := ?_) rfl (by kernel_rfl) (by kernel_rfl) (by kernel_rfl) (fun _ _ _ h => h) (Or.inl ⟨by kernel_rfl, ?_⟩) (by assumption) ?_
              rotate_left
              · (intro ww hSw; (try dsimp only at hSw); go_simp); (try with_reducible rfl)
              (try simp only [Act.put, List.setIfInBounds_toArray, List.set_cons_zero, List.set_cons_succ])
              refine wpAnyH_ready (rs := [9]) (by kernel_rfl) (by simp) ?_
              refine AllReadyH.cons rfl (fun K hK => ?_) AllReadyH.nil
              go_simp
              obtain ⟨W102, hWn⟩ : ∃ W102, W101.alloc (.cells #[.int .i64 0, .string ⟨#[]⟩, .string ⟨#[]⟩, .string ⟨#[]⟩] 37) = W102 := ⟨_, rfl⟩
              obtain ⟨Y, hY⟩ : ∃ Y, W101.heap.size = Y := ⟨_, rfl⟩
              have HBY := Lib.hid (show Blk W102 Y 37 #[.int .i64 0, .string ⟨#[]⟩, .string ⟨#[]⟩, .string ⟨#[]⟩] by rw [← hWn, ← hY]; exact blk_new _ _ _)
              have hbx : Below W101.heap.size W101 W102 := by rw [← hWn]; exact box_below _ _
              have HGEY := Lib.hid (show W101.heap.size = Y from hY)
              rw [hWn, hY]
              clear hWn hY
              replace HGEY := Lib.hid (show W2.heap.size ≤ Y by have h1 := HBS.out.size; have h2 := HGEY.out; omega)
              replace HBS := Lib.hid (fb2 HBS.out hbx (Nat.le_refl _))
              clear hbx
              refine hK.out _ _ ?_ (fun hHeld => ?_)
              · (try dsimp only); exact HBS.out
              clear hK K
              (try simp only [Act.put, List.setIfInBounds_toArray, List.set_cons_zero, List.set_cons_succ])
              refine wpAnyH_ready (rs := [10]) (by kernel_rfl) (by simp) ?_
              refine AllReadyH.cons rfl (fun K hK => ?_) AllReadyH.nil
              refine wp_whole_abs 37 (.tmp 7) (.tmp 44) rfl Y #[.int .i64 bk, .string (bs bx), .string (bs bY), .string (bs bz)] rfl rfl 37 #[.int .i64 0, .string ⟨#[]⟩, .string ⟨#[]⟩, .string ⟨#[]⟩] HBY.out (by kernel_rfl) rfl (by simp [Value.oneCell']) ?_
              intro W103 hXs hgs
              replace HBS := Lib.hid (HBS.out.grown hgs HBS.out.size (fun j hj => by injection hj with hj; have := HGEY.out; omega))
              replace HBY := Lib.hid (show Blk W103 Y 37 #[.int .i64 bk, .string (bs bx), .string (bs bY), .string (bs bz)] from hXs)
              clear hXs hgs
              refine hK.out _ _ ?_ (fun hHeld => ?_)
              · (try dsimp only); exact HBS.out
              clear hK K
              (try simp only [Act.put, List.setIfInBounds_toArray])
              refine wpAnyH_take (i := 11) (oi := ⟨some 8, _, _, _, _, _⟩) (v := ?_) rfl (by kernel_rfl) (by kernel_rfl) (by kernel_rfl) (fun _ _ _ h => h) (Or.inl ⟨by kernel_rfl, ?_⟩) (by assumption) ?_
              rotate_left
              · (intro ww hSw; (try dsimp only at hSw); go_simp); (try with_reducible rfl)
              (try simp only [Act.put])
              refine wpAnyH_done (by kernel_rfl) ?_ _
              exact key Y W103 ⟨HBS.out, HBY.out⟩
            · go_simp
              obtain ⟨W101, hWn⟩ : ∃ W101, W100.alloc (.cells #[.int .i64 0, .string ⟨#[]⟩, .string ⟨#[]⟩, .string ⟨#[]⟩] 37) = W101 := ⟨_, rfl⟩
              obtain ⟨Y, hY⟩ : ∃ Y, W100.heap.size = Y := ⟨_, rfl⟩
              have HBY := Lib.hid (show Blk W101 Y 37 #[.int .i64 0, .string ⟨#[]⟩, .string ⟨#[]⟩, .string ⟨#[]⟩] by rw [← hWn, ← hY]; exact blk_new _ _ _)
              have hbx : Below W100.heap.size W100 W101 := by rw [← hWn]; exact box_below _ _
              have HGEY := Lib.hid (show W100.heap.size = Y from hY)
              rw [hWn, hY]
              clear hWn hY
              replace HGEY := Lib.hid (show W2.heap.size ≤ Y by have h1 := HBS.out.size; have h2 := HGEY.out; omega)
              replace HBS := Lib.hid (fb2 HBS.out hbx (Nat.le_refl _))
              clear hbx
              refine hK.out _ _ ?_ (fun hHeld => ?_)
              · (try dsimp only); exact HBS.out
              clear hK K
              (try simp only [Act.put, List.setIfInBounds_toArray, List.set_cons_zero, List.set_cons_succ])
              refine wpAnyH_ready (rs := [5]) (by kernel_rfl) (by simp) ?_
              refine AllReadyH.cons rfl (fun K hK => ?_) AllReadyH.nil
              go_simp
              refine (H4.out W101 (fb2 HB2.out HBS.out (Nat.le_refl _))).mono ?_
              rintro e W102 ⟨rfl, hb⟩
              have hbx : Below W101.heap.size W101 W102 := hb
              clear hb
              replace HBY := Lib.hid (blk_on HBY.out hbx (blk_lt HBY.out))
              replace HBS := Lib.hid (fb2 HBS.out hbx (Nat.le_refl _))
              clear hbx
              go_wp2_with fail
              refine hK.out _ _ ?_ (fun hHeld => ?_)
              · (try dsimp only); exact HBS.out
              clear hK K
              (try simp only [Act.put, List.setIfInBounds_toArray, List.set_cons_zero, List.set_cons_succ])
              refine wpAnyH_take (i := 6) (oi := ⟨some 37, _, _, _, _, _⟩) (v := ?_) rfl (by kernel_rfl) (by kernel_rfl) (by kernel_rfl) (fun _ _ _ h => h) (Or.inl ⟨by kernel_rfl, ?_⟩) (by assumption) ?_
              rotate_left
              · (intro ww hSw; (try dsimp only at hSw); go_simp); (try with_reducible rfl)
              (try simp only [Act.put, List.setIfInBounds_toArray, List.set_cons_zero, List.set_cons_succ])
              refine wpAnyH_take (i := 7) (oi := ⟨some 44, _, _, _, _, _⟩) (v := ?_) rfl (by kernel_rfl) (by kernel_rfl) (by kernel_rfl) (fun _ _ _ h => h) (Or.inl ⟨by kernel_rfl, ?_⟩) (by assumption) ?_
              rotate_left
              · (intro ww hSw; (try dsimp only at hSw); go_simp); (try with_reducible rfl)
              (try simp only [Act.put, List.setIfInBounds_toArray, List.set_cons_zero, List.set_cons_succ])
              refine wpAnyH_take (i := 8) (oi := ⟨some 45, _, _, _, _, _⟩) (v := ?_) rfl (by kernel_rfl) (by kernel_rfl) (by kernel_rfl) (fun _ _ _ h => h) (Or.inl ⟨by kernel_rfl, ?_⟩) (by assumption) ?_
              rotate_left
              · (intro ww hSw; (try dsimp only at hSw); go_simp); (try with_reducible rfl)
              (try simp only [Act.put, List.setIfInBounds_toArray, List.set_cons_zero, List.set_cons_succ])
              refine wpAnyH_ready (rs := [10]) (by kernel_rfl) (by simp) ?_
              refine AllReadyH.cons rfl (fun K hK => ?_) AllReadyH.nil
              refine wp_whole_abs 37 (.tmp 7) (.tmp 44) rfl Y #[.int .i64 bk, .string (bs bx), .string (bs bY), .string (bs bz)] rfl rfl 37 #[.int .i64 0, .string ⟨#[]⟩, .string ⟨#[]⟩, .string ⟨#[]⟩] HBY.out (by kernel_rfl) rfl (by simp [Value.oneCell']) ?_
              intro W103 hXs hgs
              replace HBS := Lib.hid (HBS.out.grown hgs HBS.out.size (fun j hj => by injection hj with hj; have := HGEY.out; omega))
              replace HBY := Lib.hid (show Blk W103 Y 37 #[.int .i64 bk, .string (bs bx), .string (bs bY), .string (bs bz)] from hXs)
              clear hXs hgs
              refine hK.out _ _ ?_ (fun hHeld => ?_)
              · (try dsimp only); exact HBS.out
              clear hK K
              (try simp only [Act.put, List.setIfInBounds_toArray])
              refine wpAnyH_take (i := 11) (oi := ⟨some 8, _, _, _, _, _⟩) (v := ?_) rfl (by kernel_rfl) (by kernel_rfl) (by kernel_rfl) (fun _ _ _ h => h) (Or.inl ⟨by kernel_rfl, ?_⟩) (by assumption) ?_
              rotate_left
              · (intro ww hSw; (try dsimp only at hSw); go_simp); (try with_reducible rfl)
              (try simp only [Act.put])
              refine wpAnyH_done (by kernel_rfl) ?_ _
              exact key Y W103 ⟨HBS.out, HBY.out⟩
          · go_simp
            obtain ⟨W100, hWn⟩ : ∃ W100, Wd.alloc (.cells #[.int .i64 0, .string ⟨#[]⟩, .string ⟨#[]⟩, .string ⟨#[]⟩] 37) = W100 := ⟨_, rfl⟩
            obtain ⟨Y, hY⟩ : ∃ Y, Wd.heap.size = Y := ⟨_, rfl⟩
            have HBY := Lib.hid (show Blk W100 Y 37 #[.int .i64 0, .string ⟨#[]⟩, .string ⟨#[]⟩, .string ⟨#[]⟩] by rw [← hWn, ← hY]; exact blk_new _ _ _)
            have hbx : Below Wd.heap.size Wd W100 := by rw [← hWn]; exact box_below _ _
            have HGEY := Lib.hid (show Wd.heap.size = Y from hY)
            rw [hWn, hY]
            clear hWn hY
            replace HGEY := Lib.hid (show W2.heap.size ≤ Y by have h1 := HBS.out.size; have h2 := HGEY.out; omega)
            replace HBS := Lib.hid (fb2 HBS.out hbx (Nat.le_refl _))
            clear hbx
            refine hK.out _ _ ?_ (fun hHeld => ?_)
            · (try dsimp only); exact HBS.out
            clear hK K
            (try simp only [Act.put, List.setIfInBounds_toArray, List.set_cons_zero, List.set_cons_succ])
            refine wpAnyH_ready (rs := [3]) (by kernel_rfl) (by simp) ?_
            refine AllReadyH.cons rfl (fun K hK => ?_) AllReadyH.nil
            go_simp
            refine (HN.out W100 (fb2 HB2.out HBS.out (Nat.le_refl _))).mono ?_
            rintro e W101 ⟨rfl, hb⟩
            have hbx : Below W100.heap.size W100 W101 := hb
            clear hb
            replace HBY := Lib.hid (blk_on HBY.out hbx (blk_lt HBY.out))
            replace HBS := Lib.hid (fb2 HBS.out hbx (Nat.le_refl _))
            clear hbx
            go_wp2_with fail
            refine hK.out _ _ ?_ (fun hHeld => ?_)
            · (try dsimp only); exact HBS.out
            clear hK K
            (try simp only [Act.put, List.setIfInBounds_toArray, List.set_cons_zero, List.set_cons_succ])
            refine wpAnyH_take (i := 4) (oi := ⟨some 42, _, _, _, _, _⟩) (v := ?_) rfl (by kernel_rfl) (by kernel_rfl) (by kernel_rfl) (fun _ _ _ h => h) (Or.inl ⟨by kernel_rfl, ?_⟩) (by assumption) ?_
            rotate_left
            · (intro ww hSw; (try dsimp only at hSw); go_simp); (try with_reducible rfl)
            (try simp only [Act.put, List.setIfInBounds_toArray, List.set_cons_zero, List.set_cons_succ])
            refine wpAnyH_ready (rs := [5]) (by kernel_rfl) (by simp) ?_
            refine AllReadyH.cons rfl (fun K hK => ?_) AllReadyH.nil
            go_simp
            refine (H4.out W101 (fb2 HB2.out HBS.out (Nat.le_refl _))).mono ?_
            rintro e W102 ⟨rfl, hb⟩
            have hbx : Below W101.heap.size W101 W102 := hb
            clear hb
            replace HBY := Lib.hid (blk_on HBY.out hbx (blk_lt HBY.out))
            replace HBS := Lib.hid (fb2 HBS.out hbx (Nat.le_refl _))
            clear hbx
            go_wp2_with fail
            refine hK.out _ _ ?_ (fun hHeld => ?_)
            · (try dsimp only); exact HBS.out
            clear hK K
            (try simp only [Act.put, List.setIfInBounds_toArray, List.set_cons_zero, List.set_cons_succ])
            refine wpAnyH_take (i := 6) (oi := ⟨some 37, _, _, _, _, _⟩) (v := ?_) rfl (by kernel_rfl) (by kernel_rfl) (by kernel_rfl) (fun _ _ _ h => h) (Or.inl ⟨by kernel_rfl, ?_⟩) (by assumption) ?_
            rotate_left
            · (intro ww hSw; (try dsimp only at hSw); go_simp); (try with_reducible rfl)
            (try simp only [Act.put, List.setIfInBounds_toArray, List.set_cons_zero, List.set_cons_succ])
            refine wpAnyH_take (i := 7) (oi := ⟨some 44, _, _, _, _, _⟩) (v := ?_) rfl (by kernel_rfl) (by kernel_rfl) (by kernel_rfl) (fun _ _ _ h => h) (Or.inl ⟨by kernel_rfl, ?_⟩) (by assumption) ?_
            rotate_left
            · (intro ww hSw; (try dsimp only at hSw); go_simp); (try with_reducible rfl)
            (try simp only [Act.put, List.setIfInBounds_toArray, List.set_cons_zero, List.set_cons_succ])
            refine wpAnyH_take (i := 8) (oi := ⟨some 45, _, _, _, _, _⟩) (v := ?_) rfl (by kernel_rfl) (by kernel_rfl) (by kernel_rfl) (fun _ _ _ h => h) (Or.inl ⟨by kernel_rfl, ?_⟩) (by assumption) ?_
            rotate_left
            · (intro ww hSw; (try dsimp only at hSw); go_simp); (try with_reducible rfl)
            (try simp only [Act.put, List.setIfInBounds_toArray, List.set_cons_zero, List.set_cons_succ])
            refine wpAnyH_ready (rs := [10]) (by kernel_rfl) (by simp) ?_
            refine AllReadyH.cons rfl (fun K hK => ?_) AllReadyH.nil
            refine wp_whole_abs 37 (.tmp 7) (.tmp 44) rfl Y #[.int .i64 bk, .string (bs bx), .string (bs bY), .string (bs bz)] rfl rfl 37 #[.int .i64 0, .string ⟨#[]⟩, .string ⟨#[]⟩, .string ⟨#[]⟩] HBY.out (by kernel_rfl) rfl (by simp [Value.oneCell']) ?_
            intro W103 hXs hgs
            replace HBS := Lib.hid (HBS.out.grown hgs HBS.out.size (fun j hj => by injection hj with hj; have := HGEY.out; omega))
            replace HBY := Lib.hid (show Blk W103 Y 37 #[.int .i64 bk, .string (bs bx), .string (bs bY), .string (bs bz)] from hXs)
            clear hXs hgs
            refine hK.out _ _ ?_ (fun hHeld => ?_)
            · (try dsimp only); exact HBS.out
            clear hK K
            (try simp only [Act.put, List.setIfInBounds_toArray])
            refine wpAnyH_take (i := 11) (oi := ⟨some 8, _, _, _, _, _⟩) (v := ?_) rfl (by kernel_rfl) (by kernel_rfl) (by kernel_rfl) (fun _ _ _ h => h) (Or.inl ⟨by kernel_rfl, ?_⟩) (by assumption) ?_
            rotate_left
            · (intro ww hSw; (try dsimp only at hSw); go_simp); (try with_reducible rfl)
            (try simp only [Act.put])
            refine wpAnyH_done (by kernel_rfl) ?_ _
            exact key Y W103 ⟨HBS.out, HBY.out⟩
        · intro Y Wj hj
          clear q0 q1 hlA
          obtain ⟨W3, rfl⟩ : ∃ W3, W3 = Wj := ⟨_, rfl⟩
          obtain ⟨hjs, hjg⟩ := hj
          have HB3 := Lib.hid (show Below w.heap.size w W3 from fb2 HB2.out hjs (Nat.le_refl _))
          have HA3 := Lib.hid (blk_on HA2.out hjs (blk_lt HA2.out))
          have HX3 := Lib.hid (blk_on HX2.out hjs (blk_lt HX2.out))
          have HY3 := Lib.hid hjg
          clear hjs hjg HA2 HX2 HB2
          have x0 : W3.cell? ⟨X, 0, none⟩ = some (.int .i64 ak) := (blk_cell HX3.out 0).trans rfl
          have x1 : W3.cell? ⟨X, 1, none⟩ = some (.string (bs ax)) := (blk_cell HX3.out 1).trans rfl
          have x2 : W3.cell? ⟨X, 2, none⟩ = some (.string (bs ay)) := (blk_cell HX3.out 2).trans rfl
          have x3 : W3.cell? ⟨X, 3, none⟩ = some (.string (bs az)) := (blk_cell HX3.out 3).trans rfl
          have y0 : W3.cell? ⟨Y, 0, none⟩ = some (.int .i64 bk) := (blk_cell HY3.out 0).trans rfl
          have y1 : W3.cell? ⟨Y, 1, none⟩ = some (.string (bs bx)) := (blk_cell HY3.out 1).trans rfl
          have y2 : W3.cell? ⟨Y, 2, none⟩ = some (.string (bs bY)) := (blk_cell HY3.out 2).trans rfl
          have y3 : W3.cell? ⟨Y, 3, none⟩ = some (.string (bs bz)) := (blk_cell HY3.out 3).trans rfl
          have HCM := Lib.hid (rValue_calls ⟨ak, ax, ay, az⟩ ⟨bk, bx, bY, bz⟩ HAO.out HBO.out W3)
          have hle := HLE2.out
          generalize valP ⟨ak, ax, ay, az⟩ ⟨bk, bx, bY, bz⟩ = c at HCM hle
          have gc : ¬ 0 < c := by omega
          simp only [TermL.v] at HCM
          clear hle
          go_wp2_with fail
          refine HCM.out.mono ?_
          rintro e w4 ⟨rfl, hb4⟩
          have HB4 := Lib.hid (fb2 HB3.out hb4 (Nat.le_refl _))
          have HA4 := Lib.hid (blk_on HA3.out hb4 (blk_lt HA3.out))
          have HX4 := Lib.hid (blk_on HX3.out hb4 (blk_lt HX3.out))
          have HY4 := Lib.hid (blk_on HY3.out hb4 (blk_lt HY3.out))
          clear hb4 x0 x1 x2 x3 y0 y1 y2 y3 HCM HA3 HX3 HY3 HB3
          go_wp2
          go_loopg [9, 10, 11, 12, 13] m (fun g lo hi bo i _ wr => ∃ k : Nat, i = .int .i64 k ∧ k + g = m ∧ lo = .int .i64 (cntE ⟨ak, ax, ay, az⟩ (boundC V (R.take k) o) : Nat) ∧ hi = .int .i64 (cntE ⟨bk, bx, bY, bz⟩ (boundC V (R.take k) o) : Nat) ∧ bo = .int .i64 ((boundC V (R.take k) o).length : Nat) ∧ Hid (Below w4.heap.size w4 wr))
          case atStart => exact ⟨0, rfl, by omega, rfl, rfl, rfl, Lib.hid (Below.refl _ _)⟩
          case round =>
            obtain ⟨W1, rfl⟩ : ∃ W1, W1 = wr := ⟨_, rfl⟩
            obtain ⟨k, rfl, hkg, rfl, rfl, rfl, HBW⟩ := hrel
            have k0 : (0 : Int) ≤ (k : Int) := by omega
            have HB1 := Lib.hid (fb2 HB4.out HBW.out (Nat.le_refl _))
            have HA1 := Lib.hid (blk_on HA4.out HBW.out (blk_lt HA4.out))
            have HX1 := Lib.hid (blk_on HX4.out HBW.out (blk_lt HX4.out))
            have HY1 := Lib.hid (blk_on HY4.out HBW.out (blk_lt HY4.out))
            have q0 : W1.cell? ⟨A, 0, none⟩ = some (.slice va n vc) := (blk_cell HA1.out 0).trans rfl
            have q1 : W1.cell? ⟨A, 1, none⟩ = some (.slice ra m rc) := (blk_cell HA1.out 1).trans rfl
            have hlA := blk_lt HA1.out
            have hble : (boundC V (R.take k) o).length ≤ m := by have := boundC_len V (R.take k) o; rw [List.length_take] at this; have h := HRL.out; omega
            have hc1 := cntE_le ⟨ak, ax, ay, az⟩ (boundC V (R.take k) o)
            have hc2 := cntE_le ⟨bk, bx, bY, bz⟩ (boundC V (R.take k) o)
            by_cases hkm : k < m
            · obtain ⟨gg, rfl⟩ : ∃ gg, gk = gg + 1 := ⟨gk - 1, by omega⟩
              have hkL : k < R.length := by rw [HRL.out]; exact hkm
              obtain ⟨g, oo, ha, hgw, hcells⟩ := HRA.out.cells (by omega)
              subst ha
              obtain ⟨a', c', hcell, htrm⟩ := hcells k hkL
              have c0 := keptC hcell HB1.out hgw
              have hgW : g < W1.heap.size := Nat.lt_of_lt_of_le hgw HB1.out.size
              have HTM := Lib.hid (htrm.on HB1.out)
              have HS1 := Lib.hid (show boundC V (R.take (k + 1)) o = if (boundP V R[k] o).k = 0 then boundC V (R.take k) o else boundC V (R.take k) o ++ [boundP V R[k] o] by rw [List.take_succ_eq_append_getElem hkL]; exact boundC_snoc V (R.take k) R[k] o)
              have HMEM := Lib.hid (fun h => bound_mem (V := V) (x := o) (List.getElem_mem hkL) h)
              have HTO := Lib.hid (boundP_ok (V := V) (HRO.out _ (List.getElem_mem hkL)) o)
              have HCA := Lib.hid (fun W => rValue_calls (boundP V R[k] o) ⟨ak, ax, ay, az⟩ HTO.out HAO.out W)
              have HCB := Lib.hid (fun W => rValue_calls (boundP V R[k] o) ⟨bk, bx, bY, bz⟩ HTO.out HBO.out W)
              have HIN2 := Lib.hid (fun h => HIN.out _ (HMEM.out h))
              clear hcells hcell htrm HTO HMEM
              generalize R[k] = y at c0 HTM HS1 HCA HCB HIN2
              generalize hyn : y.length = yn at c0 HTM
              have HB9 := Lib.hid (fun W (hb : Below W1.heap.size W1 W) => HBC.out W y a' yn c' (fb2 HB1.out hb (Nat.le_refl _)) (HTM.out.on hb))
              generalize boundP V y o = t at HB9 HS1 HCA HCB HIN2
              obtain ⟨tk, tx, ty, tz⟩ := t
              simp only [TermL.v] at HB9 HCA HCB
              dsimp only at HS1 HIN2
              clear hyn
              have k1 : (k : Int) < (m : Int) := by omega
              go_wp2_with fail
              apply join_wp (F := fun (G : Nat) (Wj : World) => Below W1.heap.size W1 Wj ∧ Blk Wj G 37 #[.int .i64 tk, .string (bs tx), .string (bs ty), .string (bs tz)])
              · intro key
                refine wp_region_held_drew (S := (fun W => Below W1.heap.size W1 W)) (by kernel_rfl) ?_ (fun hHeld => ?_)
                · (try dsimp only); exact (Below.refl _ _).drew
                obtain ⟨Wd, hWd⟩ : ∃ Wd, W1.drew = Wd := ⟨_, rfl⟩
                rw [hWd] at hHeld ⊢
                have HBS := Lib.hid (show Below W1.heap.size W1 Wd by rw [← hWd]; exact (Below.refl _ _).drew)
                clear hWd
                refine wpAnyH_take (i := 0) (oi := ⟨some 65, _, _, _, _, _⟩) (v := ?_) rfl (by kernel_rfl) (by kernel_rfl) (by kernel_rfl) (fun _ _ _ h => h) (Or.inl ⟨by kernel_rfl, ?_⟩) (by assumption) ?_
                rotate_left
                · (intro ww hSw; (try dsimp only at hSw); go_simp); (try with_reducible rfl)
                (try simp only [Act.put, List.setIfInBounds_toArray, List.set_cons_zero, List.set_cons_succ])
                refine wpAnyH_take (i := 1) (oi := ⟨some 66, _, _, _, _, _⟩) (v := ?_) rfl (by kernel_rfl) (by kernel_rfl) (by kernel_rfl) (fun _ _ _ h => h) (Or.inl ⟨by kernel_rfl, ?_⟩) (by assumption) ?_
                rotate_left
                · (intro ww hSw; (try dsimp only at hSw); go_simp); (try with_reducible rfl)
                (try simp only [Act.put, List.setIfInBounds_toArray, List.set_cons_zero, List.set_cons_succ])
                refine wpAnyH_take (i := 2) (oi := ⟨some 67, _, _, _, _, _⟩) (v := ?_) rfl (by kernel_rfl) (by kernel_rfl) (by kernel_rfl) (fun _ _ _ h => h) (Or.inl ⟨by kernel_rfl, ?_⟩) (by assumption) ?_
                rotate_left
                · (intro ww hSw; (try dsimp only at hSw); have e0 := keptC q0 hSw hlA; go_simp); (try with_reducible rfl)
                (try simp only [Act.put, List.setIfInBounds_toArray, List.set_cons_zero, List.set_cons_succ])
                refine wpAnyH_take (i := 3) (oi := ⟨some 68, _, _, _, _, _⟩) (v := ?_) rfl (by kernel_rfl) (by kernel_rfl) (by kernel_rfl) (fun _ _ _ h => h) (Or.inl ⟨by kernel_rfl, ?_⟩) (by assumption) ?_
                rotate_left
                · (intro ww hSw; (try dsimp only at hSw); go_simp); (try with_reducible rfl)
                (try simp only [Act.put, List.setIfInBounds_toArray, List.set_cons_zero, List.set_cons_succ])
                refine wpAnyH_take (i := 4) (oi := ⟨some 69, _, _, _, _, _⟩) (v := ?_) rfl (by kernel_rfl) (by kernel_rfl) (by kernel_rfl) (fun _ _ _ h => h) (Or.inl ⟨by kernel_rfl, ?_⟩) (by assumption) ?_
                rotate_left
                · (intro ww hSw; (try dsimp only at hSw); have e0 := keptC q1 hSw hlA; go_simp); (try with_reducible rfl)
                (try simp only [Act.put, List.setIfInBounds_toArray, List.set_cons_zero, List.set_cons_succ])
                refine wpAnyH_take (i := 5) (oi := ⟨some 70, _, _, _, _, _⟩) (v := ?_) rfl (by kernel_rfl) (by kernel_rfl) (by kernel_rfl) (fun _ _ _ h => h) (Or.inl ⟨by kernel_rfl, ?_⟩) (by assumption) ?_
                rotate_left
                · (intro ww hSw; (try dsimp only at hSw); go_simp); (try with_reducible rfl)
                (try simp only [Act.put, List.setIfInBounds_toArray, List.set_cons_zero, List.set_cons_succ])
                refine wpAnyH_take (i := 6) (oi := ⟨some 71, _, _, _, _, _⟩) (v := ?_) rfl (by kernel_rfl) (by kernel_rfl) (by kernel_rfl) (fun _ _ _ h => h) (Or.inl ⟨by kernel_rfl, ?_⟩) (by assumption) ?_
                rotate_left
                · (intro ww hSw; (try dsimp only at hSw); go_simp); (try with_reducible rfl)
                (try simp only [Act.put, List.setIfInBounds_toArray, List.set_cons_zero, List.set_cons_succ])
                refine wpAnyH_take (i := 7) (oi := ⟨some 72, _, _, _, _, _⟩) (v := ?_) rfl (by kernel_rfl) (by kernel_rfl) (by kernel_rfl) (fun _ _ _ h => h) (Or.inl ⟨by kernel_rfl, ?_⟩) (by assumption) ?_
                rotate_left
                · (intro ww hSw; (try dsimp only at hSw); have e0 := keptC c0 hSw hgW; go_simp); (try with_reducible rfl)
                (try simp only [Act.put, List.setIfInBounds_toArray, List.set_cons_zero, List.set_cons_succ])
                refine wpAnyH_ready (rs := [8, 9]) (by kernel_rfl) (by simp) ?_
                refine AllReadyH.cons rfl (fun K hK => ?_) (AllReadyH.cons rfl (fun K hK => ?_) AllReadyH.nil)
                · go_simp
                  refine (HB9.out Wd HBS.out).mono ?_
                  rintro e W100 ⟨rfl, hb⟩
                  have hbx : Below Wd.heap.size Wd W100 := hb
                  clear hb
                  replace HBS := Lib.hid (fb2 HBS.out hbx (Nat.le_refl _))
                  clear hbx
                  go_wp2_with fail
                  refine hK.out _ _ ?_ (fun hHeld => ?_)
                  · (try dsimp only); exact HBS.out
                  clear hK K
                  (try simp only [Act.put, List.setIfInBounds_toArray, List.set_cons_zero, List.set_cons_succ])
                  refine wpAnyH_ready (rs := [9]) (by kernel_rfl) (by simp) ?_
                  refine AllReadyH.cons rfl (fun K hK => ?_) AllReadyH.nil
                  go_simp
                  obtain ⟨W101, hWn⟩ : ∃ W101, W100.alloc (.cells #[.int .i64 0, .string ⟨#[]⟩, .string ⟨#[]⟩, .string ⟨#[]⟩] 37) = W101 := ⟨_, rfl⟩
                  obtain ⟨G, hG⟩ : ∃ G, W100.heap.size = G := ⟨_, rfl⟩
                  have HBG := Lib.hid (show Blk W101 G 37 #[.int .i64 0, .string ⟨#[]⟩, .string ⟨#[]⟩, .string ⟨#[]⟩] by rw [← hWn, ← hG]; exact blk_new _ _ _)
                  have hbx : Below W100.heap.size W100 W101 := by rw [← hWn]; exact box_below _ _
                  have HGEG := Lib.hid (show W100.heap.size = G from hG)
                  rw [hWn, hG]
                  clear hWn hG
                  replace HGEG := Lib.hid (show W1.heap.size ≤ G by have h1 := HBS.out.size; have h2 := HGEG.out; omega)
                  replace HBS := Lib.hid (fb2 HBS.out hbx (Nat.le_refl _))
                  clear hbx
                  refine hK.out _ _ ?_ (fun hHeld => ?_)
                  · (try dsimp only); exact HBS.out
                  clear hK K
                  (try simp only [Act.put, List.setIfInBounds_toArray, List.set_cons_zero, List.set_cons_succ])
                  refine wpAnyH_ready (rs := [10]) (by kernel_rfl) (by simp) ?_
                  refine AllReadyH.cons rfl (fun K hK => ?_) AllReadyH.nil
                  refine wp_whole_abs 37 (.tmp 13) (.tmp 73) rfl G #[.int .i64 tk, .string (bs tx), .string (bs ty), .string (bs tz)] rfl rfl 37 #[.int .i64 0, .string ⟨#[]⟩, .string ⟨#[]⟩, .string ⟨#[]⟩] HBG.out (by kernel_rfl) rfl (by simp [Value.oneCell']) ?_
                  intro W102 hXs hgs
                  replace HBS := Lib.hid (HBS.out.grown hgs HBS.out.size (fun j hj => by injection hj with hj; have := HGEG.out; omega))
                  replace HBG := Lib.hid (show Blk W102 G 37 #[.int .i64 tk, .string (bs tx), .string (bs ty), .string (bs tz)] from hXs)
                  clear hXs hgs
                  refine hK.out _ _ ?_ (fun hHeld => ?_)
                  · (try dsimp only); exact HBS.out
                  clear hK K
                  (try simp only [Act.put, List.setIfInBounds_toArray])
                  refine wpAnyH_done (by kernel_rfl) ?_ _
                  exact key G W102 ⟨HBS.out, HBG.out⟩
                · go_simp
                  obtain ⟨W100, hWn⟩ : ∃ W100, Wd.alloc (.cells #[.int .i64 0, .string ⟨#[]⟩, .string ⟨#[]⟩, .string ⟨#[]⟩] 37) = W100 := ⟨_, rfl⟩
                  obtain ⟨G, hG⟩ : ∃ G, Wd.heap.size = G := ⟨_, rfl⟩
                  have HBG := Lib.hid (show Blk W100 G 37 #[.int .i64 0, .string ⟨#[]⟩, .string ⟨#[]⟩, .string ⟨#[]⟩] by rw [← hWn, ← hG]; exact blk_new _ _ _)
                  have hbx : Below Wd.heap.size Wd W100 := by rw [← hWn]; exact box_below _ _
                  have HGEG := Lib.hid (show Wd.heap.size = G from hG)
                  rw [hWn, hG]
                  clear hWn hG
                  replace HGEG := Lib.hid (show W1.heap.size ≤ G by have h1 := HBS.out.size; have h2 := HGEG.out; omega)
                  replace HBS := Lib.hid (fb2 HBS.out hbx (Nat.le_refl _))
                  clear hbx
                  refine hK.out _ _ ?_ (fun hHeld => ?_)
                  · (try dsimp only); exact HBS.out
                  clear hK K
                  (try simp only [Act.put, List.setIfInBounds_toArray, List.set_cons_zero, List.set_cons_succ])
                  refine wpAnyH_ready (rs := [8]) (by kernel_rfl) (by simp) ?_
                  refine AllReadyH.cons rfl (fun K hK => ?_) AllReadyH.nil
                  go_simp
                  refine (HB9.out W100 HBS.out).mono ?_
                  rintro e W101 ⟨rfl, hb⟩
                  have hbx : Below W100.heap.size W100 W101 := hb
                  clear hb
                  replace HBG := Lib.hid (blk_on HBG.out hbx (blk_lt HBG.out))
                  replace HBS := Lib.hid (fb2 HBS.out hbx (Nat.le_refl _))
                  clear hbx
                  go_wp2_with fail
                  refine hK.out _ _ ?_ (fun hHeld => ?_)
                  · (try dsimp only); exact HBS.out
                  clear hK K
                  (try simp only [Act.put, List.setIfInBounds_toArray, List.set_cons_zero, List.set_cons_succ])
                  refine wpAnyH_ready (rs := [10]) (by kernel_rfl) (by simp) ?_
                  refine AllReadyH.cons rfl (fun K hK => ?_) AllReadyH.nil
                  refine wp_whole_abs 37 (.tmp 13) (.tmp 73) rfl G #[.int .i64 tk, .string (bs tx), .string (bs ty), .string (bs tz)] rfl rfl 37 #[.int .i64 0, .string ⟨#[]⟩, .string ⟨#[]⟩, .string ⟨#[]⟩] HBG.out (by kernel_rfl) rfl (by simp [Value.oneCell']) ?_
                  intro W102 hXs hgs
                  replace HBS := Lib.hid (HBS.out.grown hgs HBS.out.size (fun j hj => by injection hj with hj; have := HGEG.out; omega))
                  replace HBG := Lib.hid (show Blk W102 G 37 #[.int .i64 tk, .string (bs tx), .string (bs ty), .string (bs tz)] from hXs)
                  clear hXs hgs
                  refine hK.out _ _ ?_ (fun hHeld => ?_)
                  · (try dsimp only); exact HBS.out
                  clear hK K
                  (try simp only [Act.put, List.setIfInBounds_toArray])
                  refine wpAnyH_done (by kernel_rfl) ?_ _
                  exact key G W102 ⟨HBS.out, HBG.out⟩
              · intro G Wj hj
                obtain ⟨W2, rfl⟩ : ∃ W2, W2 = Wj := ⟨_, rfl⟩
                obtain ⟨hjs, hjg⟩ := hj
                have HB2 := Lib.hid (show Below w4.heap.size w4 W2 from fb2 HBW.out hjs (Nat.le_refl _))
                have HX2 := Lib.hid (blk_on HX1.out hjs (blk_lt HX1.out))
                have HY2 := Lib.hid (blk_on HY1.out hjs (blk_lt HY1.out))
                have HBT := Lib.hid hjg
                clear hjs hjg HB9 q0 q1 c0 hlA hgW
                have t0 : W2.cell? ⟨G, 0, none⟩ = some (.int .i64 tk) := (blk_cell HBT.out 0).trans rfl
                have t1 : W2.cell? ⟨G, 1, none⟩ = some (.string (bs tx)) := (blk_cell HBT.out 1).trans rfl
                have t2 : W2.cell? ⟨G, 2, none⟩ = some (.string (bs ty)) := (blk_cell HBT.out 2).trans rfl
                have t3 : W2.cell? ⟨G, 3, none⟩ = some (.string (bs tz)) := (blk_cell HBT.out 3).trans rfl
                have x0 : W2.cell? ⟨X, 0, none⟩ = some (.int .i64 ak) := (blk_cell HX2.out 0).trans rfl
                have x1 : W2.cell? ⟨X, 1, none⟩ = some (.string (bs ax)) := (blk_cell HX2.out 1).trans rfl
                have x2 : W2.cell? ⟨X, 2, none⟩ = some (.string (bs ay)) := (blk_cell HX2.out 2).trans rfl
                have x3 : W2.cell? ⟨X, 3, none⟩ = some (.string (bs az)) := (blk_cell HX2.out 3).trans rfl
                have y0 : W2.cell? ⟨Y, 0, none⟩ = some (.int .i64 bk) := (blk_cell HY2.out 0).trans rfl
                have y1 : W2.cell? ⟨Y, 1, none⟩ = some (.string (bs bx)) := (blk_cell HY2.out 1).trans rfl
                have y2 : W2.cell? ⟨Y, 2, none⟩ = some (.string (bs bY)) := (blk_cell HY2.out 2).trans rfl
                have y3 : W2.cell? ⟨Y, 3, none⟩ = some (.string (bs bz)) := (blk_cell HY2.out 3).trans rfl
                obtain ⟨l0, hl0⟩ : ∃ l0, (boundC V (R.take k) o).length = l0 := ⟨_, rfl⟩
                obtain ⟨c1, hl1⟩ : ∃ c1, cntE ⟨ak, ax, ay, az⟩ (boundC V (R.take k) o) = c1 := ⟨_, rfl⟩
                obtain ⟨c2, hl2⟩ : ∃ c2, cntE ⟨bk, bx, bY, bz⟩ (boundC V (R.take k) o) = c2 := ⟨_, rfl⟩
                rw [hl0] at hble hc1 hc2
                rw [hl1] at hc1
                rw [hl2] at hc2
                rw [hl0, hl1, hl2]
                have HC0 := Lib.hid hl0
                have HC1 := Lib.hid hl1
                have HC2 := Lib.hid hl2
                clear hl0 hl1 hl2
                by_cases he : tk = 0
                · have HE := Lib.hid (HS1.out.trans (if_pos he))
                  have g1 : (tk == 0) = true := beq_iff_eq.2 he
                  clear he HS1 HCA HCB HIN2
                  go_wp2
                  go_roundg gg
                  case measure => omega
                  case rel => exact ⟨k + 1, by go_num, by omega, by rw [HE.out, HC1.out], by rw [HE.out, HC2.out], by rw [HE.out, HC0.out], HB2⟩
                · have HE := Lib.hid (HS1.out.trans (if_neg he))
                  have g1 : (tk == 0) = false := beq_eq_false_iff_ne.2 he
                  obtain ⟨n1, n2⟩ := HIN2.out he
                  generalize valP ⟨tk, tx, ty, tz⟩ ⟨ak, ax, ay, az⟩ = d1 at HCA n1
                  generalize valP ⟨tk, tx, ty, tz⟩ ⟨bk, bx, bY, bz⟩ = d2 at HCB n2
                  clear he HS1 HIN2
                  by_cases h1 : (⟨tk, tx, ty, tz⟩ : TermL) = ⟨ak, ax, ay, az⟩
                  · by_cases h2 : (⟨tk, tx, ty, tz⟩ : TermL) = ⟨bk, bx, bY, bz⟩
                    · have HL1 := Lib.hid (show cntE ⟨ak, ax, ay, az⟩ (boundC V (R.take (k + 1)) o) = c1 + 1 by rw [HE.out, cntE_snoc, if_pos h1, HC1.out])
                      have HL2 := Lib.hid (show cntE ⟨bk, bx, bY, bz⟩ (boundC V (R.take (k + 1)) o) = c2 + 1 by rw [HE.out, cntE_snoc, if_pos h2, HC2.out])
                      have HEA : ∀ W, (binOp .eql 37 (.agg #[.int .i64 tk, .string (bs tx), .string (bs ty), .string (bs tz)]) (.agg #[.int .i64 ak, .string (bs ax), .string (bs ay), .string (bs az)])).run Tryz.prog W = .ok (.bool true) W := fun W => by
                        have := eq_terms ⟨tk, tx, ty, tz⟩ ⟨ak, ax, ay, az⟩ W
                        rw [decide_eq_true h1] at this
                        exact this
                      have HEB : ∀ W, (binOp .eql 37 (.agg #[.int .i64 tk, .string (bs tx), .string (bs ty), .string (bs tz)]) (.agg #[.int .i64 bk, .string (bs bx), .string (bs bY), .string (bs bz)])).run Tryz.prog W = .ok (.bool true) W := fun W => by
                        have := eq_terms ⟨tk, tx, ty, tz⟩ ⟨bk, bx, bY, bz⟩ W
                        rw [decide_eq_true h2] at this
                        exact this
                      clear h1 h2
                      go_wp2_with fail
                      refine (HCA.out W2).mono ?_
                      rintro e w5 ⟨rfl, hb5⟩
                      have HX5 := Lib.hid (blk_on HX2.out hb5 (blk_lt HX2.out))
                      have HY5 := Lib.hid (blk_on HY2.out hb5 (blk_lt HY2.out))
                      have HT5 := Lib.hid (blk_on HBT.out hb5 (blk_lt HBT.out))
                      have HB5 := Lib.hid (fb2 HB2.out hb5 (Nat.le_refl _))
                      clear hb5 t0 t1 t2 t3 x0 x1 x2 x3 y0 y1 y2 y3 HEA HEB
                      have t0 : w5.cell? ⟨G, 0, none⟩ = some (.int .i64 tk) := (blk_cell HT5.out 0).trans rfl
                      have t1 : w5.cell? ⟨G, 1, none⟩ = some (.string (bs tx)) := (blk_cell HT5.out 1).trans rfl
                      have t2 : w5.cell? ⟨G, 2, none⟩ = some (.string (bs ty)) := (blk_cell HT5.out 2).trans rfl
                      have t3 : w5.cell? ⟨G, 3, none⟩ = some (.string (bs tz)) := (blk_cell HT5.out 3).trans rfl
                      have y0 : w5.cell? ⟨Y, 0, none⟩ = some (.int .i64 bk) := (blk_cell HY5.out 0).trans rfl
                      have y1 : w5.cell? ⟨Y, 1, none⟩ = some (.string (bs bx)) := (blk_cell HY5.out 1).trans rfl
                      have y2 : w5.cell? ⟨Y, 2, none⟩ = some (.string (bs bY)) := (blk_cell HY5.out 2).trans rfl
                      have y3 : w5.cell? ⟨Y, 3, none⟩ = some (.string (bs bz)) := (blk_cell HY5.out 3).trans rfl
                      go_wp2_with fail
                      refine (HCB.out w5).mono ?_
                      rintro e w6 ⟨rfl, hb6⟩
                      have HB6 := Lib.hid (fb2 HB5.out hb6 (Nat.le_refl _))
                      clear hb6 t0 t1 t2 t3 y0 y1 y2 y3
                      go_wp2
                      go_roundg gg
                      case measure => omega
                      case rel => exact ⟨k + 1, by go_num, by omega, by rw [HL1.out]; go_num, by rw [HL2.out]; go_num, by rw [HE.out, List.length_append, HC0.out]; go_num, HB6⟩
                    · have HL1 := Lib.hid (show cntE ⟨ak, ax, ay, az⟩ (boundC V (R.take (k + 1)) o) = c1 + 1 by rw [HE.out, cntE_snoc, if_pos h1, HC1.out])
                      have HL2 := Lib.hid (show cntE ⟨bk, bx, bY, bz⟩ (boundC V (R.take (k + 1)) o) = c2 + 0 by rw [HE.out, cntE_snoc, if_neg h2, HC2.out])
                      have HEA : ∀ W, (binOp .eql 37 (.agg #[.int .i64 tk, .string (bs tx), .string (bs ty), .string (bs tz)]) (.agg #[.int .i64 ak, .string (bs ax), .string (bs ay), .string (bs az)])).run Tryz.prog W = .ok (.bool true) W := fun W => by
                        have := eq_terms ⟨tk, tx, ty, tz⟩ ⟨ak, ax, ay, az⟩ W
                        rw [decide_eq_true h1] at this
                        exact this
                      have HEB : ∀ W, (binOp .eql 37 (.agg #[.int .i64 tk, .string (bs tx), .string (bs ty), .string (bs tz)]) (.agg #[.int .i64 bk, .string (bs bx), .string (bs bY), .string (bs bz)])).run Tryz.prog W = .ok (.bool false) W := fun W => by
                        have := eq_terms ⟨tk, tx, ty, tz⟩ ⟨bk, bx, bY, bz⟩ W
                        rw [decide_eq_false h2] at this
                        exact this
                      clear h1 h2
                      go_wp2_with fail
                      refine (HCA.out W2).mono ?_
                      rintro e w5 ⟨rfl, hb5⟩
                      have HX5 := Lib.hid (blk_on HX2.out hb5 (blk_lt HX2.out))
                      have HY5 := Lib.hid (blk_on HY2.out hb5 (blk_lt HY2.out))
                      have HT5 := Lib.hid (blk_on HBT.out hb5 (blk_lt HBT.out))
                      have HB5 := Lib.hid (fb2 HB2.out hb5 (Nat.le_refl _))
                      clear hb5 t0 t1 t2 t3 x0 x1 x2 x3 y0 y1 y2 y3 HEA HEB
                      have t0 : w5.cell? ⟨G, 0, none⟩ = some (.int .i64 tk) := (blk_cell HT5.out 0).trans rfl
                      have t1 : w5.cell? ⟨G, 1, none⟩ = some (.string (bs tx)) := (blk_cell HT5.out 1).trans rfl
                      have t2 : w5.cell? ⟨G, 2, none⟩ = some (.string (bs ty)) := (blk_cell HT5.out 2).trans rfl
                      have t3 : w5.cell? ⟨G, 3, none⟩ = some (.string (bs tz)) := (blk_cell HT5.out 3).trans rfl
                      have y0 : w5.cell? ⟨Y, 0, none⟩ = some (.int .i64 bk) := (blk_cell HY5.out 0).trans rfl
                      have y1 : w5.cell? ⟨Y, 1, none⟩ = some (.string (bs bx)) := (blk_cell HY5.out 1).trans rfl
                      have y2 : w5.cell? ⟨Y, 2, none⟩ = some (.string (bs bY)) := (blk_cell HY5.out 2).trans rfl
                      have y3 : w5.cell? ⟨Y, 3, none⟩ = some (.string (bs bz)) := (blk_cell HY5.out 3).trans rfl
                      go_wp2_with fail
                      refine (HCB.out w5).mono ?_
                      rintro e w6 ⟨rfl, hb6⟩
                      have HB6 := Lib.hid (fb2 HB5.out hb6 (Nat.le_refl _))
                      clear hb6 t0 t1 t2 t3 y0 y1 y2 y3
                      go_wp2
                      go_roundg gg
                      case measure => omega
                      case rel => exact ⟨k + 1, by go_num, by omega, by rw [HL1.out]; go_num, by rw [HL2.out]; go_num, by rw [HE.out, List.length_append, HC0.out]; go_num, HB6⟩
                  · by_cases h2 : (⟨tk, tx, ty, tz⟩ : TermL) = ⟨bk, bx, bY, bz⟩
                    · have HL1 := Lib.hid (show cntE ⟨ak, ax, ay, az⟩ (boundC V (R.take (k + 1)) o) = c1 + 0 by rw [HE.out, cntE_snoc, if_neg h1, HC1.out])
                      have HL2 := Lib.hid (show cntE ⟨bk, bx, bY, bz⟩ (boundC V (R.take (k + 1)) o) = c2 + 1 by rw [HE.out, cntE_snoc, if_pos h2, HC2.out])
                      have HEA : ∀ W, (binOp .eql 37 (.agg #[.int .i64 tk, .string (bs tx), .string (bs ty), .string (bs tz)]) (.agg #[.int .i64 ak, .string (bs ax), .string (bs ay), .string (bs az)])).run Tryz.prog W = .ok (.bool false) W := fun W => by
                        have := eq_terms ⟨tk, tx, ty, tz⟩ ⟨ak, ax, ay, az⟩ W
                        rw [decide_eq_false h1] at this
                        exact this
                      have HEB : ∀ W, (binOp .eql 37 (.agg #[.int .i64 tk, .string (bs tx), .string (bs ty), .string (bs tz)]) (.agg #[.int .i64 bk, .string (bs bx), .string (bs bY), .string (bs bz)])).run Tryz.prog W = .ok (.bool true) W := fun W => by
                        have := eq_terms ⟨tk, tx, ty, tz⟩ ⟨bk, bx, bY, bz⟩ W
                        rw [decide_eq_true h2] at this
                        exact this
                      clear h1 h2
                      go_wp2_with fail
                      refine (HCA.out W2).mono ?_
                      rintro e w5 ⟨rfl, hb5⟩
                      have HX5 := Lib.hid (blk_on HX2.out hb5 (blk_lt HX2.out))
                      have HY5 := Lib.hid (blk_on HY2.out hb5 (blk_lt HY2.out))
                      have HT5 := Lib.hid (blk_on HBT.out hb5 (blk_lt HBT.out))
                      have HB5 := Lib.hid (fb2 HB2.out hb5 (Nat.le_refl _))
                      clear hb5 t0 t1 t2 t3 x0 x1 x2 x3 y0 y1 y2 y3 HEA HEB
                      have t0 : w5.cell? ⟨G, 0, none⟩ = some (.int .i64 tk) := (blk_cell HT5.out 0).trans rfl
                      have t1 : w5.cell? ⟨G, 1, none⟩ = some (.string (bs tx)) := (blk_cell HT5.out 1).trans rfl
                      have t2 : w5.cell? ⟨G, 2, none⟩ = some (.string (bs ty)) := (blk_cell HT5.out 2).trans rfl
                      have t3 : w5.cell? ⟨G, 3, none⟩ = some (.string (bs tz)) := (blk_cell HT5.out 3).trans rfl
                      have y0 : w5.cell? ⟨Y, 0, none⟩ = some (.int .i64 bk) := (blk_cell HY5.out 0).trans rfl
                      have y1 : w5.cell? ⟨Y, 1, none⟩ = some (.string (bs bx)) := (blk_cell HY5.out 1).trans rfl
                      have y2 : w5.cell? ⟨Y, 2, none⟩ = some (.string (bs bY)) := (blk_cell HY5.out 2).trans rfl
                      have y3 : w5.cell? ⟨Y, 3, none⟩ = some (.string (bs bz)) := (blk_cell HY5.out 3).trans rfl
                      go_wp2_with fail
                      refine (HCB.out w5).mono ?_
                      rintro e w6 ⟨rfl, hb6⟩
                      have HB6 := Lib.hid (fb2 HB5.out hb6 (Nat.le_refl _))
                      clear hb6 t0 t1 t2 t3 y0 y1 y2 y3
                      go_wp2
                      go_roundg gg
                      case measure => omega
                      case rel => exact ⟨k + 1, by go_num, by omega, by rw [HL1.out]; go_num, by rw [HL2.out]; go_num, by rw [HE.out, List.length_append, HC0.out]; go_num, HB6⟩
                    · have HL1 := Lib.hid (show cntE ⟨ak, ax, ay, az⟩ (boundC V (R.take (k + 1)) o) = c1 + 0 by rw [HE.out, cntE_snoc, if_neg h1, HC1.out])
                      have HL2 := Lib.hid (show cntE ⟨bk, bx, bY, bz⟩ (boundC V (R.take (k + 1)) o) = c2 + 0 by rw [HE.out, cntE_snoc, if_neg h2, HC2.out])
                      have HEA : ∀ W, (binOp .eql 37 (.agg #[.int .i64 tk, .string (bs tx), .string (bs ty), .string (bs tz)]) (.agg #[.int .i64 ak, .string (bs ax), .string (bs ay), .string (bs az)])).run Tryz.prog W = .ok (.bool false) W := fun W => by
                        have := eq_terms ⟨tk, tx, ty, tz⟩ ⟨ak, ax, ay, az⟩ W
                        rw [decide_eq_false h1] at this
                        exact this
                      have HEB : ∀ W, (binOp .eql 37 (.agg #[.int .i64 tk, .string (bs tx), .string (bs ty), .string (bs tz)]) (.agg #[.int .i64 bk, .string (bs bx), .string (bs bY), .string (bs bz)])).run Tryz.prog W = .ok (.bool false) W := fun W => by
                        have := eq_terms ⟨tk, tx, ty, tz⟩ ⟨bk, bx, bY, bz⟩ W
                        rw [decide_eq_false h2] at this
                        exact this
                      clear h1 h2
                      go_wp2_with fail
                      refine (HCA.out W2).mono ?_
                      rintro e w5 ⟨rfl, hb5⟩
                      have HX5 := Lib.hid (blk_on HX2.out hb5 (blk_lt HX2.out))
                      have HY5 := Lib.hid (blk_on HY2.out hb5 (blk_lt HY2.out))
                      have HT5 := Lib.hid (blk_on HBT.out hb5 (blk_lt HBT.out))
                      have HB5 := Lib.hid (fb2 HB2.out hb5 (Nat.le_refl _))
                      clear hb5 t0 t1 t2 t3 x0 x1 x2 x3 y0 y1 y2 y3 HEA HEB
                      have t0 : w5.cell? ⟨G, 0, none⟩ = some (.int .i64 tk) := (blk_cell HT5.out 0).trans rfl
                      have t1 : w5.cell? ⟨G, 1, none⟩ = some (.string (bs tx)) := (blk_cell HT5.out 1).trans rfl
                      have t2 : w5.cell? ⟨G, 2, none⟩ = some (.string (bs ty)) := (blk_cell HT5.out 2).trans rfl
                      have t3 : w5.cell? ⟨G, 3, none⟩ = some (.string (bs tz)) := (blk_cell HT5.out 3).trans rfl
                      have y0 : w5.cell? ⟨Y, 0, none⟩ = some (.int .i64 bk) := (blk_cell HY5.out 0).trans rfl
                      have y1 : w5.cell? ⟨Y, 1, none⟩ = some (.string (bs bx)) := (blk_cell HY5.out 1).trans rfl
                      have y2 : w5.cell? ⟨Y, 2, none⟩ = some (.string (bs bY)) := (blk_cell HY5.out 2).trans rfl
                      have y3 : w5.cell? ⟨Y, 3, none⟩ = some (.string (bs bz)) := (blk_cell HY5.out 3).trans rfl
                      go_wp2_with fail
                      refine (HCB.out w5).mono ?_
                      rintro e w6 ⟨rfl, hb6⟩
                      have HB6 := Lib.hid (fb2 HB5.out hb6 (Nat.le_refl _))
                      clear hb6 t0 t1 t2 t3 y0 y1 y2 y3
                      go_wp2
                      go_roundg gg
                      case measure => omega
                      case rel => exact ⟨k + 1, by go_num, by omega, by rw [HL1.out]; go_num, by rw [HL2.out]; go_num, by rw [HE.out, List.length_append, HC0.out]; go_num, HB6⟩
            · have k1 : ¬ (k : Int) < (m : Int) := by omega
              have ht : R.take k = R := List.take_of_length_le (by rw [HRL.out]; omega)
              rw [ht] at hble hc1 hc2 ⊢
              have HNZ := HNIL.out
              have HPO := Lib.hid (fun (h : 0 < (boundC V R o).length) => And.intro (cntE_pos (HMA.out h).1) (cntE_pos (HMA.out h).2))
              generalize (boundC V R o).length = bl at hble hc1 hc2 HNZ HPO
              generalize cntE ⟨ak, ax, ay, az⟩ (boundC V R o) = lo at hc1 HPO
              generalize cntE ⟨bk, bx, bY, bz⟩ (boundC V R o) = hi at hc2 HPO
              clear ht HIN HMA HNIL
              by_cases hb0 : bl = 0
              · obtain ⟨e1, e2⟩ := HNZ hb0
                have g1 : ((bl : Int) == 0) = true := beq_iff_eq.2 (by omega)
                have x0 : W1.cell? ⟨X, 0, none⟩ = some (.int .i64 ak) := (blk_cell HX1.out 0).trans rfl
                have y0 : W1.cell? ⟨Y, 0, none⟩ = some (.int .i64 bk) := (blk_cell HY1.out 0).trans rfl
                have g2 : (ak == 0) = true := beq_iff_eq.2 e1
                have g3 : (bk == 0) = true := beq_iff_eq.2 e2
                have g4 : (bl == 0) = true := beq_iff_eq.2 hb0
                clear e1 e2 hb0 HNZ HPO
                go_wp2_with fail
                refine (HAW.out _ (HG.out.on HB1.out)).mono ?_
                rintro e w5 ⟨rfl, hb5⟩
                have HBz := Lib.hid (fb2 HB1.out hb5 (Nat.le_refl _))
                clear hb5
                go_wp2
                go_ret
                exact ⟨rfl, HBz.out⟩
              · obtain ⟨p1, p2⟩ := HPO.out (by omega)
                have g1 : ((bl : Int) == 0) = false := beq_eq_false_iff_ne.2 (by omega)
                have g4 : (bl == 0) = false := beq_eq_false_iff_ne.2 hb0
                have g2 : (0 : Int) < (lo : Int) := by omega
                have g3 : (0 : Int) < (hi : Int) := by omega
                clear HNZ HPO hb0
                go_wp2_with fail
                refine (HAW.out _ (HG.out.on HB1.out)).mono ?_
                rintro e w5 ⟨rfl, hb5⟩
                have HBz := Lib.hid (fb2 HB1.out hb5 (Nat.le_refl _))
                clear hb5
                go_wp2
                go_ret
                exact ⟨rfl, HBz.out⟩
    · have gz : (z != 0) = true := bne_iff_ne.2 hz
      clear HO3 HO4 hz
      go_wp2_with fail
      refine (HAW.out _ (HG.out.on HB1.out)).mono ?_
      rintro e w2 ⟨rfl, hb2⟩
      have HBz := Lib.hid (fb2 HB1.out hb2 (Nat.le_refl _))
      clear hb2
      go_wp2
      go_ret
      exact ⟨rfl, HBz.out⟩

end Go.Proofs.YtdnfaoanaehjhaaGreatDoor
