/- A list of triples without one: slices.Delete of one place. -/
import Derived.Test.YtnojdchodmogbaaGreatStoOpens
import Derived.Test.YtnojdchodmogbaaGreatStoHave
namespace Go.Proofs.YtnojdchodmogbaaGreat
open Go.RowKit

/- cells cleared in a row; the world behind it is a name -/
theorem clear_abs {ops : Array Oper} {rest : List Oper} {o : Oper} {a : Act} {w : World} {Q : Exit → Act → World → Prop} (s : Operand) (ho : o.op = .call { callee := .builtin .clear, args := #[s], argTypes := #[25] } ∧ o.guard = none)
    (i0 : TypeInfo) (hi : Tryz.prog.info? 29 = some i0) (hz : i0.zero = some noTrip.v) (g cap off n c : Nat) (hs : a.eval s = .slice (some ⟨g, off, none⟩) n c) (hn : n = 1)
    (xs R ys : List Value) (hR : RowIs w g cap xs R) (e1 : (xs ++ R).take off = ys) (e2 : (xs ++ R).drop (off + 12) = R) (hfit : off + 12 ≤ (xs ++ R).length)
    (h : ∀ w', Hid (RowIs w' g cap ys (noTrip.v.cells.toList ++ R)) → Hid (w.grownBy w' (some g)) → wpList Tryz.prog ops Q rest (a.put o.dst (.tuple #[])) w') : wpList Tryz.prog ops Q (o :: rest) a w := by
  subst hn
  have ez : (Builtin.zeroCells noTrip.v.cells 1).toList = noTrip.v.cells.toList := by kernel_rfl
  refine wpList_clear_row ho.2 s 25 ho.1 29 i0 noTrip.v Tryz.underlying25 hi hz g off 1 c (xs ++ R).toArray 29 hR.1 hs (by omega) ?_ ?_ ?_
  · rw [List.size_toArray]; exact hfit
  · rw [ez]; intro u hu; simp only [noTrip, TripL.v, Value.cells, List.mem_cons, List.not_mem_nil, or_false] at hu; rcases hu with rfl | rfl | rfl | rfl | rfl | rfl | rfl | rfl | rfl | rfl | rfl | rfl <;> rfl
  · rw [ez]
    refine h _ ?_ (grown_set _ _ _)
    have := row_set hR (ys := ys) (S := noTrip.v.cells.toList ++ R) off noTrip.v.cells.toList (by rw [e1, show noTrip.v.cells.toList.length = 12 from rfl, e2, List.append_assoc]) hfit
    exact this

theorem del_mid (a e d R : List Value) (_he : e.length = 12) : ((a ++ e ++ d) ++ R).take a.length ++ d ++ ((a ++ e ++ d) ++ R).drop (a.length + d.length) = (a ++ d ++ (e ++ d).drop d.length) ++ R := by
  have e1 : ((a ++ e ++ d) ++ R).take a.length = a := by rw [show (a ++ e ++ d) ++ R = a ++ (e ++ d ++ R) by simp, List.take_left]
  have e2 : ((a ++ e ++ d) ++ R).drop (a.length + d.length) = (e ++ d).drop d.length ++ R := by
    rw [show (a ++ e ++ d) ++ R = a ++ ((e ++ d) ++ R) by simp, List.drop_length_add_append, List.drop_append_of_le_length (by simp)]
  rw [e1, e2]; simp
theorem del_end1 (a e d R : List Value) (_he : e.length = 12) : ((a ++ d ++ (e ++ d).drop d.length) ++ R).take (a.length + d.length) = a ++ d := by
  rw [show (a ++ d ++ (e ++ d).drop d.length) ++ R = (a ++ d) ++ ((e ++ d).drop d.length ++ R) by simp, show a.length + d.length = (a ++ d).length by simp, List.take_left]
theorem del_end2 (a e d R : List Value) (he : e.length = 12) : ((a ++ d ++ (e ++ d).drop d.length) ++ R).drop (a.length + d.length + 12) = R := by
  rw [show a.length + d.length + 12 = (a ++ d ++ (e ++ d).drop d.length).length by simp; omega, List.drop_left]
theorem cells_delAt (l : List TripL) (k : Nat) : tripCells (delAt l k) = tripCells (l.take k) ++ tripCells (l.drop (k + 1)) := by unfold delAt; rw [tripCells_append]
theorem cells_three (l : List TripL) (k : Nat) (hk : k < l.length) : tripCells l = tripCells (l.take k) ++ l[k].cells ++ tripCells (l.drop (k + 1)) := by
  conv => lhs; rw [← List.take_append_drop k l, List.drop_eq_getElem_cons hk]
  rw [show l[k] :: l.drop (k + 1) = [l[k]] ++ l.drop (k + 1) from rfl, tripCells_append, tripCells_append, tripCells_one, List.append_assoc]

/- what Delete leaves -/
def DelT (B : Nat) (l : List TripL) (k : Nat) (v : Value) (w : World) (e : Ending) (w' : World) : Prop :=
  ∃ v', e = .returned v' ∧ Own w' B v' (delAt l k) ∧ w.grownBy w' v.ownBlock ∧ v'.ownBlock = v.ownBlock

set_option maxRecDepth 100000 in
set_option maxHeartbeats 4000000 in
theorem delete_calls (l : List TripL) (k : Nat) (B : Nat) (v : Value) (w : World) (hk : k < l.length) (hl : l.length ≤ 4096) (hown : Own w B v l) :
    Calls Tryz.prog 33 #[v, .int .i64 k, .int .i64 ((k : Int) + 1)] w (DelT B l k v w) := by
  obtain ⟨i0, hi, hz0, hz1, hz2⟩ := info_parts info_triple
  obtain ⟨g, cap, R, rfl, hcap, hBg, HR⟩ := row_of hown (by omega)
  have ha : (tripCells (l.take k)).length = k * 12 := by rw [tripCells_length, List.length_take]; omega
  have hd : (tripCells (l.drop (k + 1))).length = (l.length - (k + 1)) * 12 := by rw [tripCells_length, List.length_drop]
  have hdel := cells_delAt l k
  have hlen := length_delAt hk
  have hdone := cells_one (l.drop (k + 1))
  have h3 := cells_three l k hk
  have he : (l[k]).cells.length = 12 := rfl
  obtain ⟨e, hee⟩ : ∃ e, (l[k]).cells = e := ⟨_, rfl⟩
  rw [hee] at h3 he
  have hrow := HR.out
  rw [h3] at hrow
  obtain ⟨N, hN⟩ : ∃ N, l.length = N := ⟨_, rfl⟩
  rw [hN] at hk hl hcap hd hlen ⊢
  generalize tripCells (l.take k) = a at ha hdel hrow
  generalize tripCells (l.drop (k + 1)) = d at hd hdel hdone hrow
  obtain ⟨M, hM⟩ : ∃ M, k + (N - (k + 1)) = M := ⟨_, rfl⟩
  have hMN : M + 1 = N := by omega
  have HRow := Lib.hid hrow
  have HA := Lib.hid ha
  have HD := Lib.hid hd
  have HDEL := Lib.hid hdel
  have HLEN := Lib.hid hlen
  have HDO := Lib.hid hdone
  have HE := Lib.hid he
  have HM := Lib.hid hM
  clear hown HR ha hd hdel hlen hdone h3 he hee hrow hN hM
  have i1 : (k : Int) ≤ (k : Int) + 1 := by omega
  have i2 : (k : Int) + 1 ≤ (N : Int) := by omega
  have i3 : (N : Int) ≤ (cap : Int) := by omega
  have i4 : (0 : Int) ≤ (k : Int) := by omega
  have i5 : ((k : Int) == (k : Int) + 1) = false := beq_eq_false_iff_ne.2 (by omega)
  have i6 : ¬ (k : Int) = (k : Int) + 1 := by omega
  go_enter Tryz.func33, Tryz.ntmps33
  go_wp2_with fail
  obtain ⟨DA, hDA⟩ : ∃ DA, (if cap = k + 1 then (⟨g, 0, none⟩ : Addr) else ⟨g, (k + 1) * 12, none⟩) = DA := ⟨_, rfl⟩
  have HDA := Lib.hid hDA
  clear hDA
  refine wp_region_held_drew (S := (fun _ => True)) (by kernel_rfl) ?_ (fun hHeld => ?_)
  · (try dsimp only); (try trivial)
  refine wpAnyH_take (i := 0) (oi := ⟨some 20, _, _, _, _, _⟩) (v := ?_) rfl (by kernel_rfl) (by kernel_rfl) (by kernel_rfl) (fun _ _ _ h => h) (Or.inl ⟨by kernel_rfl, ?_⟩) (by assumption) ?_
  rotate_left
  · (intro ww hSw; (try dsimp only at hSw); go_simp); (try with_reducible rfl)
  (try simp only [Act.put, List.setIfInBounds_toArray, List.set_cons_zero, List.set_cons_succ])
  refine wpAnyH_take (i := 1) (oi := ⟨some 21, _, _, _, _, _⟩) (v := ?_) rfl (by kernel_rfl) (by kernel_rfl) (by kernel_rfl) (fun _ _ _ h => h) (Or.inl ⟨by kernel_rfl, ?_⟩) (by assumption) ?_
  rotate_left
  · (intro ww hSw; (try dsimp only at hSw); go_simp); (try with_reducible rfl)
  (try simp only [Act.put, List.setIfInBounds_toArray, List.set_cons_zero, List.set_cons_succ])
  refine wpAnyH_take (i := 2) (oi := ⟨some 22, _, _, _, _, _⟩) (v := .slice (some ⟨g, 0, none⟩) k cap) rfl (by kernel_rfl) (by kernel_rfl) (by kernel_rfl) (fun _ _ _ h => h) (Or.inl ⟨by kernel_rfl, ?_⟩) (by assumption) ?_
  · (intro ww hSw; (try dsimp only at hSw); have h1 : (0 : Int) ≤ (k : Int) := (by omega); have h2 : (k : Int) ≤ (cap : Int) := (by omega); have h3 : ¬ cap = 0 := (by omega); go_simp; (try simp [h3, Addr.add]))
  (try simp only [Act.put, List.setIfInBounds_toArray, List.set_cons_zero, List.set_cons_succ])
  refine wpAnyH_take (i := 3) (oi := ⟨some 23, _, _, _, _, _⟩) (v := ?_) rfl (by kernel_rfl) (by kernel_rfl) (by kernel_rfl) (fun _ _ _ h => h) (Or.inl ⟨by kernel_rfl, ?_⟩) (by assumption) ?_
  rotate_left
  · (intro ww hSw; (try dsimp only at hSw); go_simp); (try with_reducible rfl)
  (try simp only [Act.put, List.setIfInBounds_toArray, List.set_cons_zero, List.set_cons_succ])
  refine wpAnyH_take (i := 4) (oi := ⟨some 24, _, _, _, _, _⟩) (v := ?_) rfl (by kernel_rfl) (by kernel_rfl) (by kernel_rfl) (fun _ _ _ h => h) (Or.inl ⟨by kernel_rfl, ?_⟩) (by assumption) ?_
  rotate_left
  · (intro ww hSw; (try dsimp only at hSw); go_simp); (try with_reducible rfl)
  (try simp only [Act.put, List.setIfInBounds_toArray, List.set_cons_zero, List.set_cons_succ])
  refine wpAnyH_take (i := 5) (oi := ⟨some 25, _, _, _, _, _⟩) (v := .slice (some DA) (N - (k + 1)) (cap - (k + 1))) rfl (by kernel_rfl) (by kernel_rfl) (by kernel_rfl) (fun _ _ _ h => h) (Or.inl ⟨by kernel_rfl, ?_⟩) (by assumption) ?_
  · (intro ww hSw; (try dsimp only at hSw); have h1 : (0 : Int) ≤ (k : Int) + 1 := (by omega); have h2 : (k : Int) + 1 ≤ (N : Int) := (by omega); rw [← HDA.out]; go_simp; (try simp); (try (split <;> rfl)))
  (try simp only [Act.put, List.setIfInBounds_toArray, List.set_cons_zero, List.set_cons_succ])
  refine wpAnyH_ready (rs := [6]) (by kernel_rfl) (by simp) ?_
  refine AllReadyH.cons rfl (fun K hK => ?_) AllReadyH.nil
  refine wp_append_room (.tmp 22) (.tmp 25) 25 rfl 29 i0 Tryz.underlying25 hi g k cap (a ++ e ++ d ++ R).toArray HRow.out.1 DA (N - (k + 1)) (cap - (k + 1)) d (by kernel_rfl) (by kernel_rfl) (by rw [hz1]; exact HD.out) ?_ HDO.out (by omega) ?_ ?_
  · intro j u hj
    rw [← HDA.out]
    by_cases hc : cap = k + 1
    · have : d = [] := List.eq_nil_of_length_eq_zero (by rw [HD.out]; omega)
      subst this; simp at hj
    · rw [if_neg hc]
      refine row_cells HRow.out ((k + 1) * 12) j u ?_
      rw [show (k + 1) * 12 = (a ++ e).length by rw [List.length_append, HA.out, HE.out]; omega, List.drop_left]; exact hj
  · rw [hz1, HD.out, List.size_toArray, HRow.out.2.1]; omega
  rw [HM.out, hz1]
  change K (Act.put _ (some 26) _) _
  refine hK.out _ _ ?_ (fun hHeld => ?_)
  · (try dsimp only); (try trivial)
  clear hK K
  (try simp only [Act.put, List.setIfInBounds_toArray, List.set_cons_zero, List.set_cons_succ])
  refine wpAnyH_take (i := 7) (oi := ⟨some 0, _, _, _, _, _⟩) (v := ?_) rfl (by kernel_rfl) (by kernel_rfl) (by kernel_rfl) (fun _ _ _ h => h) (Or.inl ⟨by kernel_rfl, ?_⟩) (by assumption) ?_
  rotate_left
  · (intro ww hSw; (try dsimp only at hSw); go_simp); (try with_reducible rfl)
  (try simp only [Act.put, List.setIfInBounds_toArray, List.set_cons_zero])
  refine wpAnyH_done (by kernel_rfl) ?_ _
  obtain ⟨W4, hW4⟩ : ∃ W4, w.drew.setRow g ((a ++ e ++ d ++ R).toArray.toList.take (k * 12) ++ d ++ (a ++ e ++ d ++ R).toArray.toList.drop (k * 12 + d.length)).toArray = W4 := ⟨_, rfl⟩
  rw [hW4]
  have HR4 : Hid (RowIs W4 g cap (a ++ d ++ (e ++ d).drop d.length) R) := by
    show RowIs _ _ _ _ _
    rw [← hW4]
    exact row_set (w := w.drew) HRow.out (k * 12) d (by rw [← HA.out]; exact del_mid a e d R HE.out) (by have := HRow.out.2.1; rw [HD.out, this]; omega)
  have HG4 : Hid (w.grownBy W4 (some g)) := by
    show w.grownBy W4 (some g)
    rw [← hW4]; exact grown_then (grown_drew w (some g)) (grown_set _ _ _) (.inl rfl)
  clear hW4
  have j1 : (M : Int) ≤ (N : Int) := by omega
  have j2 : (N : Int) ≤ (cap : Int) := by omega
  have j3 : ¬ cap = M := by omega
  have j4 : (0 : Int) ≤ (M : Int) := by omega
  have E1 := Lib.hid (show ((a ++ d ++ (e ++ d).drop d.length) ++ R).take (M * 12) = a ++ d by rw [show M * 12 = a.length + d.length by rw [HA.out, HD.out]; have := HM.out; omega]; exact del_end1 a e d R HE.out)
  have E2 := Lib.hid (show ((a ++ d ++ (e ++ d).drop d.length) ++ R).drop (M * 12 + 12) = R by rw [show M * 12 = a.length + d.length by rw [HA.out, HD.out]; have := HM.out; omega]; exact del_end2 a e d R HE.out)
  have E3 := Lib.hid (show M * 12 + 12 ≤ ((a ++ d ++ (e ++ d).drop d.length) ++ R).length by rw [HR4.out.2.1]; omega)
  go_wp2_with (refine clear_abs (.tmp 31) ⟨rfl, rfl⟩ i0 hi hz0 g cap (M * 12) (N - M) (cap - M) (by kernel_rfl) (by omega) _ R _ HR4.out E1.out E2.out E3.out ?_; intro W5 HR5 HG5)
  go_ret
  refine ⟨_, rfl, ?_, ?_, rfl⟩
  · show World.ownsRow _ _ _ _ _ _ _
    rw [HDEL.out, HLEN.out, show N - 1 = M by omega]
    exact row_owns HR5.out (by rw [List.length_append, HA.out, HD.out]; have := HM.out; omega) (by omega) hBg
  · exact HG4.out.trans HG5.out

end Go.Proofs.YtnojdchodmogbaaGreat
