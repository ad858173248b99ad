/- The messages without what stands at a place: package pool's cut, a copy within the row (written by gen/mkpolcut.py). -/
import Derived.Test.YtheefhogphlkiaaPolPut
import Derived.Test.YtheefhogphlkiaaStoLaws
namespace Go.Proofs.Ytheefhogphlkiaa
open Go.RowKit

def RowIs (w : World) (g cap : Nat) (xs R : List Value) : Prop := w.heap[g]? = some (.cells (xs ++ R).toArray 29 (0, 0)) ∧ (xs ++ R).length = cap * 3 ∧ cap ≤ maxLen
theorem row_of {w : World} {B n : Nat} {v : Value} {xs : List Value} (h : w.ownsRow B 29 3 v n xs) (hn : 0 < n) : ∃ g cap R, v = .slice (some ⟨g, 0, none⟩) n cap ∧ n ≤ cap ∧ B ≤ g ∧ Hid (RowIs w g cap xs R) := by
  rcases h.2 with ⟨_, h0⟩ | ⟨g, cap, cur, hv, hg, hh, hnc, hcm, hcs, ht⟩
  · omega
  · refine ⟨g, cap, cur.toList.drop (n * 3), hv, hnc, hg, (show RowIs w g cap xs (cur.toList.drop (n * 3)) from ⟨?_, ?_, hcm⟩)⟩
    · rw [← ht, List.take_append_drop]; simpa using hh
    · rw [← ht, List.take_append_drop]; simpa using hcs
theorem row_owns {w : World} {B g cap n : Nat} {xs R : List Value} (h : RowIs w g cap xs R) (hl : xs.length = n * 3) (hn : n ≤ cap) (hB : B ≤ g) : w.ownsRow B 29 3 (.slice (some ⟨g, 0, none⟩) n cap) n xs :=
  ⟨hl, .inr ⟨g, cap, _, rfl, hB, h.1, hn, h.2.2, by simpa using h.2.1, by rw [← hl]; simp⟩⟩
theorem row_cells {w : World} {g cap : Nat} {xs R : List Value} (h : RowIs w g cap xs R) (o : Nat) : ∀ j v, (xs.drop o)[j]? = some v → w.cell? ((⟨g, o, none⟩ : Addr).add j) = some v := by
  intro j v hj
  have e1 : (⟨g, o, none⟩ : Addr).add j = ⟨g, o + j, none⟩ := by unfold Addr.add; split <;> simp_all
  rw [e1, cell_of_row w g (o + j) _ _ (0, 0) h.1]
  rw [List.getElem?_drop] at hj
  simp [List.getElem?_append_left (List.getElem?_eq_some_iff.1 hj).1, hj]
theorem row_lt {w : World} {g cap : Nat} {xs R : List Value} (h : RowIs w g cap xs R) : g < w.heap.size := (Array.getElem?_eq_some_iff.1 h.1).1
/- the row behind a store of cells into it -/
theorem row_set {w : World} {g cap : Nat} {xs R ys S : List Value} (h : RowIs w g cap xs R) (off : Nat) (cs : List Value) (e : (xs ++ R).take off ++ cs ++ (xs ++ R).drop (off + cs.length) = ys ++ S) (hfit : off + cs.length ≤ (xs ++ R).length) :
    RowIs (w.setRow g ((xs ++ R).toArray.toList.take off ++ cs ++ (xs ++ R).toArray.toList.drop (off + cs.length)).toArray) g cap ys S := by
  rw [List.toList_toArray, e]
  refine ⟨setRow_heap w g _ _ _ _ h.1, ?_, h.2.2⟩
  rw [← e, ← h.2.1, List.length_append, List.length_append, List.length_take, List.length_drop]
  omega
theorem wrap_small (n : Nat) (h : n ≤ 100000) : IntKind.i64.wrap (n : Int) = (n : Int) := by
  simp [IntKind.wrap, IntKind.signed, IntKind.bits]; omega
theorem grown_drew (w : World) (row : Option Nat) : w.grownBy w.drew row := ⟨rfl, rfl, rfl, Nat.le_refl _, fun _ _ _ => rfl⟩
theorem grown_then {a b c : World} {row : Option Nat} (h : a.grownBy b row) (k : b.grownBy c row) : a.grownBy c row := by
  refine ⟨k.os.trans h.os, k.tape.trans h.tape, k.output.trans h.output, Nat.le_trans h.size k.size, fun i hi hne => ?_⟩
  rw [k.block i (Nat.lt_of_lt_of_le hi h.size) hne]
  exact h.block i hi hne
def zeroC : List Value := [.int .i64 0, .int .i64 0, .string ⟨#[]⟩]
/- cells cleared in a row; the world behind it is a name -/
theorem clear_abs {ops : Array Oper} {rest : List Oper} {o : Oper} {a : Act} {w : World} {Q : Exit → Act → World → Prop} (s : Operand) (ho : o.op = .call { callee := .builtin .clear, args := #[s], argTypes := #[53] } ∧ o.guard = none)
    (i0 : TypeInfo) (hi : Try.prog.info? 29 = some i0) (hz : i0.zero = some (.agg #[.int .i64 0, .int .i64 0, .string ⟨#[]⟩])) (g cap off n c : Nat) (hs : a.eval s = .slice (some ⟨g, off, none⟩) n c) (hn : n = 1)
    (xs R ys : List Value) (hR : RowIs w g cap xs R) (e1 : (xs ++ R).take off = ys) (e2 : (xs ++ R).drop (off + 3) = R) (hfit : off + 3 ≤ (xs ++ R).length)
    (h : ∀ w', Hid (RowIs w' g cap ys (zeroC ++ R)) → Hid (w.grownBy w' (some g)) → wpList Try.prog ops Q rest (a.put o.dst (.tuple #[])) w') : wpList Try.prog ops Q (o :: rest) a w := by
  subst hn
  have ez : (Builtin.zeroCells (Value.cells (.agg #[.int .i64 0, .int .i64 0, .string ⟨#[]⟩])) 1).toList = zeroC := by kernel_rfl
  refine wpList_clear_row ho.2 s 53 ho.1 29 i0 (.agg #[.int .i64 0, .int .i64 0, .string ⟨#[]⟩]) Try.underlying53 hi hz g off 1 c (xs ++ R).toArray 29 hR.1 hs (by omega) ?_ ?_ ?_
  · rw [List.size_toArray]; exact hfit
  · rw [ez]; intro u hu; simp only [zeroC, List.mem_cons, List.not_mem_nil, or_false] at hu; rcases hu with rfl | rfl | rfl <;> rfl
  · rw [ez]
    refine h _ ?_ (grown_set _ _ _)
    exact row_set hR (ys := ys) (S := zeroC ++ R) off zeroC (by rw [e1, show zeroC.length = 3 from rfl, e2, List.append_assoc]) hfit

theorem del_mid (a e d R : List Value) : ((a ++ e ++ d) ++ R).take a.length ++ d ++ ((a ++ e ++ d) ++ R).drop (a.length + d.length) = (a ++ d ++ (e ++ d).drop d.length) ++ R := by
  have e1 : ((a ++ e ++ d) ++ R).take a.length = a := by rw [show (a ++ e ++ d) ++ R = a ++ (e ++ d ++ R) by simp, List.take_left]
  have e2 : ((a ++ e ++ d) ++ R).drop (a.length + d.length) = (e ++ d).drop d.length ++ R := by
    rw [show (a ++ e ++ d) ++ R = a ++ ((e ++ d) ++ R) by simp, List.drop_length_add_append, List.drop_append_of_le_length (by simp)]
  rw [e1, e2]; simp
theorem del_end1 (a e d R : List Value) : ((a ++ d ++ (e ++ d).drop d.length) ++ R).take (a.length + d.length) = a ++ d := by
  rw [show (a ++ d ++ (e ++ d).drop d.length) ++ R = (a ++ d) ++ ((e ++ d).drop d.length ++ R) by simp, show a.length + d.length = (a ++ d).length by simp, List.take_left]
theorem del_end2 (a e d R : List Value) (he : e.length = 3) : ((a ++ d ++ (e ++ d).drop d.length) ++ R).drop (a.length + d.length + 3) = R := by
  rw [show a.length + d.length + 3 = (a ++ d ++ (e ++ d).drop d.length).length by simp; omega, List.drop_left]

/- what cut leaves -/
def CutT (B : Nat) (l : List MsgL) (k : Nat) (v : Value) (w : World) (e : Ending) (w' : World) : Prop :=
  ∃ v', e = .returned v' ∧ Own w' B v' (l.take k ++ l.drop (k + 1)) ∧ w.grownBy w' v.ownBlock ∧ v'.ownBlock = v.ownBlock

set_option maxRecDepth 100000 in
set_option maxHeartbeats 4000000 in
theorem cut_calls (l : List MsgL) (k : Nat) (B : Nat) (v : Value) (w : World) (hk : k < l.length) (hl : l.length ≤ 4096) (hown : Own w B v l) :
    Calls Try.prog 30 #[v, .int .i64 k] w (CutT B l k v w) := by
  obtain ⟨i0, hi, hz0, hz1, hz2⟩ := info_parts info_msg
  obtain ⟨g, cap, R, rfl, hcap, hBg, HR⟩ := row_of hown (by omega)
  have ha : (cellsM (l.take k)).length = k * 3 := by rw [cellsM_length, List.length_take]; omega
  have hd : (cellsM (l.drop (k + 1))).length = (l.length - (k + 1)) * 3 := by rw [cellsM_length, List.length_drop]
  have hdel : cellsM (l.take k ++ l.drop (k + 1)) = cellsM (l.take k) ++ cellsM (l.drop (k + 1)) := cellsM_append _ _
  have hlen : (l.take k ++ l.drop (k + 1)).length = l.length - 1 := by rw [List.length_append, List.length_take, List.length_drop]; omega
  have hdone := cellsM_one' (l.drop (k + 1))
  have h3 := cellsM_three l k hk
  have he : (l[k]).cs.length = 3 := rfl
  obtain ⟨e, hee⟩ : ∃ e, (l[k]).cs = e := ⟨_, rfl⟩
  rw [hee] at h3 he
  have hrow := HR.out
  rw [h3] at hrow
  obtain ⟨N, hN⟩ : ∃ N, l.length = N := ⟨_, rfl⟩
  rw [hN] at hk hl hcap hd hlen ⊢
  generalize cellsM (l.take k) = a at ha hdel hrow
  generalize cellsM (l.drop (k + 1)) = d at hd hdel hdone hrow
  obtain ⟨M, hM⟩ : ∃ M, N - 1 = M := ⟨_, rfl⟩
  have hMN : M + 1 = N := by omega
  have HRow := Lib.hid hrow
  have HA := Lib.hid ha
  have HD := Lib.hid hd
  have HDEL := Lib.hid hdel
  have HLEN := Lib.hid hlen
  have HDO := Lib.hid hdone
  have HE := Lib.hid he
  have HM := Lib.hid hM
  have HMN := Lib.hid hMN
  clear hown HR ha hd hdel hlen hdone h3 he hee hrow hN hM
  have i2 : (k : Int) + 1 ≤ (N : Int) := by omega
  have i3 : (N : Int) ≤ (cap : Int) := by omega
  have i4 : (0 : Int) ≤ (k : Int) := by omega
  have i5 : IntKind.i64.wrap ((N : Int) - 1) = (M : Int) := by rw [show (N : Int) - 1 = (M : Int) by omega]; exact wrap_small M (by omega)
  have i6 : IntKind.i64.wrap ((k : Int) + 1) = ((k + 1 : Nat) : Int) := by rw [show (k : Int) + 1 = ((k + 1 : Nat) : Int) by omega]; exact wrap_small (k + 1) (by omega)
  clear hMN
  go_enter Try.func30, Try.ntmps30
  go_wp2_with fail
  obtain ⟨DA, hDA⟩ : ∃ DA, (if cap = k + 1 then (⟨g, 0, none⟩ : Addr) else ⟨g, (k + 1) * 3, none⟩) = DA := ⟨_, rfl⟩
  have HDA := Lib.hid hDA
  clear hDA
  refine wp_region_held_drew (S := (fun _ => True)) (by kernel_rfl) ?_ (fun hHeld => ?_)
  · (try dsimp only); (try trivial)
  refine wpAnyH_take (i := 0) (oi := ⟨some 9, _, _, _, _, _⟩) (v := ?_) rfl (by kernel_rfl) (by kernel_rfl) (by kernel_rfl) (fun _ _ _ h => h) (Or.inl ⟨by kernel_rfl, ?_⟩) (by assumption) ?_
  rotate_left
  · (intro ww hSw; (try dsimp only at hSw); go_simp); (try with_reducible rfl)
  (try simp only [Act.put, List.setIfInBounds_toArray, List.set_cons_zero, List.set_cons_succ])
  refine wpAnyH_take (i := 1) (oi := ⟨some 10, _, _, _, _, _⟩) (v := ?_) rfl (by kernel_rfl) (by kernel_rfl) (by kernel_rfl) (fun _ _ _ h => h) (Or.inl ⟨by kernel_rfl, ?_⟩) (by assumption) ?_
  rotate_left
  · (intro ww hSw; (try dsimp only at hSw); go_simp); (try with_reducible rfl)
  (try simp only [Act.put, List.setIfInBounds_toArray, List.set_cons_zero, List.set_cons_succ])
  refine wpAnyH_take (i := 2) (oi := ⟨some 11, _, _, _, _, _⟩) (v := .slice (some ⟨g, k * 3, none⟩) (N - k) (cap - k)) rfl (by kernel_rfl) (by kernel_rfl) (by kernel_rfl) (fun _ _ _ h => h) (Or.inl ⟨by kernel_rfl, ?_⟩) (by assumption) ?_
  · (intro ww hSw; (try dsimp only at hSw); have h1 : (0 : Int) ≤ (k : Int) := (by omega); have h2 : (k : Int) ≤ (N : Int) := (by omega); have h3 : ¬ cap = k := (by omega); go_simp; (try simp [h3]))
  (try simp only [Act.put, List.setIfInBounds_toArray, List.set_cons_zero, List.set_cons_succ])
  refine wpAnyH_take (i := 3) (oi := ⟨some 12, _, _, _, _, _⟩) (v := ?_) rfl (by kernel_rfl) (by kernel_rfl) (by kernel_rfl) (fun _ _ _ h => h) (Or.inl ⟨by kernel_rfl, ?_⟩) (by assumption) ?_
  rotate_left
  · (intro ww hSw; (try dsimp only at hSw); go_simp); (try with_reducible rfl)
  (try simp only [Act.put, List.setIfInBounds_toArray, List.set_cons_zero, List.set_cons_succ])
  refine wpAnyH_take (i := 4) (oi := ⟨some 13, _, _, _, _, _⟩) (v := ?_) rfl (by kernel_rfl) (by kernel_rfl) (by kernel_rfl) (fun _ _ _ h => h) (Or.inl ⟨by kernel_rfl, ?_⟩) (by assumption) ?_
  rotate_left
  · (intro ww hSw; (try dsimp only at hSw); go_simp); (try with_reducible rfl)
  (try simp only [Act.put, List.setIfInBounds_toArray, List.set_cons_zero, List.set_cons_succ])
  refine wpAnyH_take (i := 5) (oi := ⟨some 14, _, _, _, _, _⟩) (v := .int .i64 ((k + 1 : Nat) : Int)) rfl (by kernel_rfl) (by kernel_rfl) (by kernel_rfl) (fun _ _ _ h => h) (Or.inl ⟨by kernel_rfl, ?_⟩) (by assumption) ?_
  · (intro ww hSw; (try dsimp only at hSw); go_simp; (try simp [i6]))
  (try simp only [Act.put, List.setIfInBounds_toArray, List.set_cons_zero, List.set_cons_succ])
  refine wpAnyH_take (i := 6) (oi := ⟨some 15, _, _, _, _, _⟩) (v := .slice (some DA) (N - (k + 1)) (cap - (k + 1))) rfl (by kernel_rfl) (by kernel_rfl) (by kernel_rfl) (fun _ _ _ h => h) (Or.inl ⟨by kernel_rfl, ?_⟩) (by assumption) ?_
  · (intro ww hSw; (try dsimp only at hSw); have h1 : (0 : Int) ≤ (k : Int) + 1 := (by omega); have h2 : (k : Int) + 1 ≤ (N : Int) := (by omega); rw [← HDA.out]; go_simp; (try simp); (try (split <;> rfl)))
  (try simp only [Act.put, List.setIfInBounds_toArray, List.set_cons_zero, List.set_cons_succ])
  refine wpAnyH_ready (rs := [7]) (by kernel_rfl) (by simp) ?_
  refine AllReadyH.cons rfl (fun K hK => ?_) AllReadyH.nil
  refine wp_copy_sized (.tmp 11) (.tmp 15) 53 53 rfl 29 i0 Try.underlying53 hi g (k * 3) (N - k) (cap - k) DA (N - (k + 1)) (cap - (k + 1)) (N - (k + 1)) (by kernel_rfl) (by kernel_rfl) (by show min _ _ = _; omega) (a ++ e ++ d ++ R).toArray 29 HRow.out.1 d (by rw [hz1]; exact HD.out) ?_ ?_ HDO.out ?_
  · intro j u hj
    rw [← HDA.out]
    by_cases hc : cap = k + 1
    · have : d = [] := List.eq_nil_of_length_eq_zero (by rw [HD.out]; omega)
      subst this; simp at hj
    · rw [if_neg hc]
      refine row_cells HRow.out ((k + 1) * 3) j u ?_
      rw [show (k + 1) * 3 = (a ++ e).length by rw [List.length_append, HA.out, HE.out]; omega, List.drop_left]; exact hj
  · rw [HD.out, List.size_toArray, HRow.out.2.1]; omega
  change K (Act.put _ (some 16) _) _
  refine hK.out _ _ ?_ (fun hHeld => ?_)
  · (try dsimp only); (try trivial)
  clear hK K
  (try simp only [Act.put, List.setIfInBounds_toArray, List.set_cons_zero, List.set_cons_succ])
  refine wpAnyH_done (by kernel_rfl) ?_ _
  obtain ⟨W4, hW4⟩ : ∃ W4, w.drew.setRow g ((a ++ e ++ d ++ R).toArray.toList.take (k * 3) ++ d ++ (a ++ e ++ d ++ R).toArray.toList.drop (k * 3 + d.length)).toArray = W4 := ⟨_, rfl⟩
  rw [hW4]
  have HR4 : Hid (RowIs W4 g cap (a ++ d ++ (e ++ d).drop d.length) R) := by
    show RowIs _ _ _ _ _
    rw [← hW4]
    exact row_set (w := w.drew) HRow.out (k * 3) d (by rw [← HA.out]; exact del_mid a e d R) (by have := HRow.out.2.1; rw [HD.out, this]; omega)
  have HG4 : Hid (w.grownBy W4 (some g)) := by
    show w.grownBy W4 (some g)
    rw [← hW4]; exact grown_then (grown_drew w (some g)) (grown_set _ _ _)
  clear hW4
  have hMN := HMN.out
  have j1 : (M : Int) ≤ (N : Int) := by omega
  have j2 : (N : Int) ≤ (cap : Int) := by omega
  have j3 : ¬ cap = M := by omega
  have j4 : (0 : Int) ≤ (M : Int) := by omega
  have j5 : (M : Int) ≤ (cap : Int) := by omega
  clear hMN
  have E1 := Lib.hid (show ((a ++ d ++ (e ++ d).drop d.length) ++ R).take (M * 3) = a ++ d by rw [show M * 3 = a.length + d.length by rw [HA.out, HD.out]; have := HM.out; omega]; exact del_end1 a e d R)
  have E2 := Lib.hid (show ((a ++ d ++ (e ++ d).drop d.length) ++ R).drop (M * 3 + 3) = R by rw [show M * 3 = a.length + d.length by rw [HA.out, HD.out]; have := HM.out; omega]; exact del_end2 a e d R HE.out)
  have E3 := Lib.hid (show M * 3 + 3 ≤ ((a ++ d ++ (e ++ d).drop d.length) ++ R).length by rw [HR4.out.2.1]; have := HMN.out; omega)
  go_wp2_with (refine clear_abs (.tmp 19) ⟨rfl, rfl⟩ i0 hi hz0 g cap (M * 3) (N - M) (cap - M) (by kernel_rfl) (by have := HMN.out; omega) _ R _ HR4.out E1.out E2.out E3.out ?_; intro W5 HR5 HG5)
  go_ret
  refine ⟨_, rfl, ?_, ?_, rfl⟩
  · show World.ownsRow _ _ _ _ _ _ _
    rw [HDEL.out, HLEN.out, HM.out]
    exact row_owns HR5.out (by rw [List.length_append, HA.out, HD.out]; have := HM.out; omega) (by omega) hBg
  · exact grown_then HG4.out HG5.out

end Go.Proofs.Ytheefhogphlkiaa
