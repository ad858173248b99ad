/- Lines put in order: package slices' SortFunc with the closure of shape.Order. -/
import Derived.Test.YtkfemnjblbnclaaGreatDoorShpLineOf
import Derived.Test.YtkfemnjblbnclaaGreatDoorShelfB
namespace Go.Proofs.YtkfemnjblbnclaaGreatDoor
open Go.RowKit Go.Sort

/- a line that reads as a row with its values, whatever is written into block blk -/
structure Ln (w : World) (blk n : Nat) where
  r : RowL
  ra : Option Addr
  rc : Nat
  va : Option Addr
  vc : Nat
  val : ValK (fun i => i ≠ blk) w va n vc r
  trm : TrmK (fun i => i ≠ blk) w ra n rc r
def Ln.enc {w : World} {blk n : Nat} (x : Ln w blk n) : List Value := [.slice x.ra n x.rc, .slice x.va n x.vc]
def encL {w : World} {blk n : Nat} (D : List (Ln w blk n)) : List Value := D.flatMap Ln.enc
theorem encL_cons {w : World} {blk n : Nat} (x : Ln w blk n) (D : List (Ln w blk n)) : encL (x :: D) = x.enc ++ encL D := by unfold encL; exact List.flatMap_cons
theorem encL_length {w : World} {blk n : Nat} (D : List (Ln w blk n)) : (encL D).length = D.length * 2 := by
  induction D with
  | nil => rfl
  | cons x r ih => rw [encL_cons, List.length_append, ih, List.length_cons]; show 2 + _ = _; omega
theorem encL_at {w : World} {blk n : Nat} : ∀ (D : List (Ln w blk n)) (k : Nat) (hk : k < D.length) (i : Nat), i < 2 → (encL D)[k * 2 + i]? = D[k].enc[i]? := by
  intro D
  induction D with
  | nil => intro k hk; simp at hk
  | cons x r ih =>
    intro k hk i hi
    rw [encL_cons]
    have e : x.enc.length = 2 := rfl
    cases k with
    | zero => rw [List.getElem?_append_left (by omega)]; simp
    | succ k =>
      rw [List.getElem?_append_right (by omega), show (k + 1) * 2 + i - x.enc.length = k * 2 + i by omega]
      exact ih k (by simpa using hk) i hi
theorem flat_lines {w : World} {blk n : Nat} [Inhabited (Ln w blk n)] (D : List (Ln w blk n)) : flatK Ln.enc 2 D.toArray = (encL D).toArray := by
  apply Array.ext
  · rw [size_flatK, List.size_toArray, List.size_toArray, encL_length]
  · intro t h1 h2
    rw [size_flatK, List.size_toArray] at h1
    have hk : t / 2 < D.length := by omega
    have e := encL_at D (t / 2) hk (t % 2) (Nat.mod_lt _ (by omega))
    rw [show t / 2 * 2 + t % 2 = t by omega] at e
    have e2 := get_flatK Ln.enc 2 D.toArray t (by rw [List.size_toArray]; exact h1)
    rw [getElem!_pos (flatK Ln.enc 2 D.toArray) t (by rw [size_flatK, List.size_toArray]; exact h1)] at e2
    rw [e2]
    have e3 : D.toArray[t / 2]! = D[t / 2] := by rw [getElem!_pos D.toArray (t / 2) (by simpa using hk)]; simp
    rw [e3]
    rw [List.size_toArray] at h2
    rw [List.getElem?_eq_getElem h2] at e
    have hl : t % 2 < (D[t / 2]).enc.length := Nat.mod_lt _ (by omega)
    rw [List.getElem?_eq_getElem hl] at e
    rw [getElem!_pos (D[t / 2]).enc (t % 2) hl]
    simpa using (Option.some.inj e).symm
/- the lines out of a block's cells -/
theorem lines_of {w : World} {blk n : Nat} {cs : List Value} {R : List RowL} (hl : cs.length = R.length * 2) (h : ∀ j (hj : j < R.length), ∃ x : Ln w blk n, x.r = R[j] ∧ cs[j * 2]? = some (.slice x.ra n x.rc) ∧ cs[j * 2 + 1]? = some (.slice x.va n x.vc)) : ∃ D : List (Ln w blk n), D.map (·.r) = R ∧ encL D = cs := by
  have H : ∀ k, k ≤ R.length → ∃ D : List (Ln w blk n), D.map (·.r) = R.take k ∧ encL D = cs.take (k * 2) := by
    intro k
    induction k with
    | zero => intro _; exact ⟨[], by simp, by simp [encL]⟩
    | succ k ih =>
      intro hk
      obtain ⟨D, h1, h2⟩ := ih (by omega)
      obtain ⟨x, e1, e2, e3⟩ := h k (by omega)
      refine ⟨D ++ [x], by rw [List.map_append, h1, List.take_succ_eq_append_getElem (by omega), ← e1]; rfl, ?_⟩
      have e4 : encL (D ++ [x]) = encL D ++ x.enc := by unfold encL; rw [List.flatMap_append]; simp
      have hk0 : k * 2 < cs.length := by omega
      have hk1 : k * 2 + 1 < cs.length := by omega
      rw [List.getElem?_eq_getElem hk0] at e2
      rw [List.getElem?_eq_getElem hk1] at e3
      rw [e4, h2, show (k + 1) * 2 = k * 2 + 1 + 1 by omega, List.take_succ_eq_append_getElem hk1, List.take_succ_eq_append_getElem hk0, Option.some.inj e2, Option.some.inj e3, List.append_assoc]
      rfl
  obtain ⟨D, h1, h2⟩ := H R.length (Nat.le_refl _)
  exact ⟨D, by rw [h1, List.take_length], by rw [h2, ← hl, List.take_length]⟩

/- a block that is known whole, rewritten -/
theorem blk_put {w : World} {g : Nat} {T : TypeId} {xs ys : List Value} (h : Blk w g T xs.toArray) (hl : ys.length = xs.length) (q : Nat) (os : Array Obj) : Blk (Sort.grow (putRow id (Sort.ahead w q) g 0 ys.toArray) os) g T ys.toArray := by
  unfold Blk at *
  have hlt := (Array.getElem?_eq_some_iff.1 h).1
  have e : (putRow id (Sort.ahead w q) g 0 ys.toArray).heap[g]? = some (.cells (putCells id 0 ys.toArray xs.toArray) T (0, 0)) := by
    simp [putRow, mapBlock, Sort.ahead, Array.getElem?_modify, h, onCells]
  have e2 : putCells id 0 ys.toArray xs.toArray = ys.toArray := by
    apply Array.ext
    · simp [putCells, hl]
    · intro j h1 h2
      simp only [putCells, Array.getElem_mapIdx]
      rw [if_pos (by simp at h2 ⊢; exact h2)]
      rw [getElem!_pos ys.toArray (j - 0) (by simpa using h2)]
      simp
  rw [e2] at e
  show (_ ++ os)[g]? = _
  rw [Array.getElem?_append_left (Array.getElem?_eq_some_iff.1 e).1]
  exact e
theorem put_other (w : World) (q g : Nat) (ys : Array Value) (k : Nat) (hk : k ≠ g) : (putRow id (Sort.ahead w q) g 0 ys).heap[k]? = w.heap[k]? := by
  have : ¬ g = k := fun e => hk e.symm
  simp [putRow, mapBlock, Sort.ahead, Array.getElem?_modify, this]
theorem put_grown (w : World) (g : Nat) (ys : Array Value) (q : Nat) (os : Array Obj) : w.grownBy (Sort.grow (putRow id (Sort.ahead w q) g 0 ys) os) (some g) := by
  have hs : (putRow id (Sort.ahead w q) g 0 ys).heap.size = w.heap.size := by simp [putRow, mapBlock, Sort.ahead]
  refine ⟨rfl, rfl, rfl, ?_, fun k hk hne => ?_⟩
  · show w.heap.size ≤ (_ ++ os).size
    rw [Array.size_append, hs]; omega
  · show (_ ++ os)[k]? = _
    rw [Array.getElem?_append_left (by rw [hs]; exact hk)]
    exact put_other w q g _ k (fun e => hne (by rw [e]))

/- what the closure needs of a world -/
structure CloR (w : World) (blk rb : Nat) (a : Option Addr) (m c : Nat) (L : List (Nat × Bool)) : Prop where
  good : Nm.Good w
  big : blk ≠ 0 ∧ blk ≠ 2
  cell : w.cell? ⟨rb, 0, none⟩ = some (.slice a m c)
  lt : rb < w.heap.size
  ne : rb ≠ blk
  ranks : RankK (fun i => i ≠ blk) w a m c L
theorem CloR.on {w w' : World} {blk rb : Nat} {a : Option Addr} {m c : Nat} {L : List (Nat × Bool)} (h : CloR w blk rb a m c L) (hs : Stay (fun i => i ≠ blk) w w') : CloR w' blk rb a m c L :=
  ⟨good_stay h.good hs (Ne.symm h.big.1) (Ne.symm h.big.2), h.big, (cell_same (hs.block rb h.lt h.ne) 0).trans h.cell, Nat.lt_of_lt_of_le h.lt hs.size, h.ne, h.ranks.on hs⟩

set_option maxRecDepth 100000 in
set_option maxHeartbeats 4000000 in
theorem closure_calls {w : World} {blk n : Nat} (x y : Ln w blk n) (L : List (Nat × Bool)) (hL : ∀ p ∈ L, p.1 < n) (rb : Nat) (a : Option Addr) (m c : Nat) (W : World) (hs : Stay (fun i => i ≠ blk) w W) (h : CloR W blk rb a m c L) :
    Calls Tryz.prog 51 #[.agg #[.slice x.ra n x.rc, .slice x.va n x.vc], .agg #[.slice y.ra n y.rc, .slice y.va n y.vc], .pointer (some ⟨rb, 0, none⟩)] W fun e w' => e = .returned (.int .i64 (rowP L x.r y.r)) ∧ Up.Below W.heap.size W w' := by
  have HC := Lib.hid (fun W2 (hb : Up.Below W.heap.size W W2) => Up.lines_calls x.r y.r L n hL x.ra n x.rc x.va x.vc y.ra n y.rc y.va y.vc a m c W2 (h.good.on hb.plain) ((x.val.on hs).mono (fun _ _ _ => trivial) |>.on (stay_below hb.plain)) ((y.val.on hs).mono (fun _ _ _ => trivial) |>.on (stay_below hb.plain)) (⟨h.ranks.len, h.ranks.cap, h.ranks.most, fun h0 => by
    obtain ⟨g, o, e, hg, _, hc⟩ := h.ranks.cells h0
    exact ⟨g, o, e, Nat.lt_of_lt_of_le hg hb.size, trivial, fun j hj => ⟨Up.keptC (hc j hj).1 hb hg, Up.keptC (hc j hj).2 hb hg⟩⟩⟩))
  have c0 := h.cell
  have hlt := h.lt
  have HB := Lib.hid (Up.two_alloc W (.cells #[.slice x.ra n x.rc, .slice x.va n x.vc] 75) (.cells #[.slice y.ra n y.rc, .slice y.va n y.vc] 75))
  clear hs h hL
  generalize rowP L x.r y.r = Z at HC ⊢
  generalize x.ra = xa at HC HB ⊢
  generalize x.rc = xc at HC HB ⊢
  generalize x.va = xb at HC HB ⊢
  generalize x.vc = xd at HC HB ⊢
  generalize y.ra = ya at HC HB ⊢
  generalize y.rc = yc at HC HB ⊢
  generalize y.va = yb at HC HB ⊢
  generalize y.vc = yd at HC HB ⊢
  go_enter Tryz.func51, Tryz.ntmps51
  go_wp2_with fail
  refine (HC.out _ HB.out).mono ?_
  rintro e w1 ⟨rfl, hb1⟩
  have HB1 := Lib.hid (HB.out.trans (hb1.mono HB.out.size))
  clear hb1
  go_wp2
  go_ret
  exact ⟨rfl, HB1.out⟩

theorem swo_rows {w : World} {blk n : Nat} (L : List (Nat × Bool)) : SWO (ltOf fun x y : Ln w blk n => rowP L x.r y.r) where
  irrefl x := by
    unfold ltOf
    exact decide_eq_false (by show ¬ rowP L x.r x.r < 0; rw [rowP_self]; omega)
  trans x y z h1 h2 := by
    unfold ltOf at *
    dsimp only at *
    have a := of_decide_eq_true h1; have b := of_decide_eq_true h2
    refine decide_eq_true (Decidable.byContradiction fun hc => ?_)
    have a2 := rowP_anti L x.r z.r
    have t := rowP_trans L z.r x.r y.r (by omega) (by omega)
    have a3 := rowP_anti L y.r z.r
    omega
  ntrans x y z h1 h2 := by
    unfold ltOf at *
    dsimp only at *
    have a := of_decide_eq_false h1; have b := of_decide_eq_false h2
    refine decide_eq_false fun hc => ?_
    have a1 := rowP_anti L x.r y.r
    have a2 := rowP_anti L y.r z.r
    have a3 := rowP_anti L x.r z.r
    have t := rowP_trans L z.r y.r x.r (by omega) (by omega)
    omega

theorem sortL_calls {w : World} {blk n : Nat} (D : List (Ln w blk n)) (L : List (Nat × Bool)) (hL : ∀ p ∈ L, p.1 < n) (hz : ∀ a ∈ D.map (·.r), ∀ b ∈ D.map (·.r), rowP L a b = 0 → a = b) (rb : Nat) (a : Option Addr) (m c : Nat) (h : CloR w blk rb a m c L) (hb : Blk w blk 75 (encL D).toArray) (hm : D.length ≤ 4096) :
    Calls Tryz.prog 50 #[.slice (some ⟨blk, 0, none⟩) D.length D.length, .func (.func 51) #[] #[.pointer (some ⟨rb, 0, none⟩)]] w fun e w' =>
      e = .returned (.tuple #[]) ∧ w.grownBy w' (some blk) ∧ ∃ E : List (Ln w blk n), E.length = D.length ∧ Blk w' blk 75 (encL E).toArray ∧ E.map (·.r) = orderP (rowP L) (D.map (·.r)) := by
  cases D with
  | nil =>
    have := AnyF.slices_SortFunc_none (P := Tryz.prog) (ρ := Tryz.laysSort_ren) { Tryz.laysSort with } (some ⟨blk, 0, none⟩) 0 (.func (.func 51) #[] #[.pointer (some ⟨rb, 0, none⟩)]) w
    exact this.mono fun e w' ⟨he, hw⟩ => ⟨he, by rw [hw]; exact grown_refl _ _, [], rfl, by rw [hw]; exact hb, rfl⟩
  | cons x0 D0 =>
    obtain ⟨D, hD⟩ : ∃ D, D = x0 :: D0 := ⟨_, rfl⟩
    rw [← hD] at hz hb hm ⊢
    letI : Inhabited (Ln w blk n) := ⟨x0⟩
    have hH : HoldsK Ln.enc 2 w blk 0 D.toArray := by
      unfold HoldsK
      rw [flat_lines]
      intro j hj
      rw [List.size_toArray] at hj
      refine ⟨?_, frozen_of_row w blk _ _ _ hb⟩
      rw [Nat.zero_add, blk_cell hb]
      simp [getElem!_pos, hj]
    have eg : ∀ args w, (callFunc 51 args).run Tryz.prog w = .ok (.enter 51 args) w := enters_of Tryz.func51 (by kernel_rfl) rfl
    have hlay : CmpLays Tryz.prog 51 #[.pointer (some ⟨rb, 0, none⟩)] Ln.enc 2 (fun x y : Ln w blk n => rowP L x.r y.r) blk 0 D.toArray.size w := by
      intro q os dk _ x y
      have hst : Stay (fun i => i ≠ blk) w (sortWorldK Ln.enc 2 w blk 0 q dk os) := by
        have := put_grown w blk (flatK Ln.enc 2 dk) q os
        exact stay_row this
      exact (closure_calls x y L hL rb a m c _ hst (h.on hst)).mono fun _ _ ⟨he, hbl⟩ => ⟨he, hbl.grow⟩
    have hcon := AnyQ.slices_SortFunc (P := Tryz.prog) (α := Ln w blk n) Tryz.laysSort 2 (fun w => by exact Tryz.isAgg75 w) (fun w => by exact Tryz.sizeOf75 w) Ln.enc (fun _ => rfl) (fun x u hu => by simp only [Ln.enc, List.mem_cons, List.not_mem_nil, or_false] at hu; rcases hu with rfl | rfl <;> rfl) (fun x y => rowP L x.r y.r) (swo_rows L) 51 #[.pointer (some ⟨rb, 0, none⟩)] blk 0 D.length D.toArray w eg hlay hH (blk_lt hb) (by rw [List.size_toArray]; omega)
    rw [List.size_toArray] at hcon
    refine Calls.mono hcon fun e w' ⟨he, d', q, os, hp, hso, hw⟩ => ⟨he, ?_, d'.toList, ?_, ?_, ?_⟩
    · rw [hw]
      exact put_grown w blk _ q os
    · have := hp.1
      simpa using this
    · rw [hw]
      unfold sortWorldK putRowK
      have e1 := flat_lines d'.toList
      rw [Array.toArray_toList] at e1
      rw [e1]
      refine blk_put hb ?_ q os
      rw [encL_length, encL_length]
      have := hp.1
      simp at this
      simp [this]
    · have hsz : d'.size = D.length := by simpa using hp.1
      have hperm : d'.toList.Perm D := by
        have := hp.2.2
        rw [show d'.extract 0 D.length = d' by rw [← hsz]; simp, show D.toArray.extract 0 D.length = D.toArray by rw [show D.length = D.toArray.size by simp]; simp] at this
        simpa using this
      refine order_one (rowP_anti L) (rowP_trans L) hz ?_ (hperm.map _)
      refine List.pairwise_iff_getElem.2 (fun i j h1 h2 hij => ?_)
      rw [List.length_map, Array.length_toList] at h1 h2
      have := hso i j (Nat.zero_le _) hij (by omega)
      unfold ltOf at this
      have t := of_decide_eq_false this
      dsimp only at t
      rw [getElem!_pos d' i h1, getElem!_pos d' j h2] at t
      have t2 := rowP_anti L d'[j].r d'[i].r
      simp only [List.getElem_map, Array.getElem_toList]
      omega

end Go.Proofs.YtkfemnjblbnclaaGreatDoor
