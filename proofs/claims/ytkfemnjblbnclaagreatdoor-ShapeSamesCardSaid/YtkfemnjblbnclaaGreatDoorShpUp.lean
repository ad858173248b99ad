/- The order of values, draws counted: package shape's compareValues and what it calls (slices.SortFunc asks that draws only grow more). -/
import Derived.Test.YtkfemnjblbnclaaGreatDoorGVCmp
import Derived.Sort.Grow
namespace Go.Proofs.YtkfemnjblbnclaaGreatDoor.Up
open Go.RowKit

structure Below (B : Nat) (w w' : World) : Prop where
  os : w'.os = w.os
  tape : w'.tape = w.tape
  output : w'.output = w.output
  size : w.heap.size ≤ w'.heap.size
  block : ∀ k, k < B → w'.heap[k]? = w.heap[k]?
  drawn : w.drawn ≤ w'.drawn
theorem Below.plain {B : Nat} {w w' : World} (h : Below B w w') : RowKit.Below B w w' := ⟨h.os, h.tape, h.output, h.size, h.block⟩
theorem Below.refl (B : Nat) (w : World) : Below B w w := ⟨rfl, rfl, rfl, Nat.le_refl _, fun _ _ => rfl, Nat.le_refl _⟩
theorem Below.trans {B : Nat} {a b c : World} (h : Below B a b) (k : Below B b c) : Below B a c :=
  ⟨k.os.trans h.os, k.tape.trans h.tape, k.output.trans h.output, Nat.le_trans h.size k.size, fun i hi => (k.block i hi).trans (h.block i hi), Nat.le_trans h.drawn k.drawn⟩
theorem Below.mono {B B' : Nat} {w w' : World} (h : Below B w w') (hB : B' ≤ B) : Below B' w w' := ⟨h.os, h.tape, h.output, h.size, fun k hk => h.block k (Nat.lt_of_lt_of_le hk hB), h.drawn⟩
theorem Below.drew {B : Nat} {a w : World} (h : Below B a w) : Below B a w.drew := ⟨h.os, h.tape, h.output, h.size, h.block, Nat.le_trans h.drawn (Nat.le_succ _)⟩
theorem Below.alloc {B : Nat} {a w : World} (h : Below B a w) (hB : B ≤ w.heap.size) (o : Obj) : Below B a (w.alloc o) :=
  h.trans ⟨rfl, rfl, rfl, by simp, fun k hk => Below.heap_alloc _ _ _ (by omega), Nat.le_refl _⟩
theorem Below.setCell {B : Nat} {a w : World} (h : Below B a w) {p : Addr} (hp : B ≤ p.block) (u : Value) : Below B a (w.setCell p u) :=
  h.trans ⟨rfl, rfl, rfl, by simp [World.setCell], fun k hk => Below.heap_setCell _ _ _ _ (by omega), Nat.le_refl _⟩
theorem Below.cell {B : Nat} {w w' : World} (h : Below B w w') {p : Addr} (hp : p.block < B) : w'.cell? p = w.cell? p := h.plain.cell hp
theorem Below.grow {w w' : World} (h : Below w.heap.size w w') : ∃ q os', w' = Sort.grow (w.drewN q) os' := by
  refine ⟨w'.drawn - w.drawn, w'.heap.extract w.heap.size w'.heap.size, ?_⟩
  cases w with
  | mk heap tape drawn os output =>
    cases w' with
    | mk heap' tape' drawn' os' output' =>
      obtain ⟨h1, h2, h3, h4, h5, h6⟩ := h
      dsimp only at *
      subst h1; subst h2; subst h3
      have e1 : drawn + (drawn' - drawn) = drawn' := by omega
      have e2 : heap ++ heap'.extract heap.size heap'.size = heap' := by
        apply Array.ext
        · simp; omega
        · intro j hj1 hj2
          by_cases hlt : j < heap.size
          · have := h5 j hlt
            rw [Array.getElem?_eq_getElem hj2, Array.getElem?_eq_getElem hlt] at this
            rw [Array.getElem_append_left hlt]
            exact (Option.some.inj this).symm
          · rw [Array.getElem_append_right (by omega)]
            simp only [Array.getElem_extract]
            congr 1; omega
      show World.mk heap' tape' drawn' os' output' = World.mk (heap ++ heap'.extract heap.size heap'.size) tape' (drawn + (drawn' - drawn)) os' output'
      rw [e1]
      congr 1
      exact e2.symm

theorem box_below (w : World) (o : Obj) : Below w.heap.size w (w.alloc o) := (Below.refl _ _).alloc (Nat.le_refl _) _
theorem two_alloc (w : World) (o o2 : Obj) : Below w.heap.size w ((w.alloc o).alloc o2) := (box_below w o).alloc (by simp) _
theorem from_drew {W W' : World} (h : Below W.drew.heap.size W.drew W') : Below W.heap.size W W' := (Below.refl W.heap.size W).drew.trans h
theorem drewN_below {B : Nat} {a w : World} (h : Below B a w) (n : Nat) : Below B a (w.drewN n) := ⟨h.os, h.tape, h.output, h.size, h.block, Nat.le_trans h.drawn (Nat.le_add_right _ _)⟩
theorem fb2 {B : Nat} {W W' W'' : World} (h : Below B W W') (h' : Below W'.heap.size W' W'') (hB : B ≤ W.heap.size) : Below B W W'' := h.trans (h'.mono (Nat.le_trans hB h.size))
theorem keptC {W W' : World} {B b o : Nat} {v : Value} (h : W.cell? ⟨b, o, none⟩ = some v) (hb : Below B W W') (hp : b < B) : W'.cell? ⟨b, o, none⟩ = some v := by rw [hb.cell (p := ⟨b, o, none⟩) hp]; exact h
theorem bnext {W w1 w2 : World} (h1 : Below W.heap.size W w1) (h2 : Below w1.heap.size w1 w2) : Below W.heap.size W w2 := h1.trans (h2.mono h1.size)
theorem two_gone {w w1 : World} {o o2 : Obj} (h1 : Below ((w.alloc o).alloc o2).heap.size ((w.alloc o).alloc o2) w1) : Below w.heap.size w w1 := ((box_below w o).alloc (by simp) o2).trans (h1.mono (by simp; omega))
theorem boxed2_below {w W : World} {a b c a' b' c' : Value} {t : TypeId} (hB : Below (Nm.boxed2 w t a b c a' b' c').heap.size (Nm.boxed2 w t a b c a' b' c') W) : Below w.heap.size w W :=
  (two_alloc w _ _).trans (hB.mono (by simp [Nm.boxed2]; omega))

set_option maxHeartbeats 400000 in
theorem Compare_calls (k : Int) (x y z : ByteArray) (k' : Int) (x' y' z' : ByteArray) (w : World) :
    Calls Tryz.prog 62 #[.agg #[.int .i64 k, .string x, .string y, .string z], .agg #[.int .i64 k', .string x', .string y', .string z']] w fun e w' => e = .returned (.int .i64 (termCmp k x.data.toList y.data.toList z.data.toList k' x'.data.toList y'.data.toList z'.data.toList)) ∧ Below w.heap.size w w' := by
  go_enter Tryz.func62, Tryz.ntmps62
  go_wp2_with (go_at_call 82; refine (Tryz.strings_Compare _ _ _).mono ?_; rintro e w' ⟨rfl, rfl⟩)
  all_goals go_ret
  · exact ⟨ret_int (by unfold termCmp; rw [if_pos (by assumption)]), two_alloc _ _ _⟩
  · exact ⟨ret_int (by unfold termCmp; rw [if_neg (by omega), if_pos (by assumption)]), two_alloc _ _ _⟩
  · have e := other_of (a := x) (b := x') (by assumption)
    exact ⟨ret_int (by unfold termCmp; rw [if_neg (by omega), if_neg (by omega), if_pos e]), two_alloc _ _ _⟩
  · have e := same_of (a := x) (b := x') (by assumption)
    have e2 := other_of (a := y) (b := y') (by assumption)
    exact ⟨ret_int (by unfold termCmp; rw [if_neg (by omega), if_neg (by omega), if_neg (by omega), if_pos e2]), two_alloc _ _ _⟩
  · have e := same_of (a := x) (b := x') (by assumption)
    have e2 := same_of (a := y) (b := y') (by assumption)
    exact ⟨ret_int (by unfold termCmp; rw [if_neg (by omega), if_neg (by omega), if_neg (by omega), if_neg (by omega)]), two_alloc _ _ _⟩

set_option maxHeartbeats 1000000 in
theorem right_calls (v s : Int) (d : Bool) (w : World) :
    Calls Tryz.prog 79 #[.agg #[.int .i64 v, .int .i64 s, .bool d]] w fun e w' => e = .returned (.bool (Nm.rightZ v s d)) ∧ Below w.heap.size w w' := by
  rcases Nm.right_cases v s d with ⟨hb, hr⟩ | ⟨hb, h1, hr⟩ | ⟨hb, h1, h2, hr⟩ | ⟨hb, h1, h2, hz, hr⟩ | ⟨hb, h1, h2, hs, hd, hr⟩ | ⟨hb, h1, h2, hs, hd, hm, hr⟩ | ⟨hb, h1, h2, hs, hd, hm, hr⟩
  all_goals
    have HB := Lib.hid hb
    have HR := Lib.hid hr
    clear hb hr
    try subst hz
    try subst hd
    go_enter Tryz.func79, Tryz.ntmps79
    go_wp2_with (go_at_call 105; refine (Nm.bounded_calls _ _).mono ?_; rintro e w' ⟨rfl, rfl⟩; rw [HB.out])
    go_ret
    exact ⟨ret_bool (by rw [HR.out]), box_below _ _⟩

set_option maxHeartbeats 400000 in
theorem spread_calls (v : Int) (s : Nat) (d : Bool) (w : World) (hg : Nm.Good w) (hs : s ≤ 4) (h1 : -999999999 ≤ v) (h2 : v ≤ 999999999) :
    Calls Tryz.prog 81 #[.agg #[.int .i64 v, .int .i64 s, .bool d]] w fun e w' => e = .returned (.int .i64 (Nm.amt v s)) ∧ Below w.heap.size w w' := by
  have hc := hg.cell (4 - s) (by omega)
  have hbig := hg.big
  rw [Nm.pow_ten _ (by omega)] at hc
  have hm := Nm.amt_bound v s h1 h2 hs
  have HA := Lib.hid (show Nm.amt v s = v * Nm.ten (4 - s) from rfl)
  unfold Nm.amt at hm
  generalize Nm.ten (4 - s) = T at hc hm HA
  have e1 : IntKind.i64.wrap (4 - (s : Int)) = 4 - (s : Int) := IntWalk.i64_in _ (by omega)
  have e2 : (4 - (s : Int)).toNat = 4 - s := by omega
  have e3 : IntKind.i64.wrap (v * T) = v * T := IntWalk.i64_in _ (by omega)
  have e4 : 0 ≤ 4 - (s : Int) := by omega
  go_enter Tryz.func81, Tryz.ntmps81
  go_wp2
  go_quiet (fail)
  go_wp2
  go_ret
  exact ⟨ret_int (by rw [HA.out]), drewN_below (box_below _ _) _⟩

set_option maxHeartbeats 2000000 in
theorem Compare_right (v : Int) (s : Nat) (d : Bool) (v' : Int) (s' : Nat) (d' : Bool) (w : World) (hg : Nm.Good w) (hr : Nm.rightZ v s d = true) (hr' : Nm.rightZ v' s' d' = true) (hs : s ≤ 4) (h1 : -999999999 ≤ v) (h2 : v ≤ 999999999) (hs' : s' ≤ 4) (h1' : -999999999 ≤ v') (h2' : v' ≤ 999999999) :
    Calls Tryz.prog 61 #[.agg #[.int .i64 v, .int .i64 s, .bool d], .agg #[.int .i64 v', .int .i64 s', .bool d']] w fun e w' => e = .returned (.tuple #[.int .i64 (Nm.cmpI (Nm.amt v s) (Nm.amt v' s')), .int .i64 0]) ∧ Below w.heap.size w w' := by
  have HR := Lib.hid hr
  have HR' := Lib.hid hr'
  have hb := Nm.amt_bound v s h1 h2 hs
  have hb' := Nm.amt_bound v' s' h1' h2' hs'
  have hsp : ∀ W, Nm.Good W → Calls Tryz.prog 81 #[.agg #[.int .i64 v, .int .i64 s, .bool d]] W fun e w' => e = .returned (.int .i64 (Nm.amt v s)) ∧ Below W.heap.size W w' := fun W hW => spread_calls v s d W hW hs h1 h2
  have hsp' : ∀ W, Nm.Good W → Calls Tryz.prog 81 #[.agg #[.int .i64 v', .int .i64 s', .bool d']] W fun e w' => e = .returned (.int .i64 (Nm.amt v' s')) ∧ Below W.heap.size W w' := fun W hW => spread_calls v' s' d' W hW hs' h1' h2'
  have HS := Lib.hid hsp
  have HS' := Lib.hid hsp'
  have HG := Lib.hid hg
  clear hr hr' hsp hsp' hg
  generalize Nm.amt v s = A at hb HS ⊢
  generalize Nm.amt v' s' = B at hb' HS' ⊢
  go_enter Tryz.func61, Tryz.ntmps61
  go_wp2_with fail
  refine (right_calls _ _ _ _).mono ?_
  rintro e w1 ⟨rfl, hb1⟩
  rw [HR.out]
  obtain ⟨hc, hf⟩ := bcell hb1.plain
  have hz : w.heap.size + 1 < w1.heap.size := by have := hb1.size; simp at this; omega
  go_wp2_with fail
  refine (right_calls _ _ _ _).mono ?_
  rintro e w2 ⟨rfl, hb2'⟩
  rw [HR'.out]
  have hb2 := bnext hb1 hb2'
  clear hc hf hz
  obtain ⟨hc, hf⟩ := bcell hb2.plain
  have hz : w.heap.size + 1 < w2.heap.size := by have := hb2.size; simp at this; omega
  go_wp2_with fail
  have hG : Nm.Good w2 := (((HG.out.alloc _).alloc _)).on hb2.plain
  have hB : Below (Nm.boxed2 w 58 (.int .i64 v) (.int .i64 s) (.bool d) (.int .i64 v') (.int .i64 s') (.bool d')).heap.size (Nm.boxed2 w 58 (.int .i64 v) (.int .i64 s) (.bool d) (.int .i64 v') (.int .i64 s') (.bool d')) w2 := hb2
  clear hb1 hb2 hb2' hf hz
  obtain ⟨c0, c1, c2, c3, c4, c5⟩ := Nm.boxes2 hB.plain
  clear hc
  refine wp_region_held_drew (S := (fun W => W.cell? ⟨w.heap.size, 0, none⟩ = some (.int .i64 v) ∧ W.cell? ⟨w.heap.size, 1, none⟩ = some (.int .i64 s) ∧ W.cell? ⟨w.heap.size, 2, none⟩ = some (.bool d) ∧ W.cell? ⟨w.heap.size + 1, 0, none⟩ = some (.int .i64 v') ∧ W.cell? ⟨w.heap.size + 1, 1, none⟩ = some (.int .i64 s') ∧ W.cell? ⟨w.heap.size + 1, 2, none⟩ = some (.bool d'))) (by kernel_rfl) ?_ (fun hHeld => ?_)
  · (try dsimp only); go_keep
  refine wpAnyH_take (i := 0) (v := ?_) rfl (by kernel_rfl) (by kernel_rfl) (by kernel_rfl) (fun _ _ _ h => h) (Or.inl ⟨by rfl, ?_⟩) (by assumption) ?_
  rotate_left
  · (intro ww hSw; (try dsimp only at hSw); go_simp); (try with_reducible rfl)
  (try simp only [Act.put])
  refine wpAnyH_take (i := 2) (v := ?_) rfl (by kernel_rfl) (by kernel_rfl) (by kernel_rfl) (fun _ _ _ h => h) (Or.inl ⟨by rfl, ?_⟩) (by assumption) ?_
  rotate_left
  · (intro ww hSw; (try dsimp only at hSw); go_simp); (try with_reducible rfl)
  (try simp only [Act.put])
  refine wpAnyH_ready (rs := [1]) (by kernel_rfl) (by simp) ?_
  refine AllReadyH.cons rfl (fun K hK => ?_) AllReadyH.nil
  go_simp
  refine (HS.out _ ?_).mono ?_
  · first | exact hG | exact hG.drew
  rintro e wn ⟨rfl, hbn⟩
  (first | replace hG := hG.on hbn.plain | replace hG := hG.drew.on hbn.plain)
  (first | replace hB := bnext hB hbn | replace hB := bnext hB.drew hbn)
  clear hbn c0 c1 c2 c3 c4 c5
  obtain ⟨c0, c1, c2, c3, c4, c5⟩ := Nm.boxes2 hB.plain
  go_wp2_with fail
  refine hK.out _ _ ?_ (fun hHeld => ?_)
  · (try dsimp only); go_keep
  clear hK K
  (try simp only [Act.put, List.setIfInBounds_toArray, List.set_cons_zero, List.set_cons_succ])
  refine wpAnyH_ready (rs := [3]) (by kernel_rfl) (by simp) ?_
  refine AllReadyH.cons rfl (fun K hK => ?_) AllReadyH.nil
  go_simp
  refine (HS'.out _ ?_).mono ?_
  · first | exact hG | exact hG.drew
  rintro e wn ⟨rfl, hbn⟩
  (first | replace hG := hG.on hbn.plain | replace hG := hG.drew.on hbn.plain)
  (first | replace hB := bnext hB hbn | replace hB := bnext hB.drew hbn)
  clear hbn c0 c1 c2 c3 c4 c5
  obtain ⟨c0, c1, c2, c3, c4, c5⟩ := Nm.boxes2 hB.plain
  go_wp2_with fail
  refine hK.out _ _ ?_ (fun hHeld => ?_)
  · (try dsimp only); go_keep
  clear hK K
  (try simp only [Act.put, List.setIfInBounds_toArray, List.set_cons_zero, List.set_cons_succ])
  refine wpAnyH_ready (rs := [4]) (by kernel_rfl) (by simp) ?_
  refine AllReadyH.cons rfl (fun K hK => ?_) AllReadyH.nil
  go_simp
  refine (Nm.cmp_calls _ _ _).mono ?_
  rintro e wq ⟨rfl, hwq⟩
  obtain rfl := hwq.symm
  clear hwq
  go_wp2_with fail
  refine hK.out _ _ ?_ (fun hHeld => ?_)
  · (try dsimp only); go_keep
  clear hK K
  (try simp only [Act.put, List.setIfInBounds_toArray, List.set_cons_zero, List.set_cons_succ])
  refine wpAnyH_take (i := 5) (oi := ⟨some 4, _, _, _, _, _⟩) (v := ?_) rfl (by kernel_rfl) (by kernel_rfl) (by kernel_rfl) (fun _ _ _ h => h) (Or.inl ⟨by rfl, ?_⟩) (by assumption) ?_
  rotate_left
  · (intro ww hSw; (try dsimp only at hSw); go_simp); (try with_reducible rfl)
  (try simp only [Act.put])
  refine wpAnyH_take (i := 6) (oi := ⟨some 5, _, _, _, _, _⟩) (v := ?_) rfl (by kernel_rfl) (by kernel_rfl) (by kernel_rfl) (fun _ _ _ h => h) (Or.inl ⟨by rfl, ?_⟩) (by assumption) ?_
  rotate_left
  · (intro ww hSw; (try dsimp only at hSw); go_simp); (try with_reducible rfl)
  (try simp only [Act.put])
  refine wpAnyH_done (by kernel_rfl) ?_ _
  go_wp2
  go_ret2
  exact ⟨rfl, boxed2_below hB⟩

set_option maxRecDepth 100000 in
set_option maxHeartbeats 4000000 in
theorem vcmp_calls (a b : TermL) (w : World) (hg : GoodN w) :
    Calls Tryz.prog 33 #[valV a, valV b] w fun e w' => e = .returned (.int .i64 (valP a b)) ∧ Below w.heap.size w w' := by
  have HV := Lib.hid (show valP a b = if sortP a ≠ sortP b then cmpZ (sortP a) (sortP b) else if sortP a = 3 ∧ cmpZ (amtP a) (amtP b) ≠ 0 then cmpZ (amtP a) (amtP b) else tcmp a b from rfl)
  have HT := Lib.hid (fun W => Compare_calls a.k (bs a.x) (bs a.y) (bs a.z) b.k (bs b.x) (bs b.y) (bs b.z) W)
  have HTC := Lib.hid (show tcmp a b = termCmp a.k a.x a.y a.z b.k b.x b.y b.z from rfl)
  have HNA := Lib.hid (@num_of a)
  have HNB := Lib.hid (@num_of b)
  have HG := Lib.hid hg
  simp only [bs_data] at HT
  unfold valV
  clear hg
  rw [← HTC.out] at HT
  generalize tcmp a b = tc at HT HV
  generalize valP a b = V at HV ⊢
  generalize sortP a = sa at HV HNA ⊢
  generalize sortP b = sb at HV HNB ⊢
  generalize amtP a = ma at HV HNA
  generalize amtP b = mb at HV HNB
  generalize numP a = na at HNA ⊢
  generalize numP b = nb at HNB ⊢
  obtain ⟨k, x, y, z⟩ := a
  obtain ⟨k', x', y', z'⟩ := b
  dsimp only at HT ⊢
  clear HTC
  obtain ⟨nv, ns, nd⟩ := na
  obtain ⟨nv', ns', nd'⟩ := nb
  dsimp only
  by_cases h0 : sa = sb
  · subst h0
    replace HV := Lib.hid (HV.out.trans (if_neg (fun c => c rfl)))
    have gne : (sa != sa) = false := bne_self_eq_false _
    by_cases h3 : sa = 3
    · obtain ⟨v, j, d, e, hj, l1, l2, hr, hm⟩ := HNA.out h3
      obtain ⟨v', j', d', e', hj', l1', l2', hr', hm'⟩ := HNB.out h3
      simp only [Nm.NumL.mk.injEq] at e e'
      obtain ⟨rfl, rfl, rfl⟩ := e
      obtain ⟨rfl, rfl, rfl⟩ := e'
      have HC := Lib.hid (fun W hW => Compare_right nv j nd nv' j' nd' W hW hr hr' hj l1 l2 hj' l1' l2')
      rw [← hm, ← hm'] at HC
      have g3 : (sa == 3) = true := beq_iff_eq.2 h3
      clear HNA HNB hr hr' hm hm' hj hj' l1 l2 l1' l2'
      obtain ⟨q, hq⟩ : ∃ q, cmpZ ma mb = q := ⟨_, rfl⟩
      rw [cmpI_is, hq] at HC
      rw [hq] at HV
      clear hq
      by_cases hq : q = 0
      · have HE := Lib.hid (HV.out.trans (if_neg (fun c => c.2 hq)))
        have gq : (q != 0) = false := by rw [hq]; rfl
        clear hq h3 HV
        go_enter Tryz.func33, Tryz.ntmps33
        go_wp2_with fail
        refine (HC.out _ (by (repeat (with_reducible (first | exact HG.out | refine Nm.Good.alloc ?_ _))))).mono ?_
        rintro e w1 ⟨rfl, hb1⟩
        obtain ⟨hc, hf⟩ := bcell hb1.plain
        have hz := two_size hb1.plain
        have hz0 : w.heap.size < w1.heap.size := by omega
        have HB1 := Lib.hid (two_gone hb1)
        clear hb1
        go_wp2_with fail
        refine (HT.out _).mono ?_
        rintro e w2 ⟨rfl, hb2⟩
        have HB2 := Lib.hid (bnext HB1.out hb2)
        clear hb2 hc hf hz hz0
        go_wp2
        go_ret
        exact ⟨by rw [HE.out]; rfl, HB2.out⟩
      · have HE := Lib.hid (HV.out.trans (if_pos ⟨h3, hq⟩))
        have gq : (q != 0) = true := bne_iff_ne.2 hq
        clear hq h3 HV HT
        go_enter Tryz.func33, Tryz.ntmps33
        go_wp2_with fail
        refine (HC.out _ (by (repeat (with_reducible (first | exact HG.out | refine Nm.Good.alloc ?_ _))))).mono ?_
        rintro e w1 ⟨rfl, hb1⟩
        have HB1 := Lib.hid (two_gone hb1)
        clear hb1
        go_wp2
        go_ret
        exact ⟨by rw [HE.out]; rfl, HB1.out⟩
    · have HE := Lib.hid (HV.out.trans (if_neg (fun c => h3 c.1)))
      have g3 : (sa == 3) = false := beq_eq_false_iff_ne.2 h3
      clear h3 HV HNA HNB
      go_enter Tryz.func33, Tryz.ntmps33
      go_wp2_with fail
      refine (HT.out _).mono ?_
      rintro e w1 ⟨rfl, hb1⟩
      have HB1 := Lib.hid (two_gone hb1)
      clear hb1
      go_wp2
      go_ret
      exact ⟨by rw [HE.out]; rfl, HB1.out⟩
  · have HE := Lib.hid (HV.out.trans (if_pos h0))
    have gne : (sa != sb) = true := bne_iff_ne.2 h0
    clear h0 HV HNA HNB HT
    have HC := Lib.hid (fun W => Tryz.cmp_Compare_int sa sb W)
    rw [compareInt_is] at HC
    generalize cmpZ sa sb = q at HC HE
    go_enter Tryz.func33, Tryz.ntmps33
    go_wp2_with fail
    refine (HC.out _).mono ?_
    rintro e w1 ⟨rfl, hw⟩
    obtain rfl := hw.symm
    clear hw
    go_wp2
    go_ret
    exact ⟨by rw [HE.out]; rfl, (box_below _ _).alloc (by simp) _⟩


end Go.Proofs.YtkfemnjblbnclaaGreatDoor.Up
