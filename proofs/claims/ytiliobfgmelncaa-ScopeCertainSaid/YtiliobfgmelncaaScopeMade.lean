/- What a right operation makes of what it needs, by the program. (Written by gen/mkmade.py.) -/
import Derived.Test.YtiliobfgmelncaaScopeBrings
import Derived.Deep.DeepCutAuto
namespace Go.Proofs.Ytiliobfgmelncaa
open Go.RowKit Go.Maps

theorem made_ret (tm : Array Value) (W : World) (A : Nat) (f : Int) (v : Bool) (p q : Option Nat) (Q : Ending → World → Prop) (h : tm.getD 6 undef = .pointer (some ⟨A, 0, none⟩)) (hA : Blk W A 35 #[.int .i64 f, .bool v, .map p, .map q]) (hQ : Q (.returned (.agg #[.int .i64 f, .bool v, .map p, .map q])) W) :
    bodyPost Try.prog Try.f18 Q Exit.ret { tmps := tm, defers := [] } W := by
  have q0 : W.cell? ⟨A, 0, none⟩ = some (.int .i64 f) := by rw [blk_cell hA]; rfl
  have q1 : W.cell? ⟨A, 1, none⟩ = some (.bool v) := by rw [blk_cell hA]; rfl
  have q2 : W.cell? ⟨A, 2, none⟩ = some (.map p) := by rw [blk_cell hA]; rfl
  have q3 : W.cell? ⟨A, 3, none⟩ = some (.map q) := by rw [blk_cell hA]; rfl
  have e2 : tm[6]?.getD undef = .pointer (some ⟨A, 0, none⟩) := by rw [← Array.getD_eq_getD_getElem?]; exact h
  refine bodyPost_ret (v := .agg #[.int .i64 f, .bool v, .map p, .map q]) (by simp [results, Try.results18, e2, q0, q1, q2, q3, go_sem]) rfl hQ
theorem OpBox.row {w wr : World} {o : OpL} {A : OpS} {Z : Nat} {cs : Array Value} (h : OpBox w o A wr) (hz : w.heap.size < Z) : OpBox w o A (wr.setRow Z cs) := by
  have hg := kSet wr Z cs
  have hb : Below (w.heap.size + 1) wr (wr.setRow Z cs) := ⟨hg.os, hg.tape, hg.output, hg.size, fun k hk => hg.block k (Nat.lt_of_lt_of_le hk h.2.2) (fun e => by have := Option.some.inj e; omega)⟩
  exact ⟨h.1.on hb (Nat.lt_succ_self _), h.2.1.trans (hb.mono (Nat.le_succ _)), Nat.lt_of_lt_of_le h.2.2 hg.size⟩
/- the result's block X, the variable's block Z and what it holds -/
structure AtR (w : World) (X Z : Nat) (r : ResL) (p q : Option Nat) (W : World) : Prop where
  x : w.heap.size ≤ X
  z : w.heap.size ≤ Z
  ne : X ≠ Z
  bx : Blk W X 35 #[.int .i64 0, .bool false, .map none, .map none]
  bz : Blk W Z 35 #[.int .i64 r.f, .bool r.v, .map p, .map q]
  hp : SetA W p r.sc
  hq : SetA W q r.ct
  below : Below w.heap.size w W
theorem AtR.on {w W W' : World} {X Z : Nat} {r : ResL} {p q : Option Nat} (h : AtR w X Z r p q W) (hb : Below W.heap.size W W') : AtR w X Z r p q W' :=
  ⟨h.x, h.z, h.ne, blk_on h.bx hb (blk_lt h.bx), blk_on h.bz hb (blk_lt h.bz), h.hp.on (mapsOn_below hb), h.hq.on (mapsOn_below hb), h.below.trans (hb.mono h.below.size)⟩
theorem blk_else {W : World} {X Z i : Nat} {T : TypeId} {a : Array Value} {v : Value} (h : Blk W X T a) (hne : X ≠ Z) : Blk (W.setCell ⟨Z, i, none⟩ v) X T a := by
  unfold Blk at *
  show (W.heap.modify Z _)[X]? = _
  rw [Array.getElem?_modify, if_neg (fun e => hne e.symm)]; exact h
theorem AtR.set {w W : World} {X Z : Nat} {r : ResL} {p q : Option Nat} (h : AtR w X Z r p q W) (f : Nat) (v : Bool) : AtR w X Z ⟨f, v, r.sc, r.ct⟩ p q ((W.setCell ⟨Z, 0, none⟩ (.int .i64 f)).setCell ⟨Z, 1, none⟩ (.bool v)) := by
  have h0 := blk_set h.bz 0 (.int .i64 f)
  have h1 := blk_set h0 1 (.bool v)
  have hm := (set_maps h.bz 0 (.int .i64 f)).trans (set_maps h0 1 (.bool v))
  exact ⟨h.x, h.z, h.ne, blk_else (blk_else h.bx h.ne) h.ne, h1, h.hp.on hm, h.hq.on hm, (h.below.setCell (p := ⟨Z, 0, none⟩) h.z _).setCell (p := ⟨Z, 1, none⟩) h.z _⟩
theorem atR_new {w W w2 : World} {X Z : Nat} {f : Nat} {v : Bool} {L M : List (List UInt8)} {p q : Option Nat} (hx : w.heap.size ≤ X) (hz : w.heap.size ≤ Z) (hne : X ≠ Z) (hbx : Blk w2 X 35 #[.int .i64 0, .bool false, .map none, .map none]) (hbz : Blk w2 Z 35 #[.int .i64 0, .bool false, .map none, .map none]) (hp : SetA w2 p L) (hq : SetA w2 q M) (hb : Below w.heap.size w w2) (hW : W = w2.setRow Z #[.int .i64 f, .bool v, .map p, .map q]) : AtR w X Z ⟨f, v, L, M⟩ p q W := by
  subst hW
  have hg := kSet w2 Z #[.int .i64 f, .bool v, .map p, .map q]
  exact ⟨hx, hz, hne, kBlk hg hbx hne, kRow hbz _, hp.on (kMaps hg hbz), hq.on (kMaps hg hbz), hb.grown hg hb.size (fun j hj => by cases hj; exact hz)⟩
/- what is reckoned of the first j results -/
def partR (o : OpL) (i : Nat) (N : List ResL) (j : Nat) : ResL := ⟨(N.take j).foldl (fun m x => min m x.f) i, (N.take j).foldl (fun b x => b || x.v) (o.k == 9), scB o false (N.getD 0 noR).sc (N.getD 1 noR).sc, scB o true (N.getD 0 noR).ct (N.getD 1 noR).ct⟩
theorem partR_next {o : OpL} {i : Nat} {N : List ResL} {j : Nat} (h : j < N.length) : partR o i N (j + 1) = ⟨min (partR o i N j).f N[j].f, (partR o i N j).v || N[j].v, (partR o i N j).sc, (partR o i N j).ct⟩ := by
  unfold partR
  rw [List.take_succ_eq_append_getElem h, List.foldl_append, List.foldl_append]; rfl
theorem partR_end {o : OpL} {i : Nat} {N : List ResL} {j : Nat} (h : N.length ≤ j) : partR o i N j = madeR o i N := by unfold partR madeR; rw [List.take_of_length_le h]

set_option maxRecDepth 100000 in
set_option maxHeartbeats 8000000 in
theorem made_calls (o : OpL) (A : OpS) (hr : rightO o = true) (hok : OpOk o) (i : Nat) (N : List ResL) (hN : N.length = ndO o) (hb : ∀ r ∈ N, r.sc.length ≤ 1000000 ∧ r.ct.length ≤ 1000000) (a : Option Addr) (n c : Nat) (w : World) (hin : OpIn w o A) (hv : ResA w a n c N) :
    Calls Try.prog 18 #[o.v A, .int .i64 i, .slice a n c] w (ResT w (madeR o i N)) := by
  have HC := Lib.hid (fun W h1 h2 => brought_calls o A hr hok N hN hb a n c W h1 h2)
  have HIN := Lib.hid hin
  have HV := Lib.hid hv
  have HNL := Lib.hid hv.len
  have hcp := hv.cap
  have hms := hv.most
  unfold maxLen at hms
  have HP := Lib.hid (fun j h => partR_next (o := o) (i := i) (N := N) (j := j) h)
  have HPE := Lib.hid (fun j h => partR_end (o := o) (i := i) (N := N) (j := j) h)
  have HP0 := Lib.hid (show partR o i N 0 = ⟨i, o.k == 9, scB o false (N.getD 0 noR).sc (N.getD 1 noR).sc, scB o true (N.getD 0 noR).ct (N.getD 1 noR).ct⟩ from rfl)
  obtain ⟨L, hL⟩ : ∃ L, scB o false (N.getD 0 noR).sc (N.getD 1 noR).sc = L := ⟨_, rfl⟩
  obtain ⟨M, hM⟩ : ∃ M, scB o true (N.getD 0 noR).ct (N.getD 1 noR).ct = M := ⟨_, rfl⟩
  rw [hL, hM] at HC HP0
  obtain ⟨r, hrr⟩ : ∃ r, madeR o i N = r := ⟨_, rfl⟩
  rw [hrr] at HPE ⊢
  clear hrr
  obtain ⟨PR, hPR⟩ : ∃ PR, partR o i N = PR := ⟨_, rfl⟩
  rw [hPR] at HP HPE HP0
  have HNEW := Lib.hid (fun T => OpBox.new w o A T)
  have HX := Lib.hid (show ∀ W, OpBox w o A W → Op7 W w.heap.size 0 o A from fun W h => h.1)
  clear hin hv hL hM hPR hr hN hb hok
  obtain ⟨pk, pT, pV, pR, pF, pm, ps⟩ := o
  obtain ⟨ta, tn, tc, va, vn, vc, ra, rn, rc, fa, fn, fc⟩ := A
  simp only [OpL.v] at HC ⊢
  simp only [Op7] at HX
  dsimp only at HNEW HX HP0
  go_enter Try.func18, Try.ntmps18
  go_upto_region 1 with fail
  go_cut [7] from 10 (fun s7 wr => ∃ (Z : Nat) (p q : Option Nat), s7 = .pointer (some ⟨Z, 0, none⟩) ∧ Hid (AtR w (w.heap.size + 1) Z (PR 0) p q wr))
  case first =>
    refine kName (fun W hW => ?_)
    have hob : OpBox w ⟨pk, pT, pV, pR, pF, pm, ps⟩ ⟨ta, tn, tc, va, vn, vc, ra, rn, rc, fa, fn, fc⟩ W := by rw [hW]; exact (HNEW.out _).on (box_below _ _)
    have HBX : Hid (Blk W (w.heap.size + 1) 35 #[.int .i64 0, .bool false, .map none, .map none]) := by
      rw [hW]
      have := blk_new (w.alloc (.cells #[.int .i64 pk, .slice ta tn tc, .slice va vn vc, .slice ra rn rc, .slice fa fn fc, .string (bs pm), .bool ps] 50)) 35 #[.int .i64 0, .bool false, .map none, .map none]
      rw [show (w.alloc (.cells #[.int .i64 pk, .slice ta tn tc, .slice va vn vc, .slice ra rn rc, .slice fa fn fc, .string (bs pm), .bool ps] 50)).heap.size = w.heap.size + 1 by simp] at this
      exact Lib.hid this
    have hzW : W.heap.size = w.heap.size + 1 + 1 := by rw [hW]; simp
    clear hW
    obtain ⟨c0, c1, c2, c3, c4, c5, c6⟩ := HX.out _ hob
    have HBW := Lib.hid hob.2.1
    have hlt := hob.2.2
    have HOB := Lib.hid hob
    clear hob
    have HD := Lib.hid (show OpBox w ⟨pk, pT, pV, pR, pF, pm, ps⟩ ⟨ta, tn, tc, va, vn, vc, ra, rn, rc, fa, fn, fc⟩ W.drew from HOB.out.on (Below.refl _ _).drew)
    have HBD := Lib.hid (show Below w.heap.size w W.drew from HBW.out.drew)
    refine wp_region_held_drew (S := (fun WW => WW.cell? ⟨w.heap.size, 0, none⟩ = some (.int .i64 pk) ∧ WW.cell? ⟨w.heap.size, 1, none⟩ = some (.slice ta tn tc) ∧ WW.cell? ⟨w.heap.size, 2, none⟩ = some (.slice va vn vc) ∧ WW.cell? ⟨w.heap.size, 3, none⟩ = some (.slice ra rn rc) ∧ WW.cell? ⟨w.heap.size, 4, none⟩ = some (.slice fa fn fc) ∧ WW.cell? ⟨w.heap.size, 5, none⟩ = some (.string (bs pm)) ∧ WW.cell? ⟨w.heap.size, 6, none⟩ = some (.bool ps))) (by kernel_rfl) ?_ (fun hHeld => ?_)
    · (try dsimp only); exact HX.out _ (HD.out)
    refine wpAnyH_take (i := 0) (oi := ⟨some 10, _, _, _, _, _⟩) (v := ?_) rfl (by kernel_rfl) (by kernel_rfl) (by kernel_rfl) (fun _ _ _ h => h) (Or.inl ⟨by kernel_rfl, ?_⟩) (by assumption) ?_
    rotate_left
    · (intro ww hSw; (try dsimp only at hSw); go_simp); (try with_reducible rfl)
    (try simp only [Act.put, List.setIfInBounds_toArray, List.set_cons_zero, List.set_cons_succ])
    refine wpAnyH_take (i := 1) (oi := ⟨some 11, _, _, _, _, _⟩) (v := ?_) rfl (by kernel_rfl) (by kernel_rfl) (by kernel_rfl) (fun _ _ _ h => h) (Or.inl ⟨by kernel_rfl, ?_⟩) (by assumption) ?_
    rotate_left
    · (intro ww hSw; (try dsimp only at hSw); go_simp); (try with_reducible rfl)
    (try simp only [Act.put, List.setIfInBounds_toArray, List.set_cons_zero, List.set_cons_succ])
    refine wpAnyH_take (i := 2) (oi := ⟨some 12, _, _, _, _, _⟩) (v := ?_) rfl (by kernel_rfl) (by kernel_rfl) (by kernel_rfl) (fun _ _ _ h => h) (Or.inl ⟨by kernel_rfl, ?_⟩) (by assumption) ?_
    rotate_left
    · (intro ww hSw; (try dsimp only at hSw); go_simp); (try with_reducible rfl)
    (try simp only [Act.put, List.setIfInBounds_toArray, List.set_cons_zero, List.set_cons_succ])
    refine wpAnyH_take (i := 3) (oi := ⟨some 13, _, _, _, _, _⟩) (v := ?_) rfl (by kernel_rfl) (by kernel_rfl) (by kernel_rfl) (fun _ _ _ h => h) (Or.inl ⟨by kernel_rfl, ?_⟩) (by assumption) ?_
    rotate_left
    · (intro ww hSw; (try dsimp only at hSw); go_simp); (try with_reducible rfl)
    (try simp only [Act.put, List.setIfInBounds_toArray, List.set_cons_zero, List.set_cons_succ])
    refine wpAnyH_take (i := 4) (oi := ⟨some 14, _, _, _, _, _⟩) (v := ?_) rfl (by kernel_rfl) (by kernel_rfl) (by kernel_rfl) (fun _ _ _ h => h) (Or.inl ⟨by kernel_rfl, ?_⟩) (by assumption) ?_
    rotate_left
    · (intro ww hSw; (try dsimp only at hSw); go_simp); (try with_reducible rfl)
    (try simp only [Act.put, List.setIfInBounds_toArray, List.set_cons_zero, List.set_cons_succ])
    refine wpAnyH_take (i := 5) (oi := ⟨some 15, _, _, _, _, _⟩) (v := ?_) rfl (by kernel_rfl) (by kernel_rfl) (by kernel_rfl) (fun _ _ _ h => h) (Or.inl ⟨by kernel_rfl, ?_⟩) (by assumption) ?_
    rotate_left
    · (intro ww hSw; (try dsimp only at hSw); go_simp); (try with_reducible rfl)
    (try simp only [Act.put, List.setIfInBounds_toArray, List.set_cons_zero, List.set_cons_succ])
    refine wpAnyH_ready (rs := [6, 8]) (by kernel_rfl) (by simp) ?_
    refine AllReadyH.cons rfl (fun K hK => ?_) (AllReadyH.cons rfl (fun K hK => ?_) AllReadyH.nil)
    · go_simp
      refine (HC.out _ (HIN.out.on HBD.out) (HV.out.on HBD.out)).mono ?_
      rintro e w2 ⟨p, q, rfl, hp, hq, hb2⟩
      have HPS := Lib.hid hp
      have HQS := Lib.hid hq
      have HB2 := Lib.hid hb2
      have HO2 := Lib.hid (HD.out.on hb2)
      clear hp hq hb2
      go_wp2_with fail
      refine hK.out _ _ ?_ (fun hHeld => ?_)
      · (try dsimp only); exact HX.out _ HO2.out
      clear hK K
      (try simp only [Act.put, List.setIfInBounds_toArray, List.set_cons_zero, List.set_cons_succ])
      refine wpAnyH_take (i := 7) (oi := ⟨some 17, _, _, _, _, _⟩) (v := ?_) rfl (by kernel_rfl) (by kernel_rfl) (by kernel_rfl) (fun _ _ _ h => h) (Or.inl ⟨by kernel_rfl, ?_⟩) (by assumption) ?_
      rotate_left
      · (intro ww hSw; (try dsimp only at hSw); go_simp); (try with_reducible rfl)
      (try simp only [Act.put, List.setIfInBounds_toArray, List.set_cons_zero, List.set_cons_succ])
      have HO3 := Lib.hid (HO2.out.on (box_below w2 (.cells #[.int .i64 0, .bool false, .map none, .map none] 35)))
      refine wpAnyH_ready (rs := [8]) (by kernel_rfl) (by simp) ?_
      refine AllReadyH.cons rfl (fun K hK => ?_) AllReadyH.nil
      go_simp
      refine hK.out _ _ ?_ (fun hHeld => ?_)
      · (try dsimp only); exact HX.out _ HO3.out
      clear hK K
      (try simp only [Act.put, List.setIfInBounds_toArray, List.set_cons_zero, List.set_cons_succ])
      have BZ := Lib.hid (blk_new w2 35 #[.int .i64 0, .bool false, .map none, .map none])
      have hz2 : w.heap.size + 1 < w2.heap.size := by have h1 := HB2.out.size; have h2 : W.drew.heap.size = W.heap.size := rfl; omega
      have BX := Lib.hid (blk_alloc (blk_on HBX.out (((Below.refl W.heap.size W).drew).trans HB2.out) (by omega)) (.cells #[.int .i64 0, .bool false, .map none, .map none] 35))
      have hm3 := mapsOn_below (box_below w2 (.cells #[.int .i64 0, .bool false, .map none, .map none] 35))
      have AR3 := atR_new (w := w) (X := w.heap.size + 1) (Z := w2.heap.size) (f := i) (v := pk == 9) (by omega) (by omega) (by omega) BX.out BZ.out (HPS.out.on hm3) (HQS.out.on hm3) ((HBD.out.trans (HB2.out.mono HBD.out.size)).alloc (by omega) _) rfl
      have OB3 : OpBox w ⟨pk, pT, pV, pR, pF, pm, ps⟩ ⟨ta, tn, tc, va, vn, vc, ra, rn, rc, fa, fn, fc⟩ ((w2.alloc (.cells #[.int .i64 0, .bool false, .map none, .map none] 35)).setRow w2.heap.size #[.int .i64 i, .bool (pk == 9), .map p, .map q]) := HO3.out.row (by omega)
      refine wpAnyH_ready (rs := [9]) (by kernel_rfl) (by simp) ?_
      refine AllReadyH.cons rfl (fun K hK => ?_) AllReadyH.nil
      refine wp_store_row 35 (.tmp 7) (.tmp 17) rfl w2.heap.size #[.int .i64 i, .bool (pk == 9), .map p, .map q] rfl rfl 35 #[.int .i64 0, .bool false, .map none, .map none] BZ.out (by kernel_rfl) rfl (by kernel_rfl) ?_
      refine hK.out _ _ ?_ (fun hHeld => ?_)
      · (try dsimp only); exact HX.out _ OB3
      clear hK K
      (try simp only [Act.put])
      refine wpAnyH_done (by kernel_rfl) ?_ _
      go_wp2_with fail
      go_meet
      case rel => exact ⟨_, p, q, rfl, Lib.hid (by rw [HP0.out]; exact AR3)⟩
    · go_simp
      have HO1 := Lib.hid (HD.out.on (box_below W.drew (.cells #[.int .i64 0, .bool false, .map none, .map none] 35)))
      have HB1 := Lib.hid (show Below w.heap.size w (W.drew.alloc (.cells #[.int .i64 0, .bool false, .map none, .map none] 35)) from HBD.out.alloc (by have h2 : W.drew.heap.size = W.heap.size := rfl; omega) _)
      refine hK.out _ _ ?_ (fun hHeld => ?_)
      · (try dsimp only); exact HX.out _ HO1.out
      clear hK K
      (try simp only [Act.put, List.setIfInBounds_toArray, List.set_cons_zero, List.set_cons_succ])
      refine wpAnyH_ready (rs := [6]) (by kernel_rfl) (by simp) ?_
      refine AllReadyH.cons rfl (fun K hK => ?_) AllReadyH.nil
      go_simp
      refine (HC.out _ (HIN.out.on HB1.out) (HV.out.on HB1.out)).mono ?_
      rintro e w2 ⟨p, q, rfl, hp, hq, hb2⟩
      have HPS := Lib.hid hp
      have HQS := Lib.hid hq
      have HB2 := Lib.hid hb2
      have HO2 := Lib.hid (HO1.out.on hb2)
      clear hp hq hb2
      go_wp2_with fail
      refine hK.out _ _ ?_ (fun hHeld => ?_)
      · (try dsimp only); exact HX.out _ HO2.out
      clear hK K
      (try simp only [Act.put, List.setIfInBounds_toArray, List.set_cons_zero, List.set_cons_succ])
      refine wpAnyH_take (i := 7) (oi := ⟨some 17, _, _, _, _, _⟩) (v := ?_) rfl (by kernel_rfl) (by kernel_rfl) (by kernel_rfl) (fun _ _ _ h => h) (Or.inl ⟨by kernel_rfl, ?_⟩) (by assumption) ?_
      rotate_left
      · (intro ww hSw; (try dsimp only at hSw); go_simp); (try with_reducible rfl)
      (try simp only [Act.put, List.setIfInBounds_toArray, List.set_cons_zero, List.set_cons_succ])
      have BZ := Lib.hid (blk_on (blk_new W.drew 35 #[.int .i64 0, .bool false, .map none, .map none]) HB2.out (by simp))
      have BX := Lib.hid (blk_on (blk_alloc (show Blk W.drew (w.heap.size + 1) 35 #[.int .i64 0, .bool false, .map none, .map none] from HBX.out) (.cells #[.int .i64 0, .bool false, .map none, .map none] 35)) HB2.out (by simp; have h2 : W.drew.heap.size = W.heap.size := rfl; omega))
      have hzz : W.drew.heap.size = w.heap.size + 1 + 1 := hzW
      rw [hzz] at BZ
      have AR3 := atR_new (w := w) (X := w.heap.size + 1) (Z := w.heap.size + 1 + 1) (f := i) (v := pk == 9) (by omega) (by omega) (by omega) BX.out BZ.out HPS.out HQS.out (HB1.out.trans (HB2.out.mono HB1.out.size)) rfl
      have OB3 : OpBox w ⟨pk, pT, pV, pR, pF, pm, ps⟩ ⟨ta, tn, tc, va, vn, vc, ra, rn, rc, fa, fn, fc⟩ (w2.setRow (w.heap.size + 1 + 1) #[.int .i64 i, .bool (pk == 9), .map p, .map q]) := HO2.out.row (by omega)
      refine wpAnyH_ready (rs := [9]) (by kernel_rfl) (by simp) ?_
      refine AllReadyH.cons rfl (fun K hK => ?_) AllReadyH.nil
      refine wp_store_row 35 (.tmp 7) (.tmp 17) rfl (w.heap.size + 1 + 1) #[.int .i64 i, .bool (pk == 9), .map p, .map q] rfl rfl 35 #[.int .i64 0, .bool false, .map none, .map none] BZ.out (by kernel_rfl) rfl (by kernel_rfl) ?_
      refine hK.out _ _ ?_ (fun hHeld => ?_)
      · (try dsimp only); exact HX.out _ OB3
      clear hK K
      (try simp only [Act.put])
      refine wpAnyH_done (by kernel_rfl) ?_ _
      go_wp2_with fail
      go_meet
      case rel => exact ⟨_, p, q, rfl, Lib.hid (by rw [HP0.out]; exact AR3)⟩
  case rest =>
    obtain ⟨Z, p, q, rfl, HA⟩ := hcut
    have HW0 := Lib.hid HA.out.below
    obtain ⟨X, hX⟩ : ∃ X, w.heap.size + 1 = X := ⟨_, rfl⟩
    rw [hX] at HA ⊢
    clear hX
    go_wp2
    go_loopg [20] n (fun g2 j wr => ∃ k : Nat, j = .int .i64 k ∧ k + g2 = n ∧ Hid (AtR w X Z (PR k) p q wr))
    case atStart => exact ⟨0, rfl, by omega, HA⟩
    case round =>
      obtain ⟨W1, rfl⟩ : ∃ W1, W1 = wr := ⟨_, rfl⟩
      obtain ⟨k, rfl, hkg, HR⟩ := hrel
      by_cases hk : k < n
      · obtain ⟨gg, rfl⟩ : ∃ gg, gk = gg + 1 := ⟨gk - 1, by omega⟩
        have hkL : k < N.length := by rw [HNL.out]; exact hk
        obtain ⟨g, o, ha, hgw, hcells⟩ := HV.out.cells (by omega)
        subst ha
        obtain ⟨pp, qq, d0, d1, d2, d3, _, _⟩ := hcells k hkL
        have hbw := HR.out.below
        have e0 := (hbw.cell (p := ⟨g, o + k * 4, none⟩) hgw).trans d0
        have e1 := (hbw.cell (p := ⟨g, o + k * 4 + 1, none⟩) hgw).trans d1
        have e2 := (hbw.cell (p := ⟨g, o + k * 4 + 2, none⟩) hgw).trans d2
        have e3 := (hbw.cell (p := ⟨g, o + k * 4 + 3, none⟩) hgw).trans d3
        have hgW : g < W1.heap.size := Nat.lt_of_lt_of_le hgw hbw.size
        have HNX := Lib.hid (HP.out k hkL)
        clear hcells d0 d1 d2 d3 hbw
        generalize N[k].f = nf at e0 HNX
        generalize N[k].v = nv at e1 HNX
        have HS := Lib.hid (fun f v (ob : Obj) => (HR.out.set f v).on (box_below _ ob))
        obtain ⟨f, hf⟩ : ∃ f, (PR k).f = f := ⟨_, rfl⟩
        obtain ⟨v, hvv⟩ : ∃ v, (PR k).v = v := ⟨_, rfl⟩
        have bz := HR.out.bz
        rw [hf, hvv] at bz
        rw [hf, hvv] at HNX
        have z0 : W1.cell? ⟨Z, 0, none⟩ = some (.int .i64 (f : Int)) := by rw [blk_cell bz]; rfl
        have z1 : W1.cell? ⟨Z, 1, none⟩ = some (.bool v) := by rw [blk_cell bz]; rfl
        have fz0 : W1.frozen? ⟨Z, 0, none⟩ = false := blk_free bz 0
        have fz1 : W1.frozen? ⟨Z, 1, none⟩ = false := blk_free bz 1
        have hZ : Z < W1.heap.size := blk_lt bz
        have hZn : ¬ Z = W1.heap.size := by omega
        have hmin : (min (f : Int) (nf : Int)) = ((min f nf : Nat) : Int) := by omega
        have HM := Lib.hid hmin
        have k0 : (0 : Int) ≤ (k : Int) := by omega
        have k1 : (k : Int) < (n : Int) := by omega
        clear hf hvv bz hmin
        cases v with
        | true =>
          go_wp2
          go_roundg gg
          case measure => omega
          case rel => exact ⟨k + 1, by go_num, by omega, Lib.hid (by rw [HNX.out, HM.out]; exact HS.out _ _ _)⟩
        | false =>
          go_wp2
          go_roundg gg
          case measure => omega
          case rel => exact ⟨k + 1, by go_num, by omega, Lib.hid (by rw [HNX.out, HM.out, Bool.false_or]; exact HS.out _ _ _)⟩
      · have k1 : ¬ (k : Int) < (n : Int) := by omega
        have HE := Lib.hid (HPE.out k (by rw [HNL.out]; omega))
        rw [HE.out] at HR
        have bz := HR.out.bz
        have bx := HR.out.bx
        have z0 : W1.cell? ⟨Z, 0, none⟩ = some (.int .i64 (r.f : Int)) := by rw [blk_cell bz]; rfl
        have z1 : W1.cell? ⟨Z, 1, none⟩ = some (.bool r.v) := by rw [blk_cell bz]; rfl
        have z2 : W1.cell? ⟨Z, 2, none⟩ = some (.map p) := by rw [blk_cell bz]; rfl
        have z3 : W1.cell? ⟨Z, 3, none⟩ = some (.map q) := by rw [blk_cell bz]; rfl
        clear bz
        go_wp2_with (refine kWhole 35 (.tmp 6) (.tmp 38) ⟨rfl, rfl⟩ X #[.int .i64 r.f, .bool r.v, .map p, .map q] (by kernel_rfl) (by kernel_rfl) 35 #[.int .i64 0, .bool false, .map none, .map none] bx (by kernel_rfl) rfl (by kernel_rfl) ?_; intro w4 hA4 hG4)
        have hm := kMaps hG4.out bx
        refine made_ret _ _ X r.f r.v p q _ (by first | rfl | simp) hA4.out ⟨p, q, rfl, HR.out.hp.on hm, HR.out.hq.on hm, HR.out.below.grown hG4.out HR.out.below.size (fun j hj => by cases hj; exact HR.out.x)⟩

end Go.Proofs.Ytiliobfgmelncaa
