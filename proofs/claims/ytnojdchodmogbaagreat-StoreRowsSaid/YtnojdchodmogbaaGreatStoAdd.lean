/- A triple added: package store's Add. -/
import Derived.Test.YtnojdchodmogbaaGreatStoKepts
namespace Go.Proofs.YtnojdchodmogbaaGreat
open Go.RowKit

/- what a call leaves of a store -/
def StP (F : Nat → Prop) (w : World) (B b : Nat) (L : List TripL) (w' : World) : Prop :=
  ∃ v0 v1 v2 l1 l2, Sto w' B b v0 v1 v2 L l1 l2 ∧ Kept F w w' ∧ ∀ k, Foot b v0 v1 v2 k → F k ∨ (w.heap.size ≤ k ∧ k < w'.heap.size)
theorem stp_same {F : Nat → Prop} {w w' : World} {B b : Nat} {v0 v1 v2 : Value} {L l1 l2 : List TripL} (h : Sto w B b v0 v1 v2 L l1 l2) (hF : ∀ k, Foot b v0 v1 v2 k → F k) (hb : Below w.heap.size w w') : StP F w B b L w' :=
  ⟨v0, v1, v2, l1, l2, sto_on h hb (Nat.le_refl _), Kept.of_below hb, fun k hk => .inl (hF k hk)⟩

def AddT (F : Nat → Prop) (B b : Nat) (L : List TripL) (t : TripL) (w : World) (e : Ending) (w' : World) : Prop :=
  e = .returned (.tuple #[.bool (addB L t), .int .i64 (addE L t)]) ∧ StP F w B b (addL L t) w'

/- the world of Add's loop, j lists opened -/
def AddR (w0 : World) (F : Nat → Prop) (B b A X : Nat) (arr : Array Value) (t : TripL) (v0 v1 v2 : Value) (l0 l1 l2 : List TripL) (k0 k1 k2 : Nat) (i : Value) (wr : World) : Prop :=
  ∃ (n : Nat) (u0 u1 u2 : Value), n ≤ 3 ∧ i = .int .i64 n ∧ Turn w0 F B b A X arr t u0 u1 u2 (if 0 < n then insAt l0 k0 t else l0) (if 1 < n then insAt l1 k1 t else l1) (if 2 < n then insAt l2 k2 t else l2) wr ∧ (n = 0 → u0 = v0) ∧ (n ≤ 1 → u1 = v1) ∧ (n ≤ 2 → u2 = v2)
/- what stands all through a round -/
def AddS (A X : Nat) (arr : Array Value) (t : TripL) (W : World) : Prop := Blk W A 71 arr ∧ Box12 W X t
theorem AddS.drew {A X : Nat} {arr : Array Value} {t : TripL} {W : World} (h : AddS A X arr t W) : AddS A X arr t W.drew := h

theorem own_slice {w : World} {B n : Nat} {v : Value} {xs : List Value} (h : w.ownsRow B 29 12 v n xs) : ∃ p n c, v = .slice p n c := by
  rcases h.2 with ⟨hv, _⟩ | ⟨g, cap, cur, hv, _⟩
  · exact ⟨_, _, _, hv⟩
  · exact ⟨_, _, _, hv⟩
theorem grown_undrew {w w' : World} {n : Nat} {row : Option Nat} (h : (w.drewN n).grownBy w' row) : w.grownBy w' row := ⟨h.os, h.tape, h.output, h.size, h.block⟩
theorem grown_undrew1 {w w' : World} {row : Option Nat} (h : w.drew.grownBy w' row) : w.grownBy w' row := ⟨h.os, h.tape, h.output, h.size, h.block⟩
theorem turn_cells {w0 wr : World} {F : Nat → Prop} {B b A X : Nat} {arr : Array Value} {t : TripL} {u0 u1 u2 : Value} {m0 m1 m2 : List TripL} (h : Turn w0 F B b A X arr t u0 u1 u2 m0 m1 m2 wr) :
    wr.cell? ⟨b, 0, none⟩ = some u0 ∧ wr.cell? ⟨b, 1, none⟩ = some u1 ∧ wr.cell? ⟨b, 2, none⟩ = some u2 := by
  rw [blk_cell h.blk, blk_cell h.blk, blk_cell h.blk]; exact ⟨rfl, rfl, rfl⟩
/- all three lists have been opened for a new triple: a store again -/
theorem turn_added {w wr : World} {F : Nat → Prop} {B b A X : Nat} {arr : Array Value} {t : TripL} {u0 u1 u2 v0 v1 v2 : Value} {L l1 l2 : List TripL} {k0 k1 k2 : Nat} (H : Sto w B b v0 v1 v2 L l1 l2) (h : Turn w F B b A X arr t u0 u1 u2 (insAt L k0 t) (insAt l1 k1 t) (insAt l2 k2 t) wr)
    (h0 : Spot 0 L t k0) (h1 : Spot 1 l1 t k1) (h2 : Spot 2 l2 t k2) (ht : tripB t = true) (hok : t.ok) (hin : t ∉ L) (hfull : ¬ 4096 ≤ L.length) : StP F w B b (putL L t) wr := by
  have hin1 : t ∉ l1 := fun c => hin ((H.m1 t).1 c)
  have hin2 : t ∉ l2 := fun c => hin ((H.m2 t).1 c)
  have e0 := insAt_putL H.o0 h0 hin
  refine ⟨u0, u1, u2, insAt l1 k1 t, insAt l2 k2 t, ?_, h.kept, h.foot⟩
  refine { blk := h.blk, low := H.low, r0 := by rw [← e0]; exact h.r0, r1 := h.r1, r2 := h.r2, o0 := ord_putL H.o0 hin, o1 := ord_insAt H.o1 h1 hin1, o2 := ord_insAt H.o2 h2 hin2, m1 := fun x => ?_, m2 := fun x => ?_, n1 := ?_, n2 := ?_, a01 := h.a01, a02 := h.a02, a12 := h.a12, fine := fun x hx => ?_, most := ?_ }
  · rw [mem_insAt, mem_putL, H.m1]
  · rw [mem_insAt, mem_putL, H.m2]
  · rw [length_insAt, length_putL, H.n1]
  · rw [length_insAt, length_putL, H.n2]
  · rcases mem_putL.1 hx with rfl | hx
    · exact ⟨ht, hok⟩
    · exact H.fine x hx
  · rw [length_putL]; omega

set_option maxRecDepth 100000 in
set_option maxHeartbeats 8000000 in
theorem add_calls (F : Nat → Prop) (B b : Nat) (v0 v1 v2 : Value) (L l1 l2 : List TripL) (t : TripL) (w : World) (h : Sto w B b v0 v1 v2 L l1 l2) (hF : ∀ k, Foot b v0 v1 v2 k → F k) (ht : t.ok) :
    Calls Tryz.prog 13 #[.pointer (some ⟨b, 0, none⟩), t.v] w (AddT F B b L t w) := by
  have H := Lib.hid h
  have HF := Lib.hid hF
  have HT := Lib.hid ht
  have hblt := blk_lt h.blk
  have hL := h.most
  clear h hF ht
  simp only [TripL.v]
  cases hq : tripB t with
  | false =>
    have HQ := Lib.hid hq
    clear hq
    go_enter Tryz.func13, Tryz.ntmps13
    go_wp2_with fail
    refine (tCheck_calls t HT.out _).mono ?_
    rintro e w2 ⟨rfl, hb2⟩
    replace hb2 := one_box hb2
    rw [show formZ (tripB t) = 2 by rw [HQ.out]; rfl]
    go_wp2
    go_ret2
    exact ⟨by rw [(addL_form HQ.out).2.1, (addL_form HQ.out).2.2]; rfl, by rw [(addL_form HQ.out).1]; exact stp_same H.out HF.out hb2⟩
  | true =>
    have HQ := Lib.hid hq
    clear hq
    by_cases hin : t ∈ L
    · have HIN := Lib.hid hin
      clear hin
      go_enter Tryz.func13, Tryz.ntmps13
      go_wp2_with fail
      refine (tCheck_calls t HT.out _).mono ?_
      rintro e w2 ⟨rfl, hb2⟩
      have bx := box_on (box12_of (blk_new w 29 (cells12 t))) hb2 (by simp)
      obtain ⟨⟨c0, c1, c2, c3⟩, ⟨c4, c5, c6, c7⟩, ⟨c8, c9, c10, c11⟩⟩ := bx
      replace hb2 := one_box hb2
      rw [show formZ (tripB t) = 0 by rw [HQ.out]; rfl]
      go_wp2_with fail
      refine (find_calls B b v0 v1 v2 L l1 l2 t _ (sto_on H.out hb2 (Nat.le_refl _))).mono ?_
      rintro e w3 ⟨k0, k1, k2, rfl, _, _, _, hb3⟩
      replace hb2 := first_below hb2 hb3
      rw [show decide (t ∈ L) = true from decide_eq_true HIN.out]
      clear hb3
      go_wp2
      go_ret2
      exact ⟨by rw [(addL_there HQ.out HIN.out).2.1, (addL_there HQ.out HIN.out).2.2]; rfl, by rw [(addL_there HQ.out HIN.out).1]; exact stp_same H.out HF.out (by first | exact hb2.alloc hb2.size _ | exact (((hb2.alloc hb2.size _).setCell hb2.size _).setCell hb2.size _).setCell hb2.size _)⟩
    · have HIN := Lib.hid hin
      clear hin
      by_cases hfull : 4096 ≤ L.length
      · have HFU := Lib.hid hfull
        have hle : (4096 : Int) ≤ (L.length : Int) := by omega
        clear hfull
        go_enter Tryz.func13, Tryz.ntmps13
        go_wp2_with fail
        refine (tCheck_calls t HT.out _).mono ?_
        rintro e w2 ⟨rfl, hb2⟩
        have bx := box_on (box12_of (blk_new w 29 (cells12 t))) hb2 (by simp)
        obtain ⟨⟨c0, c1, c2, c3⟩, ⟨c4, c5, c6, c7⟩, ⟨c8, c9, c10, c11⟩⟩ := bx
        replace hb2 := one_box hb2
        rw [show formZ (tripB t) = 0 by rw [HQ.out]; rfl]
        go_wp2_with fail
        refine (find_calls B b v0 v1 v2 L l1 l2 t _ (sto_on H.out hb2 (Nat.le_refl _))).mono ?_
        rintro e w3 ⟨k0, k1, k2, rfl, _, _, _, hb3⟩
        replace hb2 := first_below hb2 hb3
        rw [show decide (t ∈ L) = false from decide_eq_false HIN.out]
        clear hb3 c0 c1 c2 c3 c4 c5 c6 c7 c8 c9 c10 c11
        have HB := Lib.hid hb2
        go_wp2_with fail
        refine (len_calls B b v0 v1 v2 L l1 l2 _ (sto_on H.out (by first | exact hb2.alloc hb2.size _ | exact (((hb2.alloc hb2.size _).setCell hb2.size _).setCell hb2.size _).setCell hb2.size _) (Nat.le_refl _))).mono ?_
        rintro e w4 ⟨rfl, hw4⟩
        replace hb2 : Below w.heap.size w w4 := by rw [hw4]; first | exact hb2.alloc hb2.size _ | exact (((hb2.alloc hb2.size _).setCell hb2.size _).setCell hb2.size _).setCell hb2.size _
        clear hw4
        generalize L.length = N at hle
        go_wp2
        go_ret2
        exact ⟨by rw [(addL_full HQ.out HIN.out HFU.out).2.1, (addL_full HQ.out HIN.out HFU.out).2.2]; rfl, by rw [(addL_full HQ.out HIN.out HFU.out).1]; exact stp_same H.out HF.out hb2⟩
      · have HFU := Lib.hid hfull
        have hle : ¬ (4096 : Int) ≤ (L.length : Int) := by omega
        clear hfull
        go_enter Tryz.func13, Tryz.ntmps13
        go_wp2_with fail
        refine (tCheck_calls t HT.out _).mono ?_
        rintro e w2 ⟨rfl, hb2⟩
        have blk2 := blk_on (blk_new w 29 (cells12 t)) hb2 (by simp)
        obtain ⟨⟨c0, c1, c2, c3⟩, ⟨c4, c5, c6, c7⟩, ⟨c8, c9, c10, c11⟩⟩ := box12_of blk2
        replace hb2 := one_box hb2
        rw [show formZ (tripB t) = 0 by rw [HQ.out]; rfl]
        have BLK2 := Lib.hid blk2
        clear blk2
        go_wp2_with fail
        refine (find_calls B b v0 v1 v2 L l1 l2 t _ (sto_on H.out hb2 (Nat.le_refl _))).mono ?_
        rintro e w3 ⟨k0, k1, k2, rfl, hs0, hs1, hs2, hb3⟩
        have BLK3 := Lib.hid (blk_on BLK2.out hb3 (blk_lt BLK2.out))
        replace hb2 := first_below hb2 hb3
        rw [show decide (t ∈ L) = false from decide_eq_false HIN.out]
        have HS0 := Lib.hid hs0
        have HS1 := Lib.hid hs1
        have HS2 := Lib.hid hs2
        clear hb3 c0 c1 c2 c3 c4 c5 c6 c7 c8 c9 c10 c11 hs0 hs1 hs2
        have hsw := hb2.size
        have hA : Blk (w3.alloc (.cells #[.int .i64 k0, .int .i64 k1, .int .i64 k2] 71)) w3.heap.size 71 #[.int .i64 k0, .int .i64 k1, .int .i64 k2] := blk_new _ _ _
        go_wp2_with fail
        refine (len_calls B b v0 v1 v2 L l1 l2 _ (sto_on H.out (by first | exact hb2.alloc hb2.size _ | exact (((hb2.alloc hb2.size _).setCell hb2.size _).setCell hb2.size _).setCell hb2.size _) (Nat.le_refl _))).mono ?_
        rintro e w4 ⟨rfl, hw4⟩
        obtain ⟨A, hAe⟩ : ∃ A, w3.heap.size = A := ⟨_, rfl⟩
        have tu : Turn w F B b A w.heap.size #[.int .i64 k0, .int .i64 k1, .int .i64 k2] t v0 v1 v2 L l1 l2 w4 := by
          have hb4 : Below w.heap.size w w4 := by rw [hw4]; exact hb2.alloc hb2.size _
          have s4 := sto_on H.out hb4 (Nat.le_refl _)
          refine ⟨s4.blk, s4.r0, s4.r1, s4.r2, s4.a01, s4.a02, s4.a12, ?_, ?_, Kept.of_below hb4, fun k hk => .inl (HF.out k hk), ⟨by omega, by omega⟩, Nat.le_refl _, HF.out b (.inl rfl)⟩
          · rw [hw4, ← hAe]; exact hA
          · rw [hw4]; exact blk_on BLK3.out (box_below _ _) (blk_lt BLK3.out)
        have TU := Lib.hid tu
        clear tu hA hw4 BLK3 hb2 hsw hblt
        simp only [hAe]
        have HAE := Lib.hid hAe
        clear hAe
        obtain ⟨X, hX⟩ : ∃ X, w.heap.size = X := ⟨_, rfl⟩
        rw [hX] at TU
        simp only [hX]
        have HXE := Lib.hid hX
        clear hX
        have hlow := H.out.low
        have hbw := blk_lt H.out.blk
        go_wp2
        go_loopw [27] (fun i wr => AddR w F B b A X #[.int .i64 k0, .int .i64 k1, .int .i64 k2] t v0 v1 v2 L l1 l2 k0 k1 k2 i wr) (fun i _ => 3 - (intOf i).toNat)
        case atStart => exact ⟨0, v0, v1, v2, by omega, rfl, TU.out, fun _ => rfl, fun _ => rfl, fun _ => rfl⟩
        case round =>
          obtain ⟨n, u0, u1, u2, hn, rfl, hT, e0, e1, e2⟩ := hrel
          rcases (by omega : n = 0 ∨ n = 1 ∨ n = 2 ∨ n = 3) with rfl | rfl | rfl | rfl
          · obtain rfl := e0 (by omega)
            obtain rfl := e1 (by omega)
            obtain rfl := e2 (by omega)
            have hT' : Turn w F B b A X #[.int .i64 k0, .int .i64 k1, .int .i64 k2] t u0 u1 u2 (L) (l1) (l2) wr := hT
            have HTT := Lib.hid hT'
            clear hT hT'
            obtain ⟨q0, q1, q2⟩ := turn_cells HTT.out
            have hfz : wr.frozen? ⟨b, 0, none⟩ = false := blk_free HTT.out.blk _
            have hxj : Hid (∀ g, u0.ownBlock = some g → g < w.heap.size) := fun g hg => (H.out.r0.lt g hg).2
            have hwr := HTT.out.kept.size
            go_wp2_with fail
            refine wp_region_held_drew (S := (fun W => AddS A X #[.int .i64 k0, .int .i64 k1, .int .i64 k2] t W)) (by kernel_rfl) ?_ (fun hHeld => ?_)
            · (try dsimp only); first | exact ⟨HTT.out.arrb, box12_of HTT.out.box⟩ | exact AddS.drew ⟨HTT.out.arrb, box12_of HTT.out.box⟩
            refine wpAnyH_take (i := 0) (oi := ⟨some 30, _, _, _, _, _⟩) (v := ?_) rfl (by kernel_rfl) (by kernel_rfl) (by kernel_rfl) (fun _ _ _ h => h) (Or.inl ⟨by kernel_rfl, ?_⟩) (by assumption) ?_
            rotate_left
            · (intro ww hSw; (try dsimp only at hSw); go_simp); (try with_reducible rfl)
            (try simp only [Act.put, List.setIfInBounds_toArray, List.set_cons_zero, List.set_cons_succ])
            refine wpAnyH_take (i := 1) (oi := ⟨some 31, _, _, _, _, _⟩) (v := ?_) rfl (by kernel_rfl) (by kernel_rfl) (by kernel_rfl) (fun _ _ _ h => h) (Or.inl ⟨by kernel_rfl, ?_⟩) (by assumption) ?_
            rotate_left
            · (intro ww hSw; (try dsimp only at hSw); go_simp); (try with_reducible rfl)
            (try simp only [Act.put, List.setIfInBounds_toArray, List.set_cons_zero, List.set_cons_succ])
            refine wpAnyH_take (i := 2) (oi := ⟨some 32, _, _, _, _, _⟩) (v := ?_) rfl (by kernel_rfl) (by kernel_rfl) (by kernel_rfl) (fun _ _ _ h => h) (Or.inl ⟨by kernel_rfl, ?_⟩) (by assumption) ?_
            rotate_left
            · (intro ww hSw; (try dsimp only at hSw); go_simp); (try with_reducible rfl)
            (try simp only [Act.put, List.setIfInBounds_toArray, List.set_cons_zero, List.set_cons_succ])
            refine wpAnyH_take (i := 3) (oi := ⟨some 33, _, _, _, _, _⟩) (v := ?_) rfl (by kernel_rfl) (by kernel_rfl) (by kernel_rfl) (fun _ _ _ h => h) (Or.inl ⟨by kernel_rfl, ?_⟩) (by assumption) ?_
            rotate_left
            · (intro ww hSw; (try dsimp only at hSw); go_simp); (try with_reducible rfl)
            (try simp only [Act.put, List.setIfInBounds_toArray, List.set_cons_zero, List.set_cons_succ])
            refine wpAnyH_take (i := 4) (oi := ⟨some 34, _, _, _, _, _⟩) (v := ?_) rfl (by kernel_rfl) (by kernel_rfl) (by kernel_rfl) (fun _ _ _ h => h) (Or.inl ⟨by kernel_rfl, ?_⟩) (by assumption) ?_
            rotate_left
            · (intro ww hSw; (try dsimp only at hSw); go_simp); (try with_reducible rfl)
            (try simp only [Act.put, List.setIfInBounds_toArray, List.set_cons_zero, List.set_cons_succ])
            refine wpAnyH_take (i := 5) (oi := ⟨some 35, _, _, _, _, _⟩) (v := ?_) rfl (by kernel_rfl) (by kernel_rfl) (by kernel_rfl) (fun _ _ _ h => h) (Or.inl ⟨by kernel_rfl, ?_⟩) (by assumption) ?_
            rotate_left
            · (intro ww hSw; (try dsimp only at hSw); go_simp); (try with_reducible rfl)
            (try simp only [Act.put, List.setIfInBounds_toArray, List.set_cons_zero, List.set_cons_succ])
            refine wpAnyH_take (i := 6) (oi := ⟨some 36, _, _, _, _, _⟩) (v := ?_) rfl (by kernel_rfl) (by kernel_rfl) (by kernel_rfl) (fun _ _ _ h => h) (Or.inl ⟨by kernel_rfl, ?_⟩) (by assumption) ?_
            rotate_left
            · (intro ww hSw; (try dsimp only at hSw); go_simp); (try with_reducible rfl)
            (try simp only [Act.put, List.setIfInBounds_toArray, List.set_cons_zero, List.set_cons_succ])
            refine wpAnyH_take (i := 8) (oi := ⟨some 38, _, _, _, _, _⟩) (v := ?_) rfl (by kernel_rfl) (by kernel_rfl) (by kernel_rfl) (fun _ _ _ h => h) (Or.inl ⟨by kernel_rfl, ?_⟩) (by assumption) ?_
            rotate_left
            · (intro ww hSw; (try dsimp only at hSw); go_simp); (try with_reducible rfl)
            (try simp only [Act.put, List.setIfInBounds_toArray, List.set_cons_zero, List.set_cons_succ])
            refine wpAnyH_take (i := 9) (oi := ⟨some 39, _, _, _, _, _⟩) (v := ?_) rfl (by kernel_rfl) (by kernel_rfl) (by kernel_rfl) (fun _ _ _ h => h) (Or.inl ⟨by kernel_rfl, ?_⟩) (by assumption) ?_
            rotate_left
            · (intro ww hSw; (try dsimp only at hSw); go_simp); (try with_reducible rfl)
            (try simp only [Act.put, List.setIfInBounds_toArray, List.set_cons_zero, List.set_cons_succ])
            refine wpAnyH_take (i := 13) (oi := ⟨some 43, _, _, _, _, _⟩) (v := ?_) rfl (by kernel_rfl) (by kernel_rfl) (by kernel_rfl) (fun _ _ _ h => h) (Or.inl ⟨by kernel_rfl, ?_⟩) (by assumption) ?_
            rotate_left
            · (intro ww hSw; (try dsimp only at hSw); go_simp); (try with_reducible rfl)
            (try simp only [Act.put, List.setIfInBounds_toArray, List.set_cons_zero, List.set_cons_succ])
            refine wpAnyH_take (i := 14) (oi := ⟨some 44, _, _, _, _, _⟩) (v := ?_) rfl (by kernel_rfl) (by kernel_rfl) (by kernel_rfl) (fun _ _ _ h => h) (Or.inl ⟨by kernel_rfl, ?_⟩) (by assumption) ?_
            rotate_left
            · (intro ww hSw; (try dsimp only at hSw); go_simp); (try with_reducible rfl)
            (try simp only [Act.put, List.setIfInBounds_toArray, List.set_cons_zero, List.set_cons_succ])
            refine wpAnyH_take (i := 10) (oi := ⟨some 40, _, _, _, _, _⟩) (v := ?_) rfl (by kernel_rfl) (by kernel_rfl) (by kernel_rfl) (fun _ _ _ h => h) (Or.inl ⟨by kernel_rfl, ?_⟩) (by assumption) ?_
            rotate_left
            · (intro ww hSw; (try dsimp only at hSw); have c0 : ww.cell? ⟨A, 0, none⟩ = some (.int .i64 k0) := (by rw [blk_cell hSw.1]; rfl); go_simp); (try with_reducible rfl)
            (try simp only [Act.put, List.setIfInBounds_toArray, List.set_cons_zero, List.set_cons_succ])
            refine wpAnyH_take (i := 11) (oi := ⟨some 41, _, _, _, _, _⟩) (v := ?_) rfl (by kernel_rfl) (by kernel_rfl) (by kernel_rfl) (fun _ _ _ h => h) (Or.inl ⟨by kernel_rfl, ?_⟩) (by assumption) ?_
            rotate_left
            · (intro ww hSw; (try dsimp only at hSw); obtain ⟨⟨c0, c1, c2, c3⟩, ⟨c4, c5, c6, c7⟩, ⟨c8, c9, c10, c11⟩⟩ := hSw.2; go_simp); (try with_reducible rfl)
            (try simp only [Act.put, List.setIfInBounds_toArray, List.set_cons_zero, List.set_cons_succ])
            refine wpAnyH_ready (rs := [7]) (by kernel_rfl) (by simp) ?_
            refine AllReadyH.cons rfl (fun K hK => ?_) AllReadyH.nil
            go_simp
            refine hK.out _ _ ?_ (fun hHeld => ?_)
            · (try dsimp only); first | exact ⟨HTT.out.arrb, box12_of HTT.out.box⟩ | exact AddS.drew ⟨HTT.out.arrb, box12_of HTT.out.box⟩
            clear hK K
            (try simp only [Act.put, List.setIfInBounds_toArray, List.set_cons_zero, List.set_cons_succ])
            refine wpAnyH_ready (rs := [12]) (by kernel_rfl) (by simp) ?_
            refine AllReadyH.cons rfl (fun K hK => ?_) AllReadyH.nil
            go_simp
            refine (opened_calls L k0 t B u0 _ HS0.out.1 H.out.most (by simp only [World.drew]; omega) (by exact HTT.out.r0)).mono ?_
            rintro e w5 ⟨v', rfl, ho, hg, hat⟩
            obtain ⟨p', n', c', rfl⟩ := own_slice ho
            replace hg : wr.grownBy w5 u0.ownBlock := by first | exact hg | exact grown_undrew1 hg | exact grown_undrew hg
            have ho' : Own w5 B (.slice p' n' c') (insAt L k0 t) := by show World.ownsRow _ _ _ _ _ _ _; rw [length_insAt]; exact ho
            have HO5 := Lib.hid ho'
            have HG5 := Lib.hid hg
            have HAT5 : Hid ((Value.slice p' n' c').ownBlock = u0.ownBlock ∨ ∃ g, (Value.slice p' n' c').ownBlock = some g ∧ wr.heap.size ≤ g) := hat
            have hm := turn_mid0 HTT.out hg hxj.out
            have HM := Lib.hid hm
            clear ho ho' hg hat hm
            go_wp2_with fail
            refine hK.out _ _ ?_ (fun hHeld => ?_)
            · (try dsimp only); first | exact ⟨HM.out.2.1, box12_of HM.out.2.2⟩ | exact AddS.drew ⟨HM.out.2.1, box12_of HM.out.2.2⟩
            clear hK K
            (try simp only [Act.put, List.setIfInBounds_toArray, List.set_cons_zero, List.set_cons_succ])
            refine wpAnyH_take (i := 15) (oi := ⟨some 45, _, _, _, _, _⟩) (v := ?_) rfl (by kernel_rfl) (by kernel_rfl) (by kernel_rfl) (fun _ _ _ h => h) (Or.inl ⟨by kernel_rfl, ?_⟩) (by assumption) ?_
            rotate_left
            · (intro ww hSw; (try dsimp only at hSw); go_simp); (try with_reducible rfl)
            (try simp only [Act.put, List.setIfInBounds_toArray, List.set_cons_zero, List.set_cons_succ])
            have d0 : w5.cell? ⟨b, 0, none⟩ = some u0 := by rw [blk_cell HM.out.1]; rfl
            have d1 : w5.frozen? ⟨b, 0, none⟩ = false := blk_free HM.out.1 _
            have ts := turn_step0 HTT.out HO5.out HG5.out HAT5.out hxj.out
            have TS := Lib.hid ts
            clear ts
            refine wpAnyH_ready (rs := [16]) (by kernel_rfl) (by simp) ?_
            refine AllReadyH.cons rfl (fun K hK => ?_) AllReadyH.nil
            go_simp
            refine hK.out _ _ ?_ (fun hHeld => ?_)
            · (try dsimp only); first | exact ⟨TS.out.arrb, box12_of TS.out.box⟩ | exact AddS.drew ⟨TS.out.arrb, box12_of TS.out.box⟩
            clear hK K
            (try simp only [Act.put, List.setIfInBounds_toArray, List.set_cons_zero, List.set_cons_succ])
            refine wpAnyH_done (by kernel_rfl) ?_ _
            go_wp2
            go_roundw
            case rel => exact ⟨1, .slice p' n' c', u1, u2, by omega, by go_num, TS.out, fun h => by omega, fun _ => rfl, fun _ => rfl⟩
            case measure => simp [intOf]
          · obtain rfl := e1 (by omega)
            obtain rfl := e2 (by omega)
            have hT' : Turn w F B b A X #[.int .i64 k0, .int .i64 k1, .int .i64 k2] t u0 u1 u2 (insAt L k0 t) (l1) (l2) wr := hT
            have HTT := Lib.hid hT'
            clear hT hT'
            obtain ⟨q0, q1, q2⟩ := turn_cells HTT.out
            have hfz : wr.frozen? ⟨b, 1, none⟩ = false := blk_free HTT.out.blk _
            have hxj : Hid (∀ g, u1.ownBlock = some g → g < w.heap.size) := fun g hg => (H.out.r1.lt g hg).2
            have hwr := HTT.out.kept.size
            go_wp2_with fail
            refine wp_region_held_drew (S := (fun W => AddS A X #[.int .i64 k0, .int .i64 k1, .int .i64 k2] t W)) (by kernel_rfl) ?_ (fun hHeld => ?_)
            · (try dsimp only); first | exact ⟨HTT.out.arrb, box12_of HTT.out.box⟩ | exact AddS.drew ⟨HTT.out.arrb, box12_of HTT.out.box⟩
            refine wpAnyH_take (i := 0) (oi := ⟨some 30, _, _, _, _, _⟩) (v := ?_) rfl (by kernel_rfl) (by kernel_rfl) (by kernel_rfl) (fun _ _ _ h => h) (Or.inl ⟨by kernel_rfl, ?_⟩) (by assumption) ?_
            rotate_left
            · (intro ww hSw; (try dsimp only at hSw); go_simp); (try with_reducible rfl)
            (try simp only [Act.put, List.setIfInBounds_toArray, List.set_cons_zero, List.set_cons_succ])
            refine wpAnyH_take (i := 1) (oi := ⟨some 31, _, _, _, _, _⟩) (v := ?_) rfl (by kernel_rfl) (by kernel_rfl) (by kernel_rfl) (fun _ _ _ h => h) (Or.inl ⟨by kernel_rfl, ?_⟩) (by assumption) ?_
            rotate_left
            · (intro ww hSw; (try dsimp only at hSw); go_simp); (try with_reducible rfl)
            (try simp only [Act.put, List.setIfInBounds_toArray, List.set_cons_zero, List.set_cons_succ])
            refine wpAnyH_take (i := 2) (oi := ⟨some 32, _, _, _, _, _⟩) (v := ?_) rfl (by kernel_rfl) (by kernel_rfl) (by kernel_rfl) (fun _ _ _ h => h) (Or.inl ⟨by kernel_rfl, ?_⟩) (by assumption) ?_
            rotate_left
            · (intro ww hSw; (try dsimp only at hSw); go_simp); (try with_reducible rfl)
            (try simp only [Act.put, List.setIfInBounds_toArray, List.set_cons_zero, List.set_cons_succ])
            refine wpAnyH_take (i := 3) (oi := ⟨some 33, _, _, _, _, _⟩) (v := ?_) rfl (by kernel_rfl) (by kernel_rfl) (by kernel_rfl) (fun _ _ _ h => h) (Or.inl ⟨by kernel_rfl, ?_⟩) (by assumption) ?_
            rotate_left
            · (intro ww hSw; (try dsimp only at hSw); go_simp); (try with_reducible rfl)
            (try simp only [Act.put, List.setIfInBounds_toArray, List.set_cons_zero, List.set_cons_succ])
            refine wpAnyH_take (i := 4) (oi := ⟨some 34, _, _, _, _, _⟩) (v := ?_) rfl (by kernel_rfl) (by kernel_rfl) (by kernel_rfl) (fun _ _ _ h => h) (Or.inl ⟨by kernel_rfl, ?_⟩) (by assumption) ?_
            rotate_left
            · (intro ww hSw; (try dsimp only at hSw); go_simp); (try with_reducible rfl)
            (try simp only [Act.put, List.setIfInBounds_toArray, List.set_cons_zero, List.set_cons_succ])
            refine wpAnyH_take (i := 5) (oi := ⟨some 35, _, _, _, _, _⟩) (v := ?_) rfl (by kernel_rfl) (by kernel_rfl) (by kernel_rfl) (fun _ _ _ h => h) (Or.inl ⟨by kernel_rfl, ?_⟩) (by assumption) ?_
            rotate_left
            · (intro ww hSw; (try dsimp only at hSw); go_simp); (try with_reducible rfl)
            (try simp only [Act.put, List.setIfInBounds_toArray, List.set_cons_zero, List.set_cons_succ])
            refine wpAnyH_take (i := 6) (oi := ⟨some 36, _, _, _, _, _⟩) (v := ?_) rfl (by kernel_rfl) (by kernel_rfl) (by kernel_rfl) (fun _ _ _ h => h) (Or.inl ⟨by kernel_rfl, ?_⟩) (by assumption) ?_
            rotate_left
            · (intro ww hSw; (try dsimp only at hSw); go_simp); (try with_reducible rfl)
            (try simp only [Act.put, List.setIfInBounds_toArray, List.set_cons_zero, List.set_cons_succ])
            refine wpAnyH_take (i := 8) (oi := ⟨some 38, _, _, _, _, _⟩) (v := ?_) rfl (by kernel_rfl) (by kernel_rfl) (by kernel_rfl) (fun _ _ _ h => h) (Or.inl ⟨by kernel_rfl, ?_⟩) (by assumption) ?_
            rotate_left
            · (intro ww hSw; (try dsimp only at hSw); go_simp); (try with_reducible rfl)
            (try simp only [Act.put, List.setIfInBounds_toArray, List.set_cons_zero, List.set_cons_succ])
            refine wpAnyH_take (i := 9) (oi := ⟨some 39, _, _, _, _, _⟩) (v := ?_) rfl (by kernel_rfl) (by kernel_rfl) (by kernel_rfl) (fun _ _ _ h => h) (Or.inl ⟨by kernel_rfl, ?_⟩) (by assumption) ?_
            rotate_left
            · (intro ww hSw; (try dsimp only at hSw); go_simp); (try with_reducible rfl)
            (try simp only [Act.put, List.setIfInBounds_toArray, List.set_cons_zero, List.set_cons_succ])
            refine wpAnyH_take (i := 13) (oi := ⟨some 43, _, _, _, _, _⟩) (v := ?_) rfl (by kernel_rfl) (by kernel_rfl) (by kernel_rfl) (fun _ _ _ h => h) (Or.inl ⟨by kernel_rfl, ?_⟩) (by assumption) ?_
            rotate_left
            · (intro ww hSw; (try dsimp only at hSw); go_simp); (try with_reducible rfl)
            (try simp only [Act.put, List.setIfInBounds_toArray, List.set_cons_zero, List.set_cons_succ])
            refine wpAnyH_take (i := 14) (oi := ⟨some 44, _, _, _, _, _⟩) (v := ?_) rfl (by kernel_rfl) (by kernel_rfl) (by kernel_rfl) (fun _ _ _ h => h) (Or.inl ⟨by kernel_rfl, ?_⟩) (by assumption) ?_
            rotate_left
            · (intro ww hSw; (try dsimp only at hSw); go_simp); (try with_reducible rfl)
            (try simp only [Act.put, List.setIfInBounds_toArray, List.set_cons_zero, List.set_cons_succ])
            refine wpAnyH_take (i := 10) (oi := ⟨some 40, _, _, _, _, _⟩) (v := ?_) rfl (by kernel_rfl) (by kernel_rfl) (by kernel_rfl) (fun _ _ _ h => h) (Or.inl ⟨by kernel_rfl, ?_⟩) (by assumption) ?_
            rotate_left
            · (intro ww hSw; (try dsimp only at hSw); have c0 : ww.cell? ⟨A, 1, none⟩ = some (.int .i64 k1) := (by rw [blk_cell hSw.1]; rfl); go_simp); (try with_reducible rfl)
            (try simp only [Act.put, List.setIfInBounds_toArray, List.set_cons_zero, List.set_cons_succ])
            refine wpAnyH_take (i := 11) (oi := ⟨some 41, _, _, _, _, _⟩) (v := ?_) rfl (by kernel_rfl) (by kernel_rfl) (by kernel_rfl) (fun _ _ _ h => h) (Or.inl ⟨by kernel_rfl, ?_⟩) (by assumption) ?_
            rotate_left
            · (intro ww hSw; (try dsimp only at hSw); obtain ⟨⟨c0, c1, c2, c3⟩, ⟨c4, c5, c6, c7⟩, ⟨c8, c9, c10, c11⟩⟩ := hSw.2; go_simp); (try with_reducible rfl)
            (try simp only [Act.put, List.setIfInBounds_toArray, List.set_cons_zero, List.set_cons_succ])
            refine wpAnyH_ready (rs := [7]) (by kernel_rfl) (by simp) ?_
            refine AllReadyH.cons rfl (fun K hK => ?_) AllReadyH.nil
            go_simp
            refine hK.out _ _ ?_ (fun hHeld => ?_)
            · (try dsimp only); first | exact ⟨HTT.out.arrb, box12_of HTT.out.box⟩ | exact AddS.drew ⟨HTT.out.arrb, box12_of HTT.out.box⟩
            clear hK K
            (try simp only [Act.put, List.setIfInBounds_toArray, List.set_cons_zero, List.set_cons_succ])
            refine wpAnyH_ready (rs := [12]) (by kernel_rfl) (by simp) ?_
            refine AllReadyH.cons rfl (fun K hK => ?_) AllReadyH.nil
            go_simp
            refine (opened_calls l1 k1 t B u1 _ HS1.out.1 (by rw [H.out.n1]; exact H.out.most) (by simp only [World.drew]; omega) (by exact HTT.out.r1)).mono ?_
            rintro e w5 ⟨v', rfl, ho, hg, hat⟩
            obtain ⟨p', n', c', rfl⟩ := own_slice ho
            replace hg : wr.grownBy w5 u1.ownBlock := by first | exact hg | exact grown_undrew1 hg | exact grown_undrew hg
            have ho' : Own w5 B (.slice p' n' c') (insAt l1 k1 t) := by show World.ownsRow _ _ _ _ _ _ _; rw [length_insAt]; exact ho
            have HO5 := Lib.hid ho'
            have HG5 := Lib.hid hg
            have HAT5 : Hid ((Value.slice p' n' c').ownBlock = u1.ownBlock ∨ ∃ g, (Value.slice p' n' c').ownBlock = some g ∧ wr.heap.size ≤ g) := hat
            have hm := turn_mid1 HTT.out hg hxj.out
            have HM := Lib.hid hm
            clear ho ho' hg hat hm
            go_wp2_with fail
            refine hK.out _ _ ?_ (fun hHeld => ?_)
            · (try dsimp only); first | exact ⟨HM.out.2.1, box12_of HM.out.2.2⟩ | exact AddS.drew ⟨HM.out.2.1, box12_of HM.out.2.2⟩
            clear hK K
            (try simp only [Act.put, List.setIfInBounds_toArray, List.set_cons_zero, List.set_cons_succ])
            refine wpAnyH_take (i := 15) (oi := ⟨some 45, _, _, _, _, _⟩) (v := ?_) rfl (by kernel_rfl) (by kernel_rfl) (by kernel_rfl) (fun _ _ _ h => h) (Or.inl ⟨by kernel_rfl, ?_⟩) (by assumption) ?_
            rotate_left
            · (intro ww hSw; (try dsimp only at hSw); go_simp); (try with_reducible rfl)
            (try simp only [Act.put, List.setIfInBounds_toArray, List.set_cons_zero, List.set_cons_succ])
            have d0 : w5.cell? ⟨b, 1, none⟩ = some u1 := by rw [blk_cell HM.out.1]; rfl
            have d1 : w5.frozen? ⟨b, 1, none⟩ = false := blk_free HM.out.1 _
            have ts := turn_step1 HTT.out HO5.out HG5.out HAT5.out hxj.out
            have TS := Lib.hid ts
            clear ts
            refine wpAnyH_ready (rs := [16]) (by kernel_rfl) (by simp) ?_
            refine AllReadyH.cons rfl (fun K hK => ?_) AllReadyH.nil
            go_simp
            refine hK.out _ _ ?_ (fun hHeld => ?_)
            · (try dsimp only); first | exact ⟨TS.out.arrb, box12_of TS.out.box⟩ | exact AddS.drew ⟨TS.out.arrb, box12_of TS.out.box⟩
            clear hK K
            (try simp only [Act.put, List.setIfInBounds_toArray, List.set_cons_zero, List.set_cons_succ])
            refine wpAnyH_done (by kernel_rfl) ?_ _
            go_wp2
            go_roundw
            case rel => exact ⟨2, u0, .slice p' n' c', u2, by omega, by go_num, TS.out, fun h => by omega, fun h => by omega, fun _ => rfl⟩
            case measure => simp [intOf]
          · obtain rfl := e2 (by omega)
            have hT' : Turn w F B b A X #[.int .i64 k0, .int .i64 k1, .int .i64 k2] t u0 u1 u2 (insAt L k0 t) (insAt l1 k1 t) (l2) wr := hT
            have HTT := Lib.hid hT'
            clear hT hT'
            obtain ⟨q0, q1, q2⟩ := turn_cells HTT.out
            have hfz : wr.frozen? ⟨b, 2, none⟩ = false := blk_free HTT.out.blk _
            have hxj : Hid (∀ g, u2.ownBlock = some g → g < w.heap.size) := fun g hg => (H.out.r2.lt g hg).2
            have hwr := HTT.out.kept.size
            go_wp2_with fail
            refine wp_region_held_drew (S := (fun W => AddS A X #[.int .i64 k0, .int .i64 k1, .int .i64 k2] t W)) (by kernel_rfl) ?_ (fun hHeld => ?_)
            · (try dsimp only); first | exact ⟨HTT.out.arrb, box12_of HTT.out.box⟩ | exact AddS.drew ⟨HTT.out.arrb, box12_of HTT.out.box⟩
            refine wpAnyH_take (i := 0) (oi := ⟨some 30, _, _, _, _, _⟩) (v := ?_) rfl (by kernel_rfl) (by kernel_rfl) (by kernel_rfl) (fun _ _ _ h => h) (Or.inl ⟨by kernel_rfl, ?_⟩) (by assumption) ?_
            rotate_left
            · (intro ww hSw; (try dsimp only at hSw); go_simp); (try with_reducible rfl)
            (try simp only [Act.put, List.setIfInBounds_toArray, List.set_cons_zero, List.set_cons_succ])
            refine wpAnyH_take (i := 1) (oi := ⟨some 31, _, _, _, _, _⟩) (v := ?_) rfl (by kernel_rfl) (by kernel_rfl) (by kernel_rfl) (fun _ _ _ h => h) (Or.inl ⟨by kernel_rfl, ?_⟩) (by assumption) ?_
            rotate_left
            · (intro ww hSw; (try dsimp only at hSw); go_simp); (try with_reducible rfl)
            (try simp only [Act.put, List.setIfInBounds_toArray, List.set_cons_zero, List.set_cons_succ])
            refine wpAnyH_take (i := 2) (oi := ⟨some 32, _, _, _, _, _⟩) (v := ?_) rfl (by kernel_rfl) (by kernel_rfl) (by kernel_rfl) (fun _ _ _ h => h) (Or.inl ⟨by kernel_rfl, ?_⟩) (by assumption) ?_
            rotate_left
            · (intro ww hSw; (try dsimp only at hSw); go_simp); (try with_reducible rfl)
            (try simp only [Act.put, List.setIfInBounds_toArray, List.set_cons_zero, List.set_cons_succ])
            refine wpAnyH_take (i := 3) (oi := ⟨some 33, _, _, _, _, _⟩) (v := ?_) rfl (by kernel_rfl) (by kernel_rfl) (by kernel_rfl) (fun _ _ _ h => h) (Or.inl ⟨by kernel_rfl, ?_⟩) (by assumption) ?_
            rotate_left
            · (intro ww hSw; (try dsimp only at hSw); go_simp); (try with_reducible rfl)
            (try simp only [Act.put, List.setIfInBounds_toArray, List.set_cons_zero, List.set_cons_succ])
            refine wpAnyH_take (i := 4) (oi := ⟨some 34, _, _, _, _, _⟩) (v := ?_) rfl (by kernel_rfl) (by kernel_rfl) (by kernel_rfl) (fun _ _ _ h => h) (Or.inl ⟨by kernel_rfl, ?_⟩) (by assumption) ?_
            rotate_left
            · (intro ww hSw; (try dsimp only at hSw); go_simp); (try with_reducible rfl)
            (try simp only [Act.put, List.setIfInBounds_toArray, List.set_cons_zero, List.set_cons_succ])
            refine wpAnyH_take (i := 5) (oi := ⟨some 35, _, _, _, _, _⟩) (v := ?_) rfl (by kernel_rfl) (by kernel_rfl) (by kernel_rfl) (fun _ _ _ h => h) (Or.inl ⟨by kernel_rfl, ?_⟩) (by assumption) ?_
            rotate_left
            · (intro ww hSw; (try dsimp only at hSw); go_simp); (try with_reducible rfl)
            (try simp only [Act.put, List.setIfInBounds_toArray, List.set_cons_zero, List.set_cons_succ])
            refine wpAnyH_take (i := 6) (oi := ⟨some 36, _, _, _, _, _⟩) (v := ?_) rfl (by kernel_rfl) (by kernel_rfl) (by kernel_rfl) (fun _ _ _ h => h) (Or.inl ⟨by kernel_rfl, ?_⟩) (by assumption) ?_
            rotate_left
            · (intro ww hSw; (try dsimp only at hSw); go_simp); (try with_reducible rfl)
            (try simp only [Act.put, List.setIfInBounds_toArray, List.set_cons_zero, List.set_cons_succ])
            refine wpAnyH_take (i := 8) (oi := ⟨some 38, _, _, _, _, _⟩) (v := ?_) rfl (by kernel_rfl) (by kernel_rfl) (by kernel_rfl) (fun _ _ _ h => h) (Or.inl ⟨by kernel_rfl, ?_⟩) (by assumption) ?_
            rotate_left
            · (intro ww hSw; (try dsimp only at hSw); go_simp); (try with_reducible rfl)
            (try simp only [Act.put, List.setIfInBounds_toArray, List.set_cons_zero, List.set_cons_succ])
            refine wpAnyH_take (i := 9) (oi := ⟨some 39, _, _, _, _, _⟩) (v := ?_) rfl (by kernel_rfl) (by kernel_rfl) (by kernel_rfl) (fun _ _ _ h => h) (Or.inl ⟨by kernel_rfl, ?_⟩) (by assumption) ?_
            rotate_left
            · (intro ww hSw; (try dsimp only at hSw); go_simp); (try with_reducible rfl)
            (try simp only [Act.put, List.setIfInBounds_toArray, List.set_cons_zero, List.set_cons_succ])
            refine wpAnyH_take (i := 13) (oi := ⟨some 43, _, _, _, _, _⟩) (v := ?_) rfl (by kernel_rfl) (by kernel_rfl) (by kernel_rfl) (fun _ _ _ h => h) (Or.inl ⟨by kernel_rfl, ?_⟩) (by assumption) ?_
            rotate_left
            · (intro ww hSw; (try dsimp only at hSw); go_simp); (try with_reducible rfl)
            (try simp only [Act.put, List.setIfInBounds_toArray, List.set_cons_zero, List.set_cons_succ])
            refine wpAnyH_take (i := 14) (oi := ⟨some 44, _, _, _, _, _⟩) (v := ?_) rfl (by kernel_rfl) (by kernel_rfl) (by kernel_rfl) (fun _ _ _ h => h) (Or.inl ⟨by kernel_rfl, ?_⟩) (by assumption) ?_
            rotate_left
            · (intro ww hSw; (try dsimp only at hSw); go_simp); (try with_reducible rfl)
            (try simp only [Act.put, List.setIfInBounds_toArray, List.set_cons_zero, List.set_cons_succ])
            refine wpAnyH_take (i := 10) (oi := ⟨some 40, _, _, _, _, _⟩) (v := ?_) rfl (by kernel_rfl) (by kernel_rfl) (by kernel_rfl) (fun _ _ _ h => h) (Or.inl ⟨by kernel_rfl, ?_⟩) (by assumption) ?_
            rotate_left
            · (intro ww hSw; (try dsimp only at hSw); have c0 : ww.cell? ⟨A, 2, none⟩ = some (.int .i64 k2) := (by rw [blk_cell hSw.1]; rfl); go_simp); (try with_reducible rfl)
            (try simp only [Act.put, List.setIfInBounds_toArray, List.set_cons_zero, List.set_cons_succ])
            refine wpAnyH_take (i := 11) (oi := ⟨some 41, _, _, _, _, _⟩) (v := ?_) rfl (by kernel_rfl) (by kernel_rfl) (by kernel_rfl) (fun _ _ _ h => h) (Or.inl ⟨by kernel_rfl, ?_⟩) (by assumption) ?_
            rotate_left
            · (intro ww hSw; (try dsimp only at hSw); obtain ⟨⟨c0, c1, c2, c3⟩, ⟨c4, c5, c6, c7⟩, ⟨c8, c9, c10, c11⟩⟩ := hSw.2; go_simp); (try with_reducible rfl)
            (try simp only [Act.put, List.setIfInBounds_toArray, List.set_cons_zero, List.set_cons_succ])
            refine wpAnyH_ready (rs := [7]) (by kernel_rfl) (by simp) ?_
            refine AllReadyH.cons rfl (fun K hK => ?_) AllReadyH.nil
            go_simp
            refine hK.out _ _ ?_ (fun hHeld => ?_)
            · (try dsimp only); first | exact ⟨HTT.out.arrb, box12_of HTT.out.box⟩ | exact AddS.drew ⟨HTT.out.arrb, box12_of HTT.out.box⟩
            clear hK K
            (try simp only [Act.put, List.setIfInBounds_toArray, List.set_cons_zero, List.set_cons_succ])
            refine wpAnyH_ready (rs := [12]) (by kernel_rfl) (by simp) ?_
            refine AllReadyH.cons rfl (fun K hK => ?_) AllReadyH.nil
            go_simp
            refine (opened_calls l2 k2 t B u2 _ HS2.out.1 (by rw [H.out.n2]; exact H.out.most) (by simp only [World.drew]; omega) (by exact HTT.out.r2)).mono ?_
            rintro e w5 ⟨v', rfl, ho, hg, hat⟩
            obtain ⟨p', n', c', rfl⟩ := own_slice ho
            replace hg : wr.grownBy w5 u2.ownBlock := by first | exact hg | exact grown_undrew1 hg | exact grown_undrew hg
            have ho' : Own w5 B (.slice p' n' c') (insAt l2 k2 t) := by show World.ownsRow _ _ _ _ _ _ _; rw [length_insAt]; exact ho
            have HO5 := Lib.hid ho'
            have HG5 := Lib.hid hg
            have HAT5 : Hid ((Value.slice p' n' c').ownBlock = u2.ownBlock ∨ ∃ g, (Value.slice p' n' c').ownBlock = some g ∧ wr.heap.size ≤ g) := hat
            have hm := turn_mid2 HTT.out hg hxj.out
            have HM := Lib.hid hm
            clear ho ho' hg hat hm
            go_wp2_with fail
            refine hK.out _ _ ?_ (fun hHeld => ?_)
            · (try dsimp only); first | exact ⟨HM.out.2.1, box12_of HM.out.2.2⟩ | exact AddS.drew ⟨HM.out.2.1, box12_of HM.out.2.2⟩
            clear hK K
            (try simp only [Act.put, List.setIfInBounds_toArray, List.set_cons_zero, List.set_cons_succ])
            refine wpAnyH_take (i := 15) (oi := ⟨some 45, _, _, _, _, _⟩) (v := ?_) rfl (by kernel_rfl) (by kernel_rfl) (by kernel_rfl) (fun _ _ _ h => h) (Or.inl ⟨by kernel_rfl, ?_⟩) (by assumption) ?_
            rotate_left
            · (intro ww hSw; (try dsimp only at hSw); go_simp); (try with_reducible rfl)
            (try simp only [Act.put, List.setIfInBounds_toArray, List.set_cons_zero, List.set_cons_succ])
            have d0 : w5.cell? ⟨b, 2, none⟩ = some u2 := by rw [blk_cell HM.out.1]; rfl
            have d1 : w5.frozen? ⟨b, 2, none⟩ = false := blk_free HM.out.1 _
            have ts := turn_step2 HTT.out HO5.out HG5.out HAT5.out hxj.out
            have TS := Lib.hid ts
            clear ts
            refine wpAnyH_ready (rs := [16]) (by kernel_rfl) (by simp) ?_
            refine AllReadyH.cons rfl (fun K hK => ?_) AllReadyH.nil
            go_simp
            refine hK.out _ _ ?_ (fun hHeld => ?_)
            · (try dsimp only); first | exact ⟨TS.out.arrb, box12_of TS.out.box⟩ | exact AddS.drew ⟨TS.out.arrb, box12_of TS.out.box⟩
            clear hK K
            (try simp only [Act.put, List.setIfInBounds_toArray, List.set_cons_zero, List.set_cons_succ])
            refine wpAnyH_done (by kernel_rfl) ?_ _
            go_wp2
            go_roundw
            case rel => exact ⟨3, u0, u1, .slice p' n' c', by omega, by go_num, TS.out, fun h => by omega, fun h => by omega, fun h => by omega⟩
            case measure => simp [intOf]
          · have HTT := Lib.hid (show Turn w F B b A X #[.int .i64 k0, .int .i64 k1, .int .i64 k2] t u0 u1 u2 (insAt L k0 t) (insAt l1 k1 t) (insAt l2 k2 t) wr from hT)
            clear hT
            go_wp2
            go_ret2
            exact ⟨by rw [(addL_new HQ.out HIN.out HFU.out).2.1, (addL_new HQ.out HIN.out HFU.out).2.2]; rfl, by rw [(addL_new HQ.out HIN.out HFU.out).1]; exact turn_added H.out HTT.out HS0.out HS1.out HS2.out HQ.out HT.out HIN.out HFU.out⟩

end Go.Proofs.YtnojdchodmogbaaGreat
