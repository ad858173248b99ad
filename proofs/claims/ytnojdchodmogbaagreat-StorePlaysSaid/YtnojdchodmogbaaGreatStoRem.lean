/- A triple taken out: package store's Remove. -/
import Derived.Test.YtnojdchodmogbaaGreatStoAdd
import Derived.Test.YtnojdchodmogbaaGreatStoDel
namespace Go.Proofs.YtnojdchodmogbaaGreat
open Go.RowKit

def RemT (F : Nat → Prop) (B b : Nat) (L : List TripL) (t : TripL) (w : World) (e : Ending) (w' : World) : Prop :=
  e = .returned (.bool (decide (t ∈ L))) ∧ StP F w B b (remL L t) w'
/- the world of Remove's loop, j lists shortened -/
def RemR (w0 : World) (F : Nat → Prop) (B b A X : Nat) (arr : Array Value) (t : TripL) (v0 v1 v2 : Value) (l0 l1 l2 : List TripL) (k0 k1 k2 : Nat) (i : Value) (wr : World) : Prop :=
  ∃ (n : Nat) (u0 u1 u2 : Value), n ≤ 3 ∧ i = .int .i64 n ∧ Turn w0 F B b A X arr t u0 u1 u2 (if 0 < n then delAt l0 k0 else l0) (if 1 < n then delAt l1 k1 else l1) (if 2 < n then delAt l2 k2 else l2) wr ∧ (n = 0 → u0 = v0) ∧ (n ≤ 1 → u1 = v1) ∧ (n ≤ 2 → u2 = v2)
theorem spot_lt {f k : Nat} {l : List TripL} {t : TripL} (h : Ord f l) (hs : Spot f l t k) (ht : t ∈ l) : k < l.length := by
  obtain ⟨r, hr⟩ := spot_mem h hs ht
  have := congrArg List.length hr
  rw [List.length_drop, List.length_cons] at this
  omega
theorem turn_removed {w wr : World} {F : Nat → Prop} {B b A X : Nat} {arr : Array Value} {t : TripL} {u0 u1 u2 v0 v1 v2 : Value} {L l1 l2 : List TripL} {k0 k1 k2 : Nat} (H : Sto w B b v0 v1 v2 L l1 l2) (h : Turn w F B b A X arr t u0 u1 u2 (delAt L k0) (delAt l1 k1) (delAt l2 k2) wr)
    (h0 : Spot 0 L t k0) (h1 : Spot 1 l1 t k1) (h2 : Spot 2 l2 t k2) (hin : t ∈ L) : StP F w B b (remL L t) wr := by
  have hin1 : t ∈ l1 := (H.m1 t).2 hin
  have hin2 : t ∈ l2 := (H.m2 t).2 hin
  have e0 : delAt L k0 = remL L t := delAt_eq H.o0 h0 hin
  have e1 : delAt l1 k1 = remL l1 t := delAt_eq H.o1 h1 hin1
  have e2 : delAt l2 k2 = remL l2 t := delAt_eq H.o2 h2 hin2
  have z0 := length_delAt (spot_lt H.o0 h0 hin)
  have z1 := length_delAt (spot_lt H.o1 h1 hin1)
  have z2 := length_delAt (spot_lt H.o2 h2 hin2)
  refine ⟨u0, u1, u2, delAt l1 k1, delAt l2 k2, ?_, h.kept, h.foot⟩
  refine { blk := h.blk, low := H.low, r0 := by rw [← e0]; exact h.r0, r1 := h.r1, r2 := h.r2, o0 := ord_remL H.o0, o1 := ord_delAt H.o1, o2 := ord_delAt H.o2, m1 := fun x => ?_, m2 := fun x => ?_, n1 := ?_, n2 := ?_, a01 := h.a01, a02 := h.a02, a12 := h.a12, fine := fun x hx => H.fine x (mem_remL.1 hx).1, most := ?_ }
  · rw [e1, mem_remL, mem_remL, H.m1]
  · rw [e2, mem_remL, mem_remL, H.m2]
  · rw [z1, ← e0, z0, H.n1]
  · rw [z2, ← e0, z0, H.n2]
  · rw [← e0, z0]; have := H.most; omega

set_option maxRecDepth 100000 in
set_option maxHeartbeats 8000000 in
theorem remove_calls (F : Nat → Prop) (B b : Nat) (v0 v1 v2 : Value) (L l1 l2 : List TripL) (t : TripL) (w : World) (h : Sto w B b v0 v1 v2 L l1 l2) (hF : ∀ k, Foot b v0 v1 v2 k → F k) :
    Calls Tryz.prog 11 #[.pointer (some ⟨b, 0, none⟩), t.v] w (RemT F B b L t w) := by
  have H := Lib.hid h
  have HF := Lib.hid hF
  have hblt := blk_lt h.blk
  have hL := h.most
  clear h hF
  simp only [TripL.v]
  by_cases hin : t ∈ L
  · have HIN := Lib.hid hin
    clear hin
    have bx0 := blk_new w 29 (cells12 t)
    go_enter Tryz.func11, Tryz.ntmps11
    go_wp2_with fail
    refine (find_calls B b v0 v1 v2 L l1 l2 t _ (sto_on H.out (box_below _ _) (Nat.le_refl _))).mono ?_
    rintro e w3 ⟨k0, k1, k2, rfl, hs0, hs1, hs2, hb3⟩
    have BLK3 := Lib.hid (blk_on bx0 hb3 (blk_lt bx0))
    have hb2 := one_box hb3
    rw [show decide (t ∈ L) = true from decide_eq_true HIN.out]
    have HS0 := Lib.hid hs0
    have HS1 := Lib.hid hs1
    have HS2 := Lib.hid hs2
    have hwr0 : IntKind.i64.wrap ((k0 : Int) + 1) = (k0 : Int) + 1 := by have := spot_lt H.out.o0 hs0 HIN.out; simp [IntKind.wrap, IntKind.bits, IntKind.signed]; omega
    have hwr1 : IntKind.i64.wrap ((k1 : Int) + 1) = (k1 : Int) + 1 := by have := spot_lt H.out.o1 hs1 ((H.out.m1 t).2 HIN.out); have := H.out.n1; simp [IntKind.wrap, IntKind.bits, IntKind.signed]; omega
    have hwr2 : IntKind.i64.wrap ((k2 : Int) + 1) = (k2 : Int) + 1 := by have := spot_lt H.out.o2 hs2 ((H.out.m2 t).2 HIN.out); have := H.out.n2; simp [IntKind.wrap, IntKind.bits, IntKind.signed]; omega
    clear hb3 hs0 hs1 hs2 bx0
    have hsw := hb2.size
    have hA : Blk (w3.alloc (.cells #[.int .i64 k0, .int .i64 k1, .int .i64 k2] 71)) w3.heap.size 71 #[.int .i64 k0, .int .i64 k1, .int .i64 k2] := blk_new _ _ _
    go_wp2_with fail
    refine name_world (fun w4 hw4 => ?_)
    obtain ⟨A, hAe⟩ : ∃ A, w3.heap.size = A := ⟨_, rfl⟩
    have tu : Turn w F B b A w.heap.size #[.int .i64 k0, .int .i64 k1, .int .i64 k2] t v0 v1 v2 L l1 l2 w4 := by
      have hb4 : Below w.heap.size w w4 := by rw [hw4]; exact hb2.alloc hb2.size _
      have s4 := sto_on H.out hb4 (Nat.le_refl _)
      refine ⟨s4.blk, s4.r0, s4.r1, s4.r2, s4.a01, s4.a02, s4.a12, ?_, ?_, Kept.of_below hb4, fun k hk => .inl (HF.out k hk), ⟨by omega, by omega⟩, Nat.le_refl _, HF.out b (.inl rfl)⟩
      · rw [hw4, ← hAe]; exact hA
      · rw [hw4]; exact blk_on BLK3.out (box_below _ _) (blk_lt BLK3.out)
    have TU := Lib.hid tu
    clear tu hA hw4 BLK3 hb2 hsw hblt
    simp only [hAe]
    have HAE := Lib.hid hAe
    clear hAe
    obtain ⟨X, hX⟩ : ∃ X, w.heap.size = X := ⟨_, rfl⟩
    rw [hX] at TU
    simp only [hX]
    have HXE := Lib.hid hX
    clear hX
    go_loopw [18] (fun i wr => RemR w F B b A X #[.int .i64 k0, .int .i64 k1, .int .i64 k2] t v0 v1 v2 L l1 l2 k0 k1 k2 i wr) (fun i _ => 3 - (intOf i).toNat)
    case atStart => exact ⟨0, v0, v1, v2, by omega, rfl, TU.out, fun _ => rfl, fun _ => rfl, fun _ => rfl⟩
    case round =>
      obtain ⟨n, u0, u1, u2, hn, rfl, hT, e0, e1, e2⟩ := hrel
      rcases (by omega : n = 0 ∨ n = 1 ∨ n = 2 ∨ n = 3) with rfl | rfl | rfl | rfl
      · obtain rfl := e0 (by omega)
        obtain rfl := e1 (by omega)
        obtain rfl := e2 (by omega)
        have hT' : Turn w F B b A X #[.int .i64 k0, .int .i64 k1, .int .i64 k2] t u0 u1 u2 (L) (l1) (l2) wr := hT
        have HTT := Lib.hid hT'
        clear hT hT'
        obtain ⟨q0, q1, q2⟩ := turn_cells HTT.out
        have hfz : wr.frozen? ⟨b, 0, none⟩ = false := blk_free HTT.out.blk _
        have hxj : Hid (∀ g, u0.ownBlock = some g → g < w.heap.size) := fun g hg => (H.out.r0.lt g hg).2
        go_wp2_with fail
        refine wp_region_held_drew (S := (fun W => Blk W A 71 #[.int .i64 k0, .int .i64 k1, .int .i64 k2])) (by kernel_rfl) ?_ (fun hHeld => ?_)
        · (try dsimp only); exact HTT.out.arrb
        refine wpAnyH_take (i := 0) (oi := ⟨some 21, _, _, _, _, _⟩) (v := ?_) rfl (by kernel_rfl) (by kernel_rfl) (by kernel_rfl) (fun _ _ _ h => h) (Or.inl ⟨by kernel_rfl, ?_⟩) (by assumption) ?_
        rotate_left
        · (intro ww hSw; (try dsimp only at hSw); go_simp); (try with_reducible rfl)
        (try simp only [Act.put, List.setIfInBounds_toArray, List.set_cons_zero, List.set_cons_succ])
        refine wpAnyH_take (i := 1) (oi := ⟨some 22, _, _, _, _, _⟩) (v := ?_) rfl (by kernel_rfl) (by kernel_rfl) (by kernel_rfl) (fun _ _ _ h => h) (Or.inl ⟨by kernel_rfl, ?_⟩) (by assumption) ?_
        rotate_left
        · (intro ww hSw; (try dsimp only at hSw); go_simp); (try with_reducible rfl)
        (try simp only [Act.put, List.setIfInBounds_toArray, List.set_cons_zero, List.set_cons_succ])
        refine wpAnyH_take (i := 2) (oi := ⟨some 23, _, _, _, _, _⟩) (v := ?_) rfl (by kernel_rfl) (by kernel_rfl) (by kernel_rfl) (fun _ _ _ h => h) (Or.inl ⟨by kernel_rfl, ?_⟩) (by assumption) ?_
        rotate_left
        · (intro ww hSw; (try dsimp only at hSw); go_simp); (try with_reducible rfl)
        (try simp only [Act.put, List.setIfInBounds_toArray, List.set_cons_zero, List.set_cons_succ])
        refine wpAnyH_take (i := 3) (oi := ⟨some 24, _, _, _, _, _⟩) (v := ?_) rfl (by kernel_rfl) (by kernel_rfl) (by kernel_rfl) (fun _ _ _ h => h) (Or.inl ⟨by kernel_rfl, ?_⟩) (by assumption) ?_
        rotate_left
        · (intro ww hSw; (try dsimp only at hSw); go_simp); (try with_reducible rfl)
        (try simp only [Act.put, List.setIfInBounds_toArray, List.set_cons_zero, List.set_cons_succ])
        refine wpAnyH_take (i := 4) (oi := ⟨some 25, _, _, _, _, _⟩) (v := ?_) rfl (by kernel_rfl) (by kernel_rfl) (by kernel_rfl) (fun _ _ _ h => h) (Or.inl ⟨by kernel_rfl, ?_⟩) (by assumption) ?_
        rotate_left
        · (intro ww hSw; (try dsimp only at hSw); go_simp); (try with_reducible rfl)
        (try simp only [Act.put, List.setIfInBounds_toArray, List.set_cons_zero, List.set_cons_succ])
        refine wpAnyH_take (i := 5) (oi := ⟨some 26, _, _, _, _, _⟩) (v := ?_) rfl (by kernel_rfl) (by kernel_rfl) (by kernel_rfl) (fun _ _ _ h => h) (Or.inl ⟨by kernel_rfl, ?_⟩) (by assumption) ?_
        rotate_left
        · (intro ww hSw; (try dsimp only at hSw); go_simp); (try with_reducible rfl)
        (try simp only [Act.put, List.setIfInBounds_toArray, List.set_cons_zero, List.set_cons_succ])
        refine wpAnyH_take (i := 6) (oi := ⟨some 27, _, _, _, _, _⟩) (v := ?_) rfl (by kernel_rfl) (by kernel_rfl) (by kernel_rfl) (fun _ _ _ h => h) (Or.inl ⟨by kernel_rfl, ?_⟩) (by assumption) ?_
        rotate_left
        · (intro ww hSw; (try dsimp only at hSw); go_simp); (try with_reducible rfl)
        (try simp only [Act.put, List.setIfInBounds_toArray, List.set_cons_zero, List.set_cons_succ])
        refine wpAnyH_take (i := 8) (oi := ⟨some 29, _, _, _, _, _⟩) (v := ?_) rfl (by kernel_rfl) (by kernel_rfl) (by kernel_rfl) (fun _ _ _ h => h) (Or.inl ⟨by kernel_rfl, ?_⟩) (by assumption) ?_
        rotate_left
        · (intro ww hSw; (try dsimp only at hSw); go_simp); (try with_reducible rfl)
        (try simp only [Act.put, List.setIfInBounds_toArray, List.set_cons_zero, List.set_cons_succ])
        refine wpAnyH_take (i := 9) (oi := ⟨some 30, _, _, _, _, _⟩) (v := ?_) rfl (by kernel_rfl) (by kernel_rfl) (by kernel_rfl) (fun _ _ _ h => h) (Or.inl ⟨by kernel_rfl, ?_⟩) (by assumption) ?_
        rotate_left
        · (intro ww hSw; (try dsimp only at hSw); go_simp); (try with_reducible rfl)
        (try simp only [Act.put, List.setIfInBounds_toArray, List.set_cons_zero, List.set_cons_succ])
        refine wpAnyH_take (i := 10) (oi := ⟨some 31, _, _, _, _, _⟩) (v := ?_) rfl (by kernel_rfl) (by kernel_rfl) (by kernel_rfl) (fun _ _ _ h => h) (Or.inl ⟨by kernel_rfl, ?_⟩) (by assumption) ?_
        rotate_left
        · (intro ww hSw; (try dsimp only at hSw); have c0 : ww.cell? ⟨A, 0, none⟩ = some (.int .i64 k0) := (by rw [blk_cell hSw]; rfl); go_simp); (try with_reducible rfl)
        (try simp only [Act.put, List.setIfInBounds_toArray, List.set_cons_zero, List.set_cons_succ])
        refine wpAnyH_take (i := 11) (oi := ⟨some 32, _, _, _, _, _⟩) (v := ?_) rfl (by kernel_rfl) (by kernel_rfl) (by kernel_rfl) (fun _ _ _ h => h) (Or.inl ⟨by kernel_rfl, ?_⟩) (by assumption) ?_
        rotate_left
        · (intro ww hSw; (try dsimp only at hSw); go_simp); (try with_reducible rfl)
        (try simp only [Act.put, List.setIfInBounds_toArray, List.set_cons_zero, List.set_cons_succ])
        refine wpAnyH_take (i := 12) (oi := ⟨some 33, _, _, _, _, _⟩) (v := ?_) rfl (by kernel_rfl) (by kernel_rfl) (by kernel_rfl) (fun _ _ _ h => h) (Or.inl ⟨by kernel_rfl, ?_⟩) (by assumption) ?_
        rotate_left
        · (intro ww hSw; (try dsimp only at hSw); go_simp); (try with_reducible rfl)
        (try simp only [Act.put, List.setIfInBounds_toArray, List.set_cons_zero, List.set_cons_succ])
        refine wpAnyH_take (i := 13) (oi := ⟨some 34, _, _, _, _, _⟩) (v := ?_) rfl (by kernel_rfl) (by kernel_rfl) (by kernel_rfl) (fun _ _ _ h => h) (Or.inl ⟨by kernel_rfl, ?_⟩) (by assumption) ?_
        rotate_left
        · (intro ww hSw; (try dsimp only at hSw); have c0 : ww.cell? ⟨A, 0, none⟩ = some (.int .i64 k0) := (by rw [blk_cell hSw]; rfl); go_simp); (try with_reducible rfl)
        (try simp only [Act.put, List.setIfInBounds_toArray, List.set_cons_zero, List.set_cons_succ])
        refine wpAnyH_take (i := 14) (oi := ⟨some 35, _, _, _, _, _⟩) (v := ?_) rfl (by kernel_rfl) (by kernel_rfl) (by kernel_rfl) (fun _ _ _ h => h) (Or.inl ⟨by kernel_rfl, ?_⟩) (by assumption) ?_
        rotate_left
        · (intro ww hSw; (try dsimp only at hSw); go_simp); (try with_reducible rfl)
        (try simp only [Act.put, List.setIfInBounds_toArray, List.set_cons_zero, List.set_cons_succ])
        refine wpAnyH_take (i := 16) (oi := ⟨some 37, _, _, _, _, _⟩) (v := ?_) rfl (by kernel_rfl) (by kernel_rfl) (by kernel_rfl) (fun _ _ _ h => h) (Or.inl ⟨by kernel_rfl, ?_⟩) (by assumption) ?_
        rotate_left
        · (intro ww hSw; (try dsimp only at hSw); go_simp); (try with_reducible rfl)
        (try simp only [Act.put, List.setIfInBounds_toArray, List.set_cons_zero, List.set_cons_succ])
        refine wpAnyH_take (i := 17) (oi := ⟨some 38, _, _, _, _, _⟩) (v := ?_) rfl (by kernel_rfl) (by kernel_rfl) (by kernel_rfl) (fun _ _ _ h => h) (Or.inl ⟨by kernel_rfl, ?_⟩) (by assumption) ?_
        rotate_left
        · (intro ww hSw; (try dsimp only at hSw); go_simp); (try with_reducible rfl)
        (try simp only [Act.put, List.setIfInBounds_toArray, List.set_cons_zero, List.set_cons_succ])
        refine wpAnyH_ready (rs := [7]) (by kernel_rfl) (by simp) ?_
        refine AllReadyH.cons rfl (fun K hK => ?_) AllReadyH.nil
        go_simp
        refine hK.out _ _ ?_ (fun hHeld => ?_)
        · (try dsimp only); exact HTT.out.arrb
        clear hK K
        (try simp only [Act.put, List.setIfInBounds_toArray, List.set_cons_zero, List.set_cons_succ])
        refine wpAnyH_ready (rs := [15]) (by kernel_rfl) (by simp) ?_
        refine AllReadyH.cons rfl (fun K hK => ?_) AllReadyH.nil
        go_simp
        refine (delete_calls L k0 B u0 _ (spot_lt H.out.o0 HS0.out HIN.out) H.out.most (by exact HTT.out.r0)).mono ?_
        rintro e w5 ⟨v', rfl, ho, hg, hat⟩
        obtain ⟨p', n', c', rfl⟩ := own_slice ho
        replace hg : wr.grownBy w5 u0.ownBlock := by first | exact hg | exact grown_undrew1 hg | exact grown_undrew hg
        have HO5 := Lib.hid ho
        have HG5 := Lib.hid hg
        have HAT5 : Hid ((Value.slice p' n' c').ownBlock = u0.ownBlock ∨ ∃ g, (Value.slice p' n' c').ownBlock = some g ∧ wr.heap.size ≤ g) := .inl hat
        have hm := turn_mid0 HTT.out hg hxj.out
        have HM := Lib.hid hm
        clear ho hg hat hm
        go_wp2_with fail
        refine hK.out _ _ ?_ (fun hHeld => ?_)
        · (try dsimp only); exact HM.out.2.1
        clear hK K
        (try simp only [Act.put, List.setIfInBounds_toArray, List.set_cons_zero, List.set_cons_succ])
        refine wpAnyH_take (i := 18) (oi := ⟨some 39, _, _, _, _, _⟩) (v := ?_) rfl (by kernel_rfl) (by kernel_rfl) (by kernel_rfl) (fun _ _ _ h => h) (Or.inl ⟨by kernel_rfl, ?_⟩) (by assumption) ?_
        rotate_left
        · (intro ww hSw; (try dsimp only at hSw); go_simp); (try with_reducible rfl)
        (try simp only [Act.put, List.setIfInBounds_toArray, List.set_cons_zero, List.set_cons_succ])
        have d0 : w5.cell? ⟨b, 0, none⟩ = some u0 := by rw [blk_cell HM.out.1]; rfl
        have d1 : w5.frozen? ⟨b, 0, none⟩ = false := blk_free HM.out.1 _
        have ts := turn_step0 HTT.out HO5.out HG5.out HAT5.out hxj.out
        have TS := Lib.hid ts
        clear ts
        refine wpAnyH_ready (rs := [19]) (by kernel_rfl) (by simp) ?_
        refine AllReadyH.cons rfl (fun K hK => ?_) AllReadyH.nil
        go_simp
        refine hK.out _ _ ?_ (fun hHeld => ?_)
        · (try dsimp only); exact TS.out.arrb
        clear hK K
        (try simp only [Act.put, List.setIfInBounds_toArray, List.set_cons_zero, List.set_cons_succ])
        refine wpAnyH_done (by kernel_rfl) ?_ _
        go_wp2
        go_roundw
        case rel => exact ⟨1, .slice p' n' c', u1, u2, by omega, by go_num, TS.out, fun h => by omega, fun _ => rfl, fun _ => rfl⟩
        case measure => simp [intOf]
      · obtain rfl := e1 (by omega)
        obtain rfl := e2 (by omega)
        have hT' : Turn w F B b A X #[.int .i64 k0, .int .i64 k1, .int .i64 k2] t u0 u1 u2 (delAt L k0) (l1) (l2) wr := hT
        have HTT := Lib.hid hT'
        clear hT hT'
        obtain ⟨q0, q1, q2⟩ := turn_cells HTT.out
        have hfz : wr.frozen? ⟨b, 1, none⟩ = false := blk_free HTT.out.blk _
        have hxj : Hid (∀ g, u1.ownBlock = some g → g < w.heap.size) := fun g hg => (H.out.r1.lt g hg).2
        go_wp2_with fail
        refine wp_region_held_drew (S := (fun W => Blk W A 71 #[.int .i64 k0, .int .i64 k1, .int .i64 k2])) (by kernel_rfl) ?_ (fun hHeld => ?_)
        · (try dsimp only); exact HTT.out.arrb
        refine wpAnyH_take (i := 0) (oi := ⟨some 21, _, _, _, _, _⟩) (v := ?_) rfl (by kernel_rfl) (by kernel_rfl) (by kernel_rfl) (fun _ _ _ h => h) (Or.inl ⟨by kernel_rfl, ?_⟩) (by assumption) ?_
        rotate_left
        · (intro ww hSw; (try dsimp only at hSw); go_simp); (try with_reducible rfl)
        (try simp only [Act.put, List.setIfInBounds_toArray, List.set_cons_zero, List.set_cons_succ])
        refine wpAnyH_take (i := 1) (oi := ⟨some 22, _, _, _, _, _⟩) (v := ?_) rfl (by kernel_rfl) (by kernel_rfl) (by kernel_rfl) (fun _ _ _ h => h) (Or.inl ⟨by kernel_rfl, ?_⟩) (by assumption) ?_
        rotate_left
        · (intro ww hSw; (try dsimp only at hSw); go_simp); (try with_reducible rfl)
        (try simp only [Act.put, List.setIfInBounds_toArray, List.set_cons_zero, List.set_cons_succ])
        refine wpAnyH_take (i := 2) (oi := ⟨some 23, _, _, _, _, _⟩) (v := ?_) rfl (by kernel_rfl) (by kernel_rfl) (by kernel_rfl) (fun _ _ _ h => h) (Or.inl ⟨by kernel_rfl, ?_⟩) (by assumption) ?_
        rotate_left
        · (intro ww hSw; (try dsimp only at hSw); go_simp); (try with_reducible rfl)
        (try simp only [Act.put, List.setIfInBounds_toArray, List.set_cons_zero, List.set_cons_succ])
        refine wpAnyH_take (i := 3) (oi := ⟨some 24, _, _, _, _, _⟩) (v := ?_) rfl (by kernel_rfl) (by kernel_rfl) (by kernel_rfl) (fun _ _ _ h => h) (Or.inl ⟨by kernel_rfl, ?_⟩) (by assumption) ?_
        rotate_left
        · (intro ww hSw; (try dsimp only at hSw); go_simp); (try with_reducible rfl)
        (try simp only [Act.put, List.setIfInBounds_toArray, List.set_cons_zero, List.set_cons_succ])
        refine wpAnyH_take (i := 4) (oi := ⟨some 25, _, _, _, _, _⟩) (v := ?_) rfl (by kernel_rfl) (by kernel_rfl) (by kernel_rfl) (fun _ _ _ h => h) (Or.inl ⟨by kernel_rfl, ?_⟩) (by assumption) ?_
        rotate_left
        · (intro ww hSw; (try dsimp only at hSw); go_simp); (try with_reducible rfl)
        (try simp only [Act.put, List.setIfInBounds_toArray, List.set_cons_zero, List.set_cons_succ])
        refine wpAnyH_take (i := 5) (oi := ⟨some 26, _, _, _, _, _⟩) (v := ?_) rfl (by kernel_rfl) (by kernel_rfl) (by kernel_rfl) (fun _ _ _ h => h) (Or.inl ⟨by kernel_rfl, ?_⟩) (by assumption) ?_
        rotate_left
        · (intro ww hSw; (try dsimp only at hSw); go_simp); (try with_reducible rfl)
        (try simp only [Act.put, List.setIfInBounds_toArray, List.set_cons_zero, List.set_cons_succ])
        refine wpAnyH_take (i := 6) (oi := ⟨some 27, _, _, _, _, _⟩) (v := ?_) rfl (by kernel_rfl) (by kernel_rfl) (by kernel_rfl) (fun _ _ _ h => h) (Or.inl ⟨by kernel_rfl, ?_⟩) (by assumption) ?_
        rotate_left
        · (intro ww hSw; (try dsimp only at hSw); go_simp); (try with_reducible rfl)
        (try simp only [Act.put, List.setIfInBounds_toArray, List.set_cons_zero, List.set_cons_succ])
        refine wpAnyH_take (i := 8) (oi := ⟨some 29, _, _, _, _, _⟩) (v := ?_) rfl (by kernel_rfl) (by kernel_rfl) (by kernel_rfl) (fun _ _ _ h => h) (Or.inl ⟨by kernel_rfl, ?_⟩) (by assumption) ?_
        rotate_left
        · (intro ww hSw; (try dsimp only at hSw); go_simp); (try with_reducible rfl)
        (try simp only [Act.put, List.setIfInBounds_toArray, List.set_cons_zero, List.set_cons_succ])
        refine wpAnyH_take (i := 9) (oi := ⟨some 30, _, _, _, _, _⟩) (v := ?_) rfl (by kernel_rfl) (by kernel_rfl) (by kernel_rfl) (fun _ _ _ h => h) (Or.inl ⟨by kernel_rfl, ?_⟩) (by assumption) ?_
        rotate_left
        · (intro ww hSw; (try dsimp only at hSw); go_simp); (try with_reducible rfl)
        (try simp only [Act.put, List.setIfInBounds_toArray, List.set_cons_zero, List.set_cons_succ])
        refine wpAnyH_take (i := 10) (oi := ⟨some 31, _, _, _, _, _⟩) (v := ?_) rfl (by kernel_rfl) (by kernel_rfl) (by kernel_rfl) (fun _ _ _ h => h) (Or.inl ⟨by kernel_rfl, ?_⟩) (by assumption) ?_
        rotate_left
        · (intro ww hSw; (try dsimp only at hSw); have c0 : ww.cell? ⟨A, 1, none⟩ = some (.int .i64 k1) := (by rw [blk_cell hSw]; rfl); go_simp); (try with_reducible rfl)
        (try simp only [Act.put, List.setIfInBounds_toArray, List.set_cons_zero, List.set_cons_succ])
        refine wpAnyH_take (i := 11) (oi := ⟨some 32, _, _, _, _, _⟩) (v := ?_) rfl (by kernel_rfl) (by kernel_rfl) (by kernel_rfl) (fun _ _ _ h => h) (Or.inl ⟨by kernel_rfl, ?_⟩) (by assumption) ?_
        rotate_left
        · (intro ww hSw; (try dsimp only at hSw); go_simp); (try with_reducible rfl)
        (try simp only [Act.put, List.setIfInBounds_toArray, List.set_cons_zero, List.set_cons_succ])
        refine wpAnyH_take (i := 12) (oi := ⟨some 33, _, _, _, _, _⟩) (v := ?_) rfl (by kernel_rfl) (by kernel_rfl) (by kernel_rfl) (fun _ _ _ h => h) (Or.inl ⟨by kernel_rfl, ?_⟩) (by assumption) ?_
        rotate_left
        · (intro ww hSw; (try dsimp only at hSw); go_simp); (try with_reducible rfl)
        (try simp only [Act.put, List.setIfInBounds_toArray, List.set_cons_zero, List.set_cons_succ])
        refine wpAnyH_take (i := 13) (oi := ⟨some 34, _, _, _, _, _⟩) (v := ?_) rfl (by kernel_rfl) (by kernel_rfl) (by kernel_rfl) (fun _ _ _ h => h) (Or.inl ⟨by kernel_rfl, ?_⟩) (by assumption) ?_
        rotate_left
        · (intro ww hSw; (try dsimp only at hSw); have c0 : ww.cell? ⟨A, 1, none⟩ = some (.int .i64 k1) := (by rw [blk_cell hSw]; rfl); go_simp); (try with_reducible rfl)
        (try simp only [Act.put, List.setIfInBounds_toArray, List.set_cons_zero, List.set_cons_succ])
        refine wpAnyH_take (i := 14) (oi := ⟨some 35, _, _, _, _, _⟩) (v := ?_) rfl (by kernel_rfl) (by kernel_rfl) (by kernel_rfl) (fun _ _ _ h => h) (Or.inl ⟨by kernel_rfl, ?_⟩) (by assumption) ?_
        rotate_left
        · (intro ww hSw; (try dsimp only at hSw); go_simp); (try with_reducible rfl)
        (try simp only [Act.put, List.setIfInBounds_toArray, List.set_cons_zero, List.set_cons_succ])
        refine wpAnyH_take (i := 16) (oi := ⟨some 37, _, _, _, _, _⟩) (v := ?_) rfl (by kernel_rfl) (by kernel_rfl) (by kernel_rfl) (fun _ _ _ h => h) (Or.inl ⟨by kernel_rfl, ?_⟩) (by assumption) ?_
        rotate_left
        · (intro ww hSw; (try dsimp only at hSw); go_simp); (try with_reducible rfl)
        (try simp only [Act.put, List.setIfInBounds_toArray, List.set_cons_zero, List.set_cons_succ])
        refine wpAnyH_take (i := 17) (oi := ⟨some 38, _, _, _, _, _⟩) (v := ?_) rfl (by kernel_rfl) (by kernel_rfl) (by kernel_rfl) (fun _ _ _ h => h) (Or.inl ⟨by kernel_rfl, ?_⟩) (by assumption) ?_
        rotate_left
        · (intro ww hSw; (try dsimp only at hSw); go_simp); (try with_reducible rfl)
        (try simp only [Act.put, List.setIfInBounds_toArray, List.set_cons_zero, List.set_cons_succ])
        refine wpAnyH_ready (rs := [7]) (by kernel_rfl) (by simp) ?_
        refine AllReadyH.cons rfl (fun K hK => ?_) AllReadyH.nil
        go_simp
        refine hK.out _ _ ?_ (fun hHeld => ?_)
        · (try dsimp only); exact HTT.out.arrb
        clear hK K
        (try simp only [Act.put, List.setIfInBounds_toArray, List.set_cons_zero, List.set_cons_succ])
        refine wpAnyH_ready (rs := [15]) (by kernel_rfl) (by simp) ?_
        refine AllReadyH.cons rfl (fun K hK => ?_) AllReadyH.nil
        go_simp
        refine (delete_calls l1 k1 B u1 _ (spot_lt H.out.o1 HS1.out ((H.out.m1 t).2 HIN.out)) (by rw [H.out.n1]; exact H.out.most) (by exact HTT.out.r1)).mono ?_
        rintro e w5 ⟨v', rfl, ho, hg, hat⟩
        obtain ⟨p', n', c', rfl⟩ := own_slice ho
        replace hg : wr.grownBy w5 u1.ownBlock := by first | exact hg | exact grown_undrew1 hg | exact grown_undrew hg
        have HO5 := Lib.hid ho
        have HG5 := Lib.hid hg
        have HAT5 : Hid ((Value.slice p' n' c').ownBlock = u1.ownBlock ∨ ∃ g, (Value.slice p' n' c').ownBlock = some g ∧ wr.heap.size ≤ g) := .inl hat
        have hm := turn_mid1 HTT.out hg hxj.out
        have HM := Lib.hid hm
        clear ho hg hat hm
        go_wp2_with fail
        refine hK.out _ _ ?_ (fun hHeld => ?_)
        · (try dsimp only); exact HM.out.2.1
        clear hK K
        (try simp only [Act.put, List.setIfInBounds_toArray, List.set_cons_zero, List.set_cons_succ])
        refine wpAnyH_take (i := 18) (oi := ⟨some 39, _, _, _, _, _⟩) (v := ?_) rfl (by kernel_rfl) (by kernel_rfl) (by kernel_rfl) (fun _ _ _ h => h) (Or.inl ⟨by kernel_rfl, ?_⟩) (by assumption) ?_
        rotate_left
        · (intro ww hSw; (try dsimp only at hSw); go_simp); (try with_reducible rfl)
        (try simp only [Act.put, List.setIfInBounds_toArray, List.set_cons_zero, List.set_cons_succ])
        have d0 : w5.cell? ⟨b, 1, none⟩ = some u1 := by rw [blk_cell HM.out.1]; rfl
        have d1 : w5.frozen? ⟨b, 1, none⟩ = false := blk_free HM.out.1 _
        have ts := turn_step1 HTT.out HO5.out HG5.out HAT5.out hxj.out
        have TS := Lib.hid ts
        clear ts
        refine wpAnyH_ready (rs := [19]) (by kernel_rfl) (by simp) ?_
        refine AllReadyH.cons rfl (fun K hK => ?_) AllReadyH.nil
        go_simp
        refine hK.out _ _ ?_ (fun hHeld => ?_)
        · (try dsimp only); exact TS.out.arrb
        clear hK K
        (try simp only [Act.put, List.setIfInBounds_toArray, List.set_cons_zero, List.set_cons_succ])
        refine wpAnyH_done (by kernel_rfl) ?_ _
        go_wp2
        go_roundw
        case rel => exact ⟨2, u0, .slice p' n' c', u2, by omega, by go_num, TS.out, fun h => by omega, fun h => by omega, fun _ => rfl⟩
        case measure => simp [intOf]
      · obtain rfl := e2 (by omega)
        have hT' : Turn w F B b A X #[.int .i64 k0, .int .i64 k1, .int .i64 k2] t u0 u1 u2 (delAt L k0) (delAt l1 k1) (l2) wr := hT
        have HTT := Lib.hid hT'
        clear hT hT'
        obtain ⟨q0, q1, q2⟩ := turn_cells HTT.out
        have hfz : wr.frozen? ⟨b, 2, none⟩ = false := blk_free HTT.out.blk _
        have hxj : Hid (∀ g, u2.ownBlock = some g → g < w.heap.size) := fun g hg => (H.out.r2.lt g hg).2
        go_wp2_with fail
        refine wp_region_held_drew (S := (fun W => Blk W A 71 #[.int .i64 k0, .int .i64 k1, .int .i64 k2])) (by kernel_rfl) ?_ (fun hHeld => ?_)
        · (try dsimp only); exact HTT.out.arrb
        refine wpAnyH_take (i := 0) (oi := ⟨some 21, _, _, _, _, _⟩) (v := ?_) rfl (by kernel_rfl) (by kernel_rfl) (by kernel_rfl) (fun _ _ _ h => h) (Or.inl ⟨by kernel_rfl, ?_⟩) (by assumption) ?_
        rotate_left
        · (intro ww hSw; (try dsimp only at hSw); go_simp); (try with_reducible rfl)
        (try simp only [Act.put, List.setIfInBounds_toArray, List.set_cons_zero, List.set_cons_succ])
        refine wpAnyH_take (i := 1) (oi := ⟨some 22, _, _, _, _, _⟩) (v := ?_) rfl (by kernel_rfl) (by kernel_rfl) (by kernel_rfl) (fun _ _ _ h => h) (Or.inl ⟨by kernel_rfl, ?_⟩) (by assumption) ?_
        rotate_left
        · (intro ww hSw; (try dsimp only at hSw); go_simp); (try with_reducible rfl)
        (try simp only [Act.put, List.setIfInBounds_toArray, List.set_cons_zero, List.set_cons_succ])
        refine wpAnyH_take (i := 2) (oi := ⟨some 23, _, _, _, _, _⟩) (v := ?_) rfl (by kernel_rfl) (by kernel_rfl) (by kernel_rfl) (fun _ _ _ h => h) (Or.inl ⟨by kernel_rfl, ?_⟩) (by assumption) ?_
        rotate_left
        · (intro ww hSw; (try dsimp only at hSw); go_simp); (try with_reducible rfl)
        (try simp only [Act.put, List.setIfInBounds_toArray, List.set_cons_zero, List.set_cons_succ])
        refine wpAnyH_take (i := 3) (oi := ⟨some 24, _, _, _, _, _⟩) (v := ?_) rfl (by kernel_rfl) (by kernel_rfl) (by kernel_rfl) (fun _ _ _ h => h) (Or.inl ⟨by kernel_rfl, ?_⟩) (by assumption) ?_
        rotate_left
        · (intro ww hSw; (try dsimp only at hSw); go_simp); (try with_reducible rfl)
        (try simp only [Act.put, List.setIfInBounds_toArray, List.set_cons_zero, List.set_cons_succ])
        refine wpAnyH_take (i := 4) (oi := ⟨some 25, _, _, _, _, _⟩) (v := ?_) rfl (by kernel_rfl) (by kernel_rfl) (by kernel_rfl) (fun _ _ _ h => h) (Or.inl ⟨by kernel_rfl, ?_⟩) (by assumption) ?_
        rotate_left
        · (intro ww hSw; (try dsimp only at hSw); go_simp); (try with_reducible rfl)
        (try simp only [Act.put, List.setIfInBounds_toArray, List.set_cons_zero, List.set_cons_succ])
        refine wpAnyH_take (i := 5) (oi := ⟨some 26, _, _, _, _, _⟩) (v := ?_) rfl (by kernel_rfl) (by kernel_rfl) (by kernel_rfl) (fun _ _ _ h => h) (Or.inl ⟨by kernel_rfl, ?_⟩) (by assumption) ?_
        rotate_left
        · (intro ww hSw; (try dsimp only at hSw); go_simp); (try with_reducible rfl)
        (try simp only [Act.put, List.setIfInBounds_toArray, List.set_cons_zero, List.set_cons_succ])
        refine wpAnyH_take (i := 6) (oi := ⟨some 27, _, _, _, _, _⟩) (v := ?_) rfl (by kernel_rfl) (by kernel_rfl) (by kernel_rfl) (fun _ _ _ h => h) (Or.inl ⟨by kernel_rfl, ?_⟩) (by assumption) ?_
        rotate_left
        · (intro ww hSw; (try dsimp only at hSw); go_simp); (try with_reducible rfl)
        (try simp only [Act.put, List.setIfInBounds_toArray, List.set_cons_zero, List.set_cons_succ])
        refine wpAnyH_take (i := 8) (oi := ⟨some 29, _, _, _, _, _⟩) (v := ?_) rfl (by kernel_rfl) (by kernel_rfl) (by kernel_rfl) (fun _ _ _ h => h) (Or.inl ⟨by kernel_rfl, ?_⟩) (by assumption) ?_
        rotate_left
        · (intro ww hSw; (try dsimp only at hSw); go_simp); (try with_reducible rfl)
        (try simp only [Act.put, List.setIfInBounds_toArray, List.set_cons_zero, List.set_cons_succ])
        refine wpAnyH_take (i := 9) (oi := ⟨some 30, _, _, _, _, _⟩) (v := ?_) rfl (by kernel_rfl) (by kernel_rfl) (by kernel_rfl) (fun _ _ _ h => h) (Or.inl ⟨by kernel_rfl, ?_⟩) (by assumption) ?_
        rotate_left
        · (intro ww hSw; (try dsimp only at hSw); go_simp); (try with_reducible rfl)
        (try simp only [Act.put, List.setIfInBounds_toArray, List.set_cons_zero, List.set_cons_succ])
        refine wpAnyH_take (i := 10) (oi := ⟨some 31, _, _, _, _, _⟩) (v := ?_) rfl (by kernel_rfl) (by kernel_rfl) (by kernel_rfl) (fun _ _ _ h => h) (Or.inl ⟨by kernel_rfl, ?_⟩) (by assumption) ?_
        rotate_left
        · (intro ww hSw; (try dsimp only at hSw); have c0 : ww.cell? ⟨A, 2, none⟩ = some (.int .i64 k2) := (by rw [blk_cell hSw]; rfl); go_simp); (try with_reducible rfl)
        (try simp only [Act.put, List.setIfInBounds_toArray, List.set_cons_zero, List.set_cons_succ])
        refine wpAnyH_take (i := 11) (oi := ⟨some 32, _, _, _, _, _⟩) (v := ?_) rfl (by kernel_rfl) (by kernel_rfl) (by kernel_rfl) (fun _ _ _ h => h) (Or.inl ⟨by kernel_rfl, ?_⟩) (by assumption) ?_
        rotate_left
        · (intro ww hSw; (try dsimp only at hSw); go_simp); (try with_reducible rfl)
        (try simp only [Act.put, List.setIfInBounds_toArray, List.set_cons_zero, List.set_cons_succ])
        refine wpAnyH_take (i := 12) (oi := ⟨some 33, _, _, _, _, _⟩) (v := ?_) rfl (by kernel_rfl) (by kernel_rfl) (by kernel_rfl) (fun _ _ _ h => h) (Or.inl ⟨by kernel_rfl, ?_⟩) (by assumption) ?_
        rotate_left
        · (intro ww hSw; (try dsimp only at hSw); go_simp); (try with_reducible rfl)
        (try simp only [Act.put, List.setIfInBounds_toArray, List.set_cons_zero, List.set_cons_succ])
        refine wpAnyH_take (i := 13) (oi := ⟨some 34, _, _, _, _, _⟩) (v := ?_) rfl (by kernel_rfl) (by kernel_rfl) (by kernel_rfl) (fun _ _ _ h => h) (Or.inl ⟨by kernel_rfl, ?_⟩) (by assumption) ?_
        rotate_left
        · (intro ww hSw; (try dsimp only at hSw); have c0 : ww.cell? ⟨A, 2, none⟩ = some (.int .i64 k2) := (by rw [blk_cell hSw]; rfl); go_simp); (try with_reducible rfl)
        (try simp only [Act.put, List.setIfInBounds_toArray, List.set_cons_zero, List.set_cons_succ])
        refine wpAnyH_take (i := 14) (oi := ⟨some 35, _, _, _, _, _⟩) (v := ?_) rfl (by kernel_rfl) (by kernel_rfl) (by kernel_rfl) (fun _ _ _ h => h) (Or.inl ⟨by kernel_rfl, ?_⟩) (by assumption) ?_
        rotate_left
        · (intro ww hSw; (try dsimp only at hSw); go_simp); (try with_reducible rfl)
        (try simp only [Act.put, List.setIfInBounds_toArray, List.set_cons_zero, List.set_cons_succ])
        refine wpAnyH_take (i := 16) (oi := ⟨some 37, _, _, _, _, _⟩) (v := ?_) rfl (by kernel_rfl) (by kernel_rfl) (by kernel_rfl) (fun _ _ _ h => h) (Or.inl ⟨by kernel_rfl, ?_⟩) (by assumption) ?_
        rotate_left
        · (intro ww hSw; (try dsimp only at hSw); go_simp); (try with_reducible rfl)
        (try simp only [Act.put, List.setIfInBounds_toArray, List.set_cons_zero, List.set_cons_succ])
        refine wpAnyH_take (i := 17) (oi := ⟨some 38, _, _, _, _, _⟩) (v := ?_) rfl (by kernel_rfl) (by kernel_rfl) (by kernel_rfl) (fun _ _ _ h => h) (Or.inl ⟨by kernel_rfl, ?_⟩) (by assumption) ?_
        rotate_left
        · (intro ww hSw; (try dsimp only at hSw); go_simp); (try with_reducible rfl)
        (try simp only [Act.put, List.setIfInBounds_toArray, List.set_cons_zero, List.set_cons_succ])
        refine wpAnyH_ready (rs := [7]) (by kernel_rfl) (by simp) ?_
        refine AllReadyH.cons rfl (fun K hK => ?_) AllReadyH.nil
        go_simp
        refine hK.out _ _ ?_ (fun hHeld => ?_)
        · (try dsimp only); exact HTT.out.arrb
        clear hK K
        (try simp only [Act.put, List.setIfInBounds_toArray, List.set_cons_zero, List.set_cons_succ])
        refine wpAnyH_ready (rs := [15]) (by kernel_rfl) (by simp) ?_
        refine AllReadyH.cons rfl (fun K hK => ?_) AllReadyH.nil
        go_simp
        refine (delete_calls l2 k2 B u2 _ (spot_lt H.out.o2 HS2.out ((H.out.m2 t).2 HIN.out)) (by rw [H.out.n2]; exact H.out.most) (by exact HTT.out.r2)).mono ?_
        rintro e w5 ⟨v', rfl, ho, hg, hat⟩
        obtain ⟨p', n', c', rfl⟩ := own_slice ho
        replace hg : wr.grownBy w5 u2.ownBlock := by first | exact hg | exact grown_undrew1 hg | exact grown_undrew hg
        have HO5 := Lib.hid ho
        have HG5 := Lib.hid hg
        have HAT5 : Hid ((Value.slice p' n' c').ownBlock = u2.ownBlock ∨ ∃ g, (Value.slice p' n' c').ownBlock = some g ∧ wr.heap.size ≤ g) := .inl hat
        have hm := turn_mid2 HTT.out hg hxj.out
        have HM := Lib.hid hm
        clear ho hg hat hm
        go_wp2_with fail
        refine hK.out _ _ ?_ (fun hHeld => ?_)
        · (try dsimp only); exact HM.out.2.1
        clear hK K
        (try simp only [Act.put, List.setIfInBounds_toArray, List.set_cons_zero, List.set_cons_succ])
        refine wpAnyH_take (i := 18) (oi := ⟨some 39, _, _, _, _, _⟩) (v := ?_) rfl (by kernel_rfl) (by kernel_rfl) (by kernel_rfl) (fun _ _ _ h => h) (Or.inl ⟨by kernel_rfl, ?_⟩) (by assumption) ?_
        rotate_left
        · (intro ww hSw; (try dsimp only at hSw); go_simp); (try with_reducible rfl)
        (try simp only [Act.put, List.setIfInBounds_toArray, List.set_cons_zero, List.set_cons_succ])
        have d0 : w5.cell? ⟨b, 2, none⟩ = some u2 := by rw [blk_cell HM.out.1]; rfl
        have d1 : w5.frozen? ⟨b, 2, none⟩ = false := blk_free HM.out.1 _
        have ts := turn_step2 HTT.out HO5.out HG5.out HAT5.out hxj.out
        have TS := Lib.hid ts
        clear ts
        refine wpAnyH_ready (rs := [19]) (by kernel_rfl) (by simp) ?_
        refine AllReadyH.cons rfl (fun K hK => ?_) AllReadyH.nil
        go_simp
        refine hK.out _ _ ?_ (fun hHeld => ?_)
        · (try dsimp only); exact TS.out.arrb
        clear hK K
        (try simp only [Act.put, List.setIfInBounds_toArray, List.set_cons_zero, List.set_cons_succ])
        refine wpAnyH_done (by kernel_rfl) ?_ _
        go_wp2
        go_roundw
        case rel => exact ⟨3, u0, u1, .slice p' n' c', by omega, by go_num, TS.out, fun h => by omega, fun h => by omega, fun h => by omega⟩
        case measure => simp [intOf]
      · have HTT := Lib.hid (show Turn w F B b A X #[.int .i64 k0, .int .i64 k1, .int .i64 k2] t u0 u1 u2 (delAt L k0) (delAt l1 k1) (delAt l2 k2) wr from hT)
        clear hT
        go_wp2
        go_ret
        exact ⟨by rw [decide_eq_true HIN.out]; rfl, turn_removed H.out HTT.out HS0.out HS1.out HS2.out HIN.out⟩
  · have HIN := Lib.hid hin
    clear hin
    go_enter Tryz.func11, Tryz.ntmps11
    go_wp2_with fail
    refine (find_calls B b v0 v1 v2 L l1 l2 t _ (sto_on H.out (box_below _ _) (Nat.le_refl _))).mono ?_
    rintro e w3 ⟨k0, k1, k2, rfl, _, _, _, hb3⟩
    have hb2 := one_box hb3
    rw [show decide (t ∈ L) = false from decide_eq_false HIN.out]
    clear hb3
    go_wp2
    go_ret
    exact ⟨by rw [decide_eq_false HIN.out]; rfl, by rw [remL_none HIN.out]; exact stp_same H.out HF.out (by first | exact hb2.alloc hb2.size _ | exact (((hb2.alloc hb2.size _).setCell hb2.size _).setCell hb2.size _).setCell hb2.size _)⟩

end Go.Proofs.YtnojdchodmogbaaGreat
