/- The piece of a store's list that a pattern's given terms choose: package store's near. -/
import Derived.Test.YtnojdchodmogbaaStoSearch
namespace Go.Proofs.Ytnojdchodmogbaa
open Go.RowKit

def selV (f : Nat) (a b c : Value) : Value := if f = 0 then a else if f = 1 then b else c
def selL (f : Nat) (a b c : List TripL) : List TripL := if f = 0 then a else if f = 1 then b else c
theorem sel_facts {w : World} {B b : Nat} {v0 v1 v2 : Value} {L l1 l2 : List TripL} (h : Sto w B b v0 v1 v2 L l1 l2) (f : Nat) (hf : f ≤ 2) :
    w.cell? ⟨b, f, none⟩ = some (selV f v0 v1 v2) ∧ Own w B (selV f v0 v1 v2) (selL f L l1 l2) ∧ Ord f (selL f L l1 l2) ∧ (∀ t, t ∈ selL f L l1 l2 ↔ t ∈ L) ∧ (selL f L l1 l2).length = L.length := by
  obtain ⟨q0, q1, q2⟩ := sto_cells h
  rcases (by omega : f = 0 ∨ f = 1 ∨ f = 2) with rfl | rfl | rfl
  · exact ⟨q0, h.r0, h.o0, fun _ => Iff.rfl, rfl⟩
  · exact ⟨q1, h.r1, h.o1, h.m1, h.n1⟩
  · exact ⟨q2, h.r2, h.o2, h.m2, h.n2⟩

/- a piece of a list, as a slice -/
def Piece (w : World) (v : Value) (M : List TripL) : Prop :=
  (∃ a c, v = .slice a 0 c ∧ M = []) ∨ ∃ g o cap, v = .slice (some ⟨g, o * 12, none⟩) M.length cap ∧ g < w.heap.size ∧ M.length ≤ cap ∧ ∀ j (h : j < M.length), Cells12 w g (o + j) M[j]
def NearT (M : List TripL) (w : World) (e : Ending) (w' : World) : Prop := ∃ v', e = .returned v' ∧ Piece w' v' M ∧ Below w.heap.size w w'
theorem getD_at {l : List TripL} {j : Nat} (h : j < l.length) : l.getD j default = l[j] := by simp [List.getD, h]

set_option maxRecDepth 100000 in
set_option maxHeartbeats 8000000 in
theorem near_calls (B b : Nat) (v0 v1 v2 : Value) (L l1 l2 : List TripL) (p : TripL) (w : World) (h : Sto w B b v0 v1 v2 L l1 l2) :
    Calls Try.prog 22 #[.pointer (some ⟨b, 0, none⟩), p.v] w (NearT ((selL (gv p 3).1 L l1 l2).filter (fun x => decide (cmpK x p (gv p 3).1 (gv p 3).2 = 0))) w) := by
  have hblt := blk_lt h.blk
  obtain ⟨hf, hn⟩ := gv_le p 3 (Nat.le_refl _)
  obtain ⟨qf, ho, hord, _, hlen⟩ := sel_facts h (gv p 3).1 hf
  have hl : (selL (gv p 3).1 L l1 l2).length ≤ 4096 := by rw [hlen]; exact h.most
  have bx0 := blk_new w 25 (cells12 p)
  have eg1 : ∀ args w, (callFunc 46 args).run Try.prog w = .ok (.enter 46 args) w := enters_of Try.func46 (by kernel_rfl) rfl
  have eg2 : ∀ args w, (callFunc 47 args).run Try.prog w = .ok (.enter 47 args) w := enters_of Try.func47 (by kernel_rfl) rfl
  obtain ⟨f, hfe⟩ : ∃ f, (gv p 3).1 = f := ⟨_, rfl⟩
  obtain ⟨n, hne⟩ : ∃ n, (gv p 3).2 = n := ⟨_, rfl⟩
  rw [hfe] at hf qf ho hord hl
  rw [hne] at hn
  rw [hfe, hne]
  obtain ⟨l, hle⟩ : ∃ l, selL f L l1 l2 = l := ⟨_, rfl⟩
  rw [hle] at ho hord hl ⊢
  obtain ⟨v, hve⟩ : ∃ v, selV f v0 v1 v2 = v := ⟨_, rfl⟩
  rw [hve] at qf ho
  have HFE := Lib.hid hfe
  have HNE := Lib.hid hne
  have HORD := Lib.hid hord
  have HOWN := Lib.hid ho
  have HQF := Lib.hid qf
  have BX0 := Lib.hid bx0
  clear h hfe hne hle hve hord hlen bx0 qf
  simp only [TripL.v]
  go_enter Try.func22, Try.ntmps22
  go_wp2_with fail
  refine (given_calls p _).mono ?_
  rintro e w1 ⟨rfl, hb1⟩
  have bx1 := Lib.hid (blk_on BX0.out hb1 (blk_lt BX0.out))
  replace hb1 := one_box hb1
  rw [HFE.out, HNE.out]
  go_wp2_with fail
  refine name_world (fun W2 hW2 => ?_)
  have hb2 : Below w1.heap.size w1 W2 := by rw [hW2]; first | exact two_alloc _ _ _ | exact ((two_alloc _ _ _).setCell (by simp) _).setCell (by simp) _
  have hs2 : W2.heap.size = w1.heap.size + 2 := by rw [hW2]; simp
  have cf2 : W2.cell? ⟨w1.heap.size, 0, none⟩ = some (.int .i64 f) := by rw [hW2]; simp [go_sem]
  have cn2 : W2.cell? ⟨w1.heap.size + 1, 0, none⟩ = some (.int .i64 n) := by rw [hW2]; simp [go_sem]
  clear hW2
  have hbw := first_below hb1 hb2
  have qf2 := keptC HQF.out hbw hblt
  have bx2 := blk_on bx1.out hb2 (blk_lt bx1.out)
  have hbb : b < W2.heap.size := Nat.lt_of_lt_of_le hblt hbw.size
  obtain ⟨S1, hS1⟩ : ∃ S1, w1.heap.size = S1 := ⟨_, rfl⟩
  rw [hS1] at hs2 cf2 cn2
  simp only [hS1]
  obtain ⟨T0, hT0⟩ : ∃ T0, w.heap.size = T0 := ⟨_, rfl⟩
  rw [hT0] at bx2
  simp only [hT0]
  have hT1 : T0 < W2.heap.size := blk_lt bx2
  have HT0 := Lib.hid hT0
  have HS2 := Lib.hid hs2
  have CF2 := Lib.hid cf2
  have CN2 := Lib.hid cn2
  have QF2 := Lib.hid qf2
  have BX2 := Lib.hid bx2
  have HBW := Lib.hid hbw
  clear hb1 hb2 hS1 hT0 hs2 cn2 qf2 bx2 hbw
  have hf3 : (f : Int) < 3 := by omega
  have hf0 : (0 : Int) ≤ (f : Int) := by omega
  rcases own_cases HOWN.out with ⟨hv, hl0⟩ | ⟨g, cap, hv, hg, hcap, _, _, hrow⟩
  · subst hv
    subst hl0
    go_wp2_with fail
    refine wp_region_held_drew (S := (fun W => Below W2.heap.size W2 W)) (by kernel_rfl) ?_ (fun hHeld => ?_)
    · (try dsimp only); first | exact Below.refl _ _ | exact (Below.refl _ _).drew
    refine wpAnyH_take (i := 0) (oi := ⟨some 15, _, _, _, _, _⟩) (v := ?_) rfl (by kernel_rfl) (by kernel_rfl) (by kernel_rfl) (fun _ _ _ h => h) (Or.inl ⟨by kernel_rfl, ?_⟩) (by assumption) ?_
    rotate_left
    · (intro ww hSw; (try dsimp only at hSw); go_simp); (try with_reducible rfl)
    (try simp only [Act.put, List.setIfInBounds_toArray, List.set_cons_zero, List.set_cons_succ])
    refine wpAnyH_take (i := 1) (oi := ⟨some 16, _, _, _, _, _⟩) (v := ?_) rfl (by kernel_rfl) (by kernel_rfl) (by kernel_rfl) (fun _ _ _ h => h) (Or.inl ⟨by kernel_rfl, ?_⟩) (by assumption) ?_
    rotate_left
    · (intro ww hSw; (try dsimp only at hSw); have c0 := keptC CF2.out hSw (by have := HS2.out; omega); go_simp); (try with_reducible rfl)
    (try simp only [Act.put, List.setIfInBounds_toArray, List.set_cons_zero, List.set_cons_succ])
    refine wpAnyH_take (i := 2) (oi := ⟨some 17, _, _, _, _, _⟩) (v := ?_) rfl (by kernel_rfl) (by kernel_rfl) (by kernel_rfl) (fun _ _ _ h => h) (Or.inl ⟨by kernel_rfl, ?_⟩) (by assumption) ?_
    rotate_left
    · (intro ww hSw; (try dsimp only at hSw); go_simp); (try with_reducible rfl)
    (try simp only [Act.put, List.setIfInBounds_toArray, List.set_cons_zero, List.set_cons_succ])
    refine wpAnyH_take (i := 3) (oi := ⟨some 18, _, _, _, _, _⟩) (v := ?_) rfl (by kernel_rfl) (by kernel_rfl) (by kernel_rfl) (fun _ _ _ h => h) (Or.inl ⟨by kernel_rfl, ?_⟩) (by assumption) ?_
    rotate_left
    · (intro ww hSw; (try dsimp only at hSw); go_simp); (try with_reducible rfl)
    (try simp only [Act.put, List.setIfInBounds_toArray, List.set_cons_zero, List.set_cons_succ])
    refine wpAnyH_take (i := 4) (oi := ⟨some 19, _, _, _, _, _⟩) (v := ?_) rfl (by kernel_rfl) (by kernel_rfl) (by kernel_rfl) (fun _ _ _ h => h) (Or.inl ⟨by kernel_rfl, ?_⟩) (by assumption) ?_
    rotate_left
    · (intro ww hSw; (try dsimp only at hSw); go_simp); (try with_reducible rfl)
    (try simp only [Act.put, List.setIfInBounds_toArray, List.set_cons_zero, List.set_cons_succ])
    refine wpAnyH_take (i := 5) (oi := ⟨some 20, _, _, _, _, _⟩) (v := ?_) rfl (by kernel_rfl) (by kernel_rfl) (by kernel_rfl) (fun _ _ _ h => h) (Or.inl ⟨by kernel_rfl, ?_⟩) (by assumption) ?_
    rotate_left
    · (intro ww hSw; (try dsimp only at hSw); have c0 := keptC QF2.out hSw hbb; go_simp); (try with_reducible rfl)
    (try simp only [Act.put, List.setIfInBounds_toArray, List.set_cons_zero, List.set_cons_succ])
    refine wpAnyH_ready (rs := [6]) (by kernel_rfl) (by simp) ?_
    refine AllReadyH.cons rfl (fun K hK => ?_) AllReadyH.nil
    go_simp
    refine hK.out _ _ ?_ (fun hHeld => ?_)
    · (try dsimp only); exact (Below.refl _ _).drew.alloc (Nat.le_refl _) _
    clear hK K
    (try simp only [Act.put, List.setIfInBounds_toArray, List.set_cons_zero, List.set_cons_succ])
    refine wpAnyH_ready (rs := [7]) (by kernel_rfl) (by simp) ?_
    refine AllReadyH.cons rfl (fun K hK => ?_) AllReadyH.nil
    go_simp
    refine hK.out _ _ ?_ (fun hHeld => ?_)
    · (try dsimp only); first | exact (box_below _ _).drew | exact ((Below.refl W2.heap.size W2).drew.alloc (Nat.le_refl W2.heap.size) _).setCell (Nat.le_refl W2.heap.size) _
    clear hK K
    (try simp only [Act.put, List.setIfInBounds_toArray, List.set_cons_zero, List.set_cons_succ])
    refine wpAnyH_done (by kernel_rfl) ?_ _
    go_wp2_with fail
    have hb3 : Below W2.heap.size W2 ((W2.alloc (.cells #[.slice none 0 0] 38)).drew) := (box_below _ _).drew
    refine (search_calls 46 #[.pointer (some ⟨W2.heap.size, 0, none⟩), .pointer (some ⟨T0, 0, none⟩), .pointer (some ⟨S1, 0, none⟩), .pointer (some ⟨S1 + 1, 0, none⟩)] eg1 (fun _ => true) 0 (by omega) _ (fun _ _ _ _ h => h) (fun _ j _ hj => by omega)).mono ?_
    rintro e w4 ⟨k1, rfl, hk1, hb4⟩
    obtain rfl : k1 = 0 := by have := hk1.1; omega
    replace hb3 := first_below hb3 hb4
    have cl4 : w4.cell? ⟨W2.heap.size, 0, none⟩ = some (.slice none 0 0) := keptC (B := W2.heap.size + 1) (by show (W2.alloc _).cell? _ = _; simp [go_sem]) (hb4.mono (by simp [World.drew])) (by omega)
    clear hb4 hk1
    go_wp2_with fail
    refine (search_calls 47 #[.pointer (some ⟨W2.heap.size, 0, none⟩), .pointer (some ⟨T0, 0, none⟩), .pointer (some ⟨S1, 0, none⟩), .pointer (some ⟨S1 + 1, 0, none⟩)] eg2 (fun _ => true) 0 (by omega) _ (fun _ _ _ _ h => h) (fun _ j _ hj => by omega)).mono ?_
    rintro e w5 ⟨k2, rfl, hk2, hb5⟩
    obtain rfl : k2 = 0 := by have := hk2.1; omega
    have cl5 : w5.cell? ⟨W2.heap.size, 0, none⟩ = some (.slice none 0 0) := keptC cl4 hb5 (World.block_lt_of_cell? _ _ cl4)
    replace hb3 := first_below hb3 hb5
    clear hb5 hk2
    go_wp2
    go_ret
    exact ⟨_, rfl, .inl ⟨_, _, rfl, rfl⟩, first_below HBW.out hb3⟩
  · subst hv
    have hlN : l.length ≤ 1000000 := by omega
    have seen3 : Seen ((W2.alloc (.cells #[.slice (some ⟨g, 0, none⟩) l.length cap] 38)).drew) W2.heap.size T0 S1 (S1 + 1) g cap f n l p := by
      have hbx : Below W2.heap.size W2 ((W2.alloc (.cells #[.slice (some ⟨g, 0, none⟩) l.length cap] 38)).drew) := (box_below _ _).drew
      have hgw : g < W2.heap.size := Nat.lt_of_lt_of_le hg HBW.out.size
      have hsz : ((W2.alloc (.cells #[.slice (some ⟨g, 0, none⟩) l.length cap] 38)).drew).heap.size = W2.heap.size + 1 := by simp [World.drew]
      refine ⟨by show (W2.alloc _).cell? _ = _; simp [go_sem], box_on (box12_of BX2.out) hbx hT1, keptC CF2.out hbx (by have := HS2.out; omega), keptC CN2.out hbx (by have := HS2.out; omega), fun j hj => cells_on (cells_on (hrow j hj) HBW.out hg) hbx hgw, ?_⟩
      rw [hsz]
      have := HS2.out
      exact ⟨by omega, by omega, by omega, by omega, by omega⟩
    have hb3 : Below W2.heap.size W2 ((W2.alloc (.cells #[.slice (some ⟨g, 0, none⟩) l.length cap] 38)).drew) := (box_below _ _).drew
    have SEEN3 := Lib.hid seen3
    clear seen3 hrow
    go_wp2_with fail
    refine wp_region_held_drew (S := (fun W => Below W2.heap.size W2 W)) (by kernel_rfl) ?_ (fun hHeld => ?_)
    · (try dsimp only); first | exact Below.refl _ _ | exact (Below.refl _ _).drew
    refine wpAnyH_take (i := 0) (oi := ⟨some 15, _, _, _, _, _⟩) (v := ?_) rfl (by kernel_rfl) (by kernel_rfl) (by kernel_rfl) (fun _ _ _ h => h) (Or.inl ⟨by kernel_rfl, ?_⟩) (by assumption) ?_
    rotate_left
    · (intro ww hSw; (try dsimp only at hSw); go_simp); (try with_reducible rfl)
    (try simp only [Act.put, List.setIfInBounds_toArray, List.set_cons_zero, List.set_cons_succ])
    refine wpAnyH_take (i := 1) (oi := ⟨some 16, _, _, _, _, _⟩) (v := ?_) rfl (by kernel_rfl) (by kernel_rfl) (by kernel_rfl) (fun _ _ _ h => h) (Or.inl ⟨by kernel_rfl, ?_⟩) (by assumption) ?_
    rotate_left
    · (intro ww hSw; (try dsimp only at hSw); have c0 := keptC CF2.out hSw (by have := HS2.out; omega); go_simp); (try with_reducible rfl)
    (try simp only [Act.put, List.setIfInBounds_toArray, List.set_cons_zero, List.set_cons_succ])
    refine wpAnyH_take (i := 2) (oi := ⟨some 17, _, _, _, _, _⟩) (v := ?_) rfl (by kernel_rfl) (by kernel_rfl) (by kernel_rfl) (fun _ _ _ h => h) (Or.inl ⟨by kernel_rfl, ?_⟩) (by assumption) ?_
    rotate_left
    · (intro ww hSw; (try dsimp only at hSw); go_simp); (try with_reducible rfl)
    (try simp only [Act.put, List.setIfInBounds_toArray, List.set_cons_zero, List.set_cons_succ])
    refine wpAnyH_take (i := 3) (oi := ⟨some 18, _, _, _, _, _⟩) (v := ?_) rfl (by kernel_rfl) (by kernel_rfl) (by kernel_rfl) (fun _ _ _ h => h) (Or.inl ⟨by kernel_rfl, ?_⟩) (by assumption) ?_
    rotate_left
    · (intro ww hSw; (try dsimp only at hSw); go_simp); (try with_reducible rfl)
    (try simp only [Act.put, List.setIfInBounds_toArray, List.set_cons_zero, List.set_cons_succ])
    refine wpAnyH_take (i := 4) (oi := ⟨some 19, _, _, _, _, _⟩) (v := ?_) rfl (by kernel_rfl) (by kernel_rfl) (by kernel_rfl) (fun _ _ _ h => h) (Or.inl ⟨by kernel_rfl, ?_⟩) (by assumption) ?_
    rotate_left
    · (intro ww hSw; (try dsimp only at hSw); go_simp); (try with_reducible rfl)
    (try simp only [Act.put, List.setIfInBounds_toArray, List.set_cons_zero, List.set_cons_succ])
    refine wpAnyH_take (i := 5) (oi := ⟨some 20, _, _, _, _, _⟩) (v := ?_) rfl (by kernel_rfl) (by kernel_rfl) (by kernel_rfl) (fun _ _ _ h => h) (Or.inl ⟨by kernel_rfl, ?_⟩) (by assumption) ?_
    rotate_left
    · (intro ww hSw; (try dsimp only at hSw); have c0 := keptC QF2.out hSw hbb; go_simp); (try with_reducible rfl)
    (try simp only [Act.put, List.setIfInBounds_toArray, List.set_cons_zero, List.set_cons_succ])
    refine wpAnyH_ready (rs := [6]) (by kernel_rfl) (by simp) ?_
    refine AllReadyH.cons rfl (fun K hK => ?_) AllReadyH.nil
    go_simp
    refine hK.out _ _ ?_ (fun hHeld => ?_)
    · (try dsimp only); exact (Below.refl _ _).drew.alloc (Nat.le_refl _) _
    clear hK K
    (try simp only [Act.put, List.setIfInBounds_toArray, List.set_cons_zero, List.set_cons_succ])
    refine wpAnyH_ready (rs := [7]) (by kernel_rfl) (by simp) ?_
    refine AllReadyH.cons rfl (fun K hK => ?_) AllReadyH.nil
    go_simp
    refine hK.out _ _ ?_ (fun hHeld => ?_)
    · (try dsimp only); first | exact (box_below _ _).drew | exact ((Below.refl W2.heap.size W2).drew.alloc (Nat.le_refl W2.heap.size) _).setCell (Nat.le_refl W2.heap.size) _
    clear hK K
    (try simp only [Act.put, List.setIfInBounds_toArray, List.set_cons_zero, List.set_cons_succ])
    refine wpAnyH_done (by kernel_rfl) ?_ _
    go_wp2_with fail
    refine (search_calls 46 #[.pointer (some ⟨W2.heap.size, 0, none⟩), .pointer (some ⟨T0, 0, none⟩), .pointer (some ⟨S1, 0, none⟩), .pointer (some ⟨S1 + 1, 0, none⟩)] eg1 (fun j => decide (0 ≤ cmpK (l.getD j default) p f n)) l.length hlN _ (fun a b h1 h2 h3 => ?_) (fun W j hW hj => ?_)).mono ?_
    · have h3' := of_decide_eq_true h3
      rw [getD_at (by omega)] at h3'
      rw [getD_at h2]
      exact decide_eq_true (seg_ge HORD.out hn h1 h2 h3')
    · rw [getD_at hj]
      exact near1_calls _ _ _ _ _ _ f n j l p hf hn hj W (seen_on SEEN3.out hW (Nat.le_refl _))
    rintro e w4 ⟨k1, rfl, hk1, hb4⟩
    have SEEN4 := Lib.hid (seen_on SEEN3.out hb4 (Nat.le_refl _))
    replace hb3 := first_below hb3 hb4
    have HK1 := Lib.hid hk1
    have cl4 := SEEN4.out.cl
    clear hb4 hk1
    go_wp2_with fail
    refine (search_calls 47 #[.pointer (some ⟨W2.heap.size, 0, none⟩), .pointer (some ⟨T0, 0, none⟩), .pointer (some ⟨S1, 0, none⟩), .pointer (some ⟨S1 + 1, 0, none⟩)] eg2 (fun j => decide (0 < cmpK (l.getD j default) p f n)) l.length hlN _ (fun a b h1 h2 h3 => ?_) (fun W j hW hj => ?_)).mono ?_
    · have h3' := of_decide_eq_true h3
      rw [getD_at (by omega)] at h3'
      rw [getD_at h2]
      exact decide_eq_true (seg_gt HORD.out hn h1 h2 h3')
    · rw [getD_at hj]
      exact near2_calls _ _ _ _ _ _ f n j l p hf hn hj W (seen_on SEEN4.out hW (Nat.le_refl _))
    rintro e w5 ⟨k2, rfl, hk2, hb5⟩
    have SEEN5 := Lib.hid (seen_on SEEN4.out hb5 (Nat.le_refl _))
    replace hb3 := first_below hb3 hb5
    have cl5 := SEEN5.out.cl
    obtain ⟨hle, hfil⟩ := seg_filter HK1.out hk2
    have hk2N := hk2.1
    have HFIL := Lib.hid hfil
    clear hb5 hk2 hfil cl4
    have i1 : (k1 : Int) ≤ (k2 : Int) := by omega
    have i2 : (k2 : Int) ≤ (cap : Int) := by omega
    have i3 : (0 : Int) ≤ (k1 : Int) := by omega
    have hlen2 : (l.filter (fun x => decide (cmpK x p f n = 0))).length = k2 - k1 := by rw [← HFIL.out, List.length_take, List.length_drop]; omega
    have HLEN2 := Lib.hid hlen2
    clear hlen2
    have hfin := first_below HBW.out hb3
    have HROW := Lib.hid SEEN5.out.row
    have hg5 := SEEN5.out.lt.2.2.2.2
    generalize hNl : l.length = N at cl5 hk2N hcap
    have HNL := Lib.hid hNl
    clear hNl
    by_cases hc : cap = k1
    · go_wp2
      go_ret
      exact ⟨_, rfl, .inl ⟨_, _, by first | rfl | (rw [show k2 - k1 = 0 by omega]; rfl), List.eq_nil_of_length_eq_zero (by rw [HLEN2.out]; omega)⟩, hfin⟩
    · go_wp2
      go_ret
      refine ⟨_, rfl, .inr ⟨g, k1, cap - k1, by rw [HLEN2.out]; rfl, hg5, by rw [HLEN2.out]; omega, fun j hj => ?_⟩, hfin⟩
      rw [HLEN2.out] at hj
      have hjl : k1 + j < l.length := by rw [HNL.out]; omega
      have e : (l.filter (fun x => decide (cmpK x p f n = 0)))[j]'(by rw [HLEN2.out]; exact hj) = l[k1 + j] := by
        have := HFIL.out
        simp only [← this, List.getElem_take, List.getElem_drop]
      rw [e]
      exact HROW.out (k1 + j) hjl

end Go.Proofs.Ytnojdchodmogbaa
