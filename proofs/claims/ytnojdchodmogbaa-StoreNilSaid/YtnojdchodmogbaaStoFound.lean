/- The triples that match a pattern, in order: package store's matching. -/
import Derived.Test.YtnojdchodmogbaaStoAlike
import Derived.Test.YtnojdchodmogbaaStoSort
namespace Go.Proofs.Ytnojdchodmogbaa
open Go.RowKit

theorem piece_cases {w : World} {v : Value} {M : List TripL} (h : Piece w v M) : (∃ a c, v = .slice a 0 c ∧ M = []) ∨ (∃ g o cap, v = .slice (some ⟨g, o * 12, none⟩) M.length cap ∧ g < w.heap.size ∧ M.length ≤ cap ∧ ∀ j (h : j < M.length), Cells12 w g (o + j) M[j]) := h
theorem filter_succ (M : List TripL) (P : TripL → Bool) (k : Nat) (hk : k < M.length) : (M.take (k + 1)).filter P = (M.take k).filter P ++ (if P M[k] then [M[k]] else []) := by
  rw [List.take_succ_eq_append_getElem hk, List.filter_append]
  congr 1
  by_cases h : P M[k] = true
  · rw [List.filter_cons_of_pos h, if_pos h]; rfl
  · rw [List.filter_cons_of_neg h, if_neg h]; rfl

/- what matching leaves -/
def FoundT (M : List TripL) (w : World) (e : Ending) (w' : World) : Prop := ∃ v', e = .returned v' ∧ Own w' w.heap.size v' M ∧ Below w.heap.size w w'

set_option maxRecDepth 100000 in
set_option maxHeartbeats 8000000 in
theorem matching_calls (B b : Nat) (v0 v1 v2 : Value) (L l1 l2 : List TripL) (p : TripL) (hp : patB p = true) (w : World) (h : Sto w B b v0 v1 v2 L l1 l2) :
    Calls Try.prog 17 #[.pointer (some ⟨b, 0, none⟩), p.v] w (FoundT (L.filter (matchB p)) w) := by
  obtain ⟨i0, hi, hz0, hz1, hz2⟩ := info_parts info_triple
  obtain ⟨hf, hn⟩ := gv_le p 3 (Nat.le_refl _)
  obtain ⟨_, _, hord, hmem, hlen⟩ := sel_facts h (gv p 3).1 hf
  have hfound := found_eq hp h.o0 hord hmem rfl
  have hml : ((selL (gv p 3).1 L l1 l2).filter (fun x => decide (cmpK x p (gv p 3).1 (gv p 3).2 = 0))).length ≤ 4096 := Nat.le_trans (List.length_filter_le _ _) (by rw [hlen]; exact h.most)
  have hnear := near_calls B b v0 v1 v2 L l1 l2 p
  obtain ⟨M, hM⟩ : ∃ M, (selL (gv p 3).1 L l1 l2).filter (fun x => decide (cmpK x p (gv p 3).1 (gv p 3).2 = 0)) = M := ⟨_, rfl⟩
  rw [hM] at hfound hml hnear
  obtain ⟨R, hR⟩ : ∃ R, L.filter (matchB p) = R := ⟨_, rfl⟩
  rw [hR] at hfound ⊢
  have H := Lib.hid h
  have HFO := Lib.hid hfound
  have HNE := Lib.hid hnear
  have bx0 := Lib.hid (blk_new w 25 (cells12 p))
  clear h hfound hnear hord hmem hlen hM hR hf hn
  simp only [TripL.v]
  go_enter Try.func17, Try.ntmps17
  go_wp2_with fail
  refine (HNE.out _ (sto_on H.out (box_below _ _) (Nat.le_refl _))).mono ?_
  rintro e w1 ⟨v', rfl, hpc, hb1⟩
  have bx1 := Lib.hid (blk_on bx0.out hb1 (blk_lt bx0.out))
  replace hb1 := one_box hb1
  have hT : w.heap.size < w1.heap.size := blk_lt bx1.out
  rcases piece_cases hpc with ⟨a, c, rfl, hM0⟩ | ⟨g, o, cap, rfl, hg, hcap, hrow⟩
  · have HM0 := Lib.hid hM0
    clear hpc hM0
    go_wp2
    go_loopw [5, 12] (fun v i wr => v = .slice none 0 0 ∧ i = .int .i64 0 ∧ wr = w1) (fun _ _ _ => 0)
    case atStart => exact ⟨rfl, rfl, rfl⟩
    case round =>
      obtain ⟨rfl, rfl, rfl⟩ := hrel
      go_wp2_with fail
      refine (sort_calls w.heap.size (.slice none 0 0) [] _ (World.ownsRow_nil _ _ _ _) (Nat.zero_le _)).mono ?_
      rintro e w2 ⟨rfl, _, hg2⟩
      go_wp2
      go_ret
      refine ⟨_, rfl, ?_, hb1.grown hg2 hb1.size (fun k hk => by simp [Value.ownBlock] at hk)⟩
      rw [← HFO.out, HM0.out]
      have : (([] : List TripL).filter (fun x => alikeB x p)).mergeSort le3 = [] := by simp
      rw [this]
      exact World.ownsRow_nil _ _ _ _
  · have HROW := Lib.hid hrow
    obtain ⟨N, hN⟩ : ∃ N, M.length = N := ⟨_, rfl⟩
    rw [hN] at hcap hml
    simp only [hN]
    have HN := Lib.hid hN
    have HB1 := Lib.hid hb1
    clear hpc hrow hN hb1
    go_wp2
    go_loopw [5, 12] (fun v i wr => ∃ k : Nat, k ≤ N ∧ i = .int .i64 k ∧ Own wr w.heap.size v ((M.take k).filter (fun x => alikeB x p)) ∧ Below w1.heap.size w1 wr ∧ (v.ownBlock = none ∨ ∃ z, v.ownBlock = some z ∧ w1.heap.size ≤ z)) (fun _ i _ => N - (intOf i).toNat)
    case atStart => exact ⟨0, Nat.zero_le _, rfl, by rw [List.take_zero]; exact World.ownsRow_nil w1 w.heap.size 25 12, Below.refl _ _, .inl rfl⟩
    case round =>
      obtain ⟨k, hk, rfl, hown, hbw, hblk⟩ := hrel
      by_cases hlt : k < N
      · have hkM : k < M.length := by rw [HN.out]; exact hlt
        have g1 : (0 : Int) ≤ (k : Int) := by omega
        have g2 : (k : Int) < (N : Int) := by omega
        have hgr : g < wr.heap.size := Nat.lt_of_lt_of_le hg hbw.size
        have cm := Lib.hid (cells_on (HROW.out k hkM) hbw hg)
        have HFs := Lib.hid (filter_succ M (fun x => alikeB x p) k hkM)
        have hfl : ((M.take k).filter (fun x => alikeB x p)).length ≤ k := Nat.le_trans (List.length_filter_le _ _) (by rw [List.length_take]; omega)
        have al := alike_calls M[k] p
        generalize M[k] = y at cm HFs al
        obtain ⟨F, hF⟩ : ∃ F, (M.take k).filter (fun x => alikeB x p) = F := ⟨_, rfl⟩
        rw [hF] at hown HFs hfl
        have HO := Lib.hid hown
        have HBW := Lib.hid hbw
        have HBLK := Lib.hid hblk
        have HFL := Lib.hid hfl
        have AL := Lib.hid al
        clear hF hown hbw hblk hfl al
        obtain ⟨⟨c0, c1, c2, c3⟩, ⟨c4, c5, c6, c7⟩, ⟨c8, c9, c10, c11⟩⟩ := cm.out
        have eo : (o + k) * 12 = o * 12 + k * 12 := by omega
        rw [eo] at c0 c1 c2 c3 c4 c5 c6 c7 c8 c9 c10 c11
        clear eo
        have bpr := Lib.hid (box12_of (blk_on bx1.out HBW.out (blk_lt bx1.out)))
        obtain ⟨⟨d0, d1, d2, d3⟩, ⟨d4, d5, d6, d7⟩, ⟨d8, d9, d10, d11⟩⟩ := bpr.out
        have hlw : w.heap.size < wr.heap.size := Nat.lt_of_lt_of_le hT HBW.out.size
        have hne : ¬ w.heap.size = wr.heap.size := by omega
        have hne2 : ¬ wr.heap.size = w.heap.size := by omega
        have byy : Box12 (wr.alloc (.cells (cells12 y) 25)) wr.heap.size y := box12_of (blk_new _ _ _)
        have BYY := Lib.hid byy
        clear byy
        go_wp2_with fail
        refine (AL.out _).mono ?_
        rintro e w3 ⟨rfl, hb3⟩
        have by3 := Lib.hid (box_on BYY.out hb3 (by simp))
        have HB3 := Lib.hid (one_box hb3)
        clear c0 c1 c2 c3 c4 c5 c6 c7 c8 c9 c10 c11 d0 d1 d2 d3 d4 d5 d6 d7 d8 d9 d10 d11 hb3
        have HO3 := Lib.hid (own_on HO.out HB3.out (Nat.le_refl _))
        have HW3 := Lib.hid (first_below HBW.out HB3.out)
        cases hq : alikeB y p with
        | false =>
          have hE := HFs.out
          rw [hq] at hE
          have HE := Lib.hid hE
          clear hE hq
          go_wp2
          go_roundw
          case rel => exact ⟨k + 1, by omega, by go_num, by rw [HE.out]; simpa using HO3.out, HW3.out, HBLK.out⟩
          case measure => simp [intOf]; omega
        | true =>
          have hE := HFs.out
          rw [hq] at hE
          have HE := Lib.hid hE
          clear hE hq
          obtain ⟨⟨c0, c1, c2, c3⟩, ⟨c4, c5, c6, c7⟩, ⟨c8, c9, c10, c11⟩⟩ := by3.out
          have hwz : w.heap.size ≤ w3.heap.size := by have := HB1.out.size; have := HW3.out.size; omega
          have hF4 : F.length + 1 ≤ 4097 := by have := HFL.out; omega
          go_wp2_with (at_builtin; go_must (refine wpList_append_own_at _ rfl (.tmp 19) (.tmp 21) 38 rfl w.heap.size 25 i0 noTrip.v 12 168 Try.underlying38 hi hz0 hz1 hz2 rfl (by decide) _ _ _ rfl (HO3.out.alloc _) ⟨w3.heap.size, 0, none⟩ 1 1 [.int .i64 y.s.k, .string (bs y.s.x), .string (bs y.s.y), .string (bs y.s.z), .int .i64 y.p.k, .string (bs y.p.x), .string (bs y.p.y), .string (bs y.p.z), .int .i64 y.o.k, .string (bs y.o.x), .string (bs y.o.y), .string (bs y.o.z)] rfl rfl (news12b _ _ _ _ _ _ _ _ _ _ _ _ _ _ rfl) (by intro u hu; simp at hu; rcases hu with rfl | rfl | rfl | rfl | rfl | rfl | rfl | rfl | rfl | rfl | rfl | rfl <;> rfl) (by unfold maxLen; omega) (by omega) (by simp; omega) ?_; intro v4 w4 hO4 hG4 hN4 hA4; have HO4 := Lib.hid hO4; clear hO4 hN4; have HG4 := Lib.hid hG4; clear hG4; have HA4 := Lib.hid hA4; clear hA4))
          go_roundw
          case rel =>
            have hb4 : Below w1.heap.size w1 w4 := (HW3.out.alloc HW3.out.size _).grown HG4.out (by have := HW3.out.size; simp; omega) (fun z hz => by rcases HBLK.out with e | ⟨z', e, hz'⟩; exact absurd (e.symm.trans hz) (by simp); have h2 := e.symm.trans hz; injection h2 with h2; omega)
            refine ⟨k + 1, by omega, by go_num, ?_, hb4, ?_⟩
            · rw [HE.out, if_pos trivial]
              show World.ownsRow _ _ _ _ _ _ _
              rw [List.length_append, tripCells_append, tripCells_one]
              exact HO4.out
            · rcases HA4.out with e | e
              · rw [e]; exact HBLK.out
              · exact .inr ⟨_, e, by have := HW3.out.size; simp; omega⟩
          case measure => simp [intOf]; omega
      · obtain rfl : k = N := by omega
        rw [List.take_of_length_le (by rw [HN.out]; exact Nat.le_refl _)] at hown
        have hfl : (M.filter (fun x => alikeB x p)).length ≤ 4096 := Nat.le_trans (List.length_filter_le _ _) (by rw [HN.out]; exact hml)
        go_wp2_with fail
        refine (sort_calls w.heap.size _ _ _ hown hfl).mono ?_
        rintro e w2 ⟨rfl, hs, hg2⟩
        rw [HFO.out] at hs
        have HS := Lib.hid hs
        clear hs
        go_wp2
        go_ret
        refine ⟨_, rfl, HS.out, (HB1.out.trans (hbw.mono HB1.out.size)).grown hg2 (by have := HB1.out.size; have := hbw.size; omega) (fun z hz => ?_)⟩
        rcases hblk with e | ⟨z', e, hz'⟩
        · rw [e] at hz; cases hz
        · rw [e] at hz; injection hz with hz; have := HB1.out.size; omega

end Go.Proofs.Ytnojdchodmogbaa
