/- The law StoreMatches: it is true of any triples and any pattern. -/
import Derived.Test.YtnojdchodmogbaaGreatStoMade
import Derived.Test.YtnojdchodmogbaaGreatStoAsk
import Derived.Test.YtnojdchodmogbaaGreatRefMatch
import Derived.Test.YtnojdchodmogbaaGreatRefTab2
import Derived.Test.YtnojdchodmogbaaGreatRefTableNil
import Derived.Test.YtnojdchodmogbaaGreatRefTrips
import Derived.Test.YtnojdchodmogbaaGreatStoAwake
namespace Go.Proofs.YtnojdchodmogbaaGreat
open Go.RowKit

theorem rows_bound {p : TripL} {M : List TripL} : ∀ r ∈ M.map (rowP p), r.length ≤ 1000000 := by
  intro r hr
  obtain ⟨t, _, rfl⟩ := List.mem_map.1 hr
  unfold rowP
  rw [List.length_map]
  exact Nat.le_trans (fpN_length p 3) (by omega)

set_option maxRecDepth 100000 in
set_option maxHeartbeats 8000000 in
theorem storeMatches_calls (L : List TripL) (v : Value) (p : TripL) (w : World) (hv : ArgT w v L) (hok : ∀ t ∈ L, t.ok) (hp : p.ok) :
    Calls Tryz.prog 5 #[v, p.v] w fun e w' => e = .returned (.bool true) ∧ Below w.heap.size w w' := by
  have hmade := Lib.hid (fun (W : World) (h : ArgT W v L) => made_calls L v W h hok)
  have HV := Lib.hid hv
  have HP := Lib.hid hp
  have bx0 := Lib.hid (box12_of (blk_new w 29 (cells12 p)))
  have hb0 := Lib.hid (box_below w (.cells (cells12 p) 29))
  have hs0 := Lib.hid (show ∀ o, (w.alloc o).heap.size = w.heap.size + 1 from fun _ => by simp)
  have hR60 := Lib.hid (madeL_length L)
  clear hv hok hp
  obtain ⟨R, hRe⟩ : ∃ R, madeL L = R := ⟨_, rfl⟩
  have HRE := Lib.hid hRe
  rw [hRe] at hR60
  clear hRe
  simp only [TripL.v]
  go_enter Tryz.func5, Tryz.ntmps5
  go_wp2_with fail
  refine (hmade.out _ (HV.out.on (box_below _ _))).mono ?_
  rintro e w1 ⟨b, v', rfl, v0, v1, v2, l1, l2, hs, hr, _, hb1⟩
  rw [HRE.out] at hs hr
  have HS1 := Lib.hid hs
  have HR1 := Lib.hid hr
  have HB1 := Lib.hid (first_below hb0.out hb1)
  have bx1 := Lib.hid (box_on bx0.out hb1 (by rw [hs0.out]; omega))
  have hz1 := Lib.hid (show w.heap.size < w1.heap.size by have h := hb1.size; rw [hs0.out] at h; omega)
  clear hs hr hb1 hmade HV HRE bx0 hb0 hs0
  have hask := Lib.hid (fun (W : World) (h : Sto W (w.alloc (.cells (cells12 p) 29)).heap.size b v0 v1 v2 R l1 l2) => Ask_calls _ b v0 v1 v2 R l1 l2 p HP.out W h)
  have hmat := Lib.hid (Match_calls _ b v0 v1 v2 R l1 l2 p HP.out w1 HS1.out)
  obtain ⟨⟨c0, c1, c2, c3⟩, ⟨c4, c5, c6, c7⟩, ⟨c8, c9, c10, c11⟩⟩ := bx1.out
  go_wp2_with fail
  refine hmat.out.mono ?_
  rintro e w2 ⟨hb2, hM⟩
  clear c0 c1 c2 c3 c4 c5 c6 c7 c8 c9 c10 c11 hmat
  have HB2 := Lib.hid (first_below HB1.out hb2)
  have hz2 := Lib.hid (Nat.lt_of_lt_of_le hz1.out hb2.size)
  have bx2 := Lib.hid (box_on bx1.out hb2 hz1.out)
  have HS2 := Lib.hid (sto_on HS1.out hb2 (Nat.le_refl _))
  have HR2 := Lib.hid (reads_on HR1.out hb2 (Nat.le_refl _))
  clear hb2 HB1 hz1 bx1 HS1 HR1
  have hpat := Lib.hid (fun W => rPat_calls p HP.out W)
  cases hq : patB p with
  | false =>
    rw [if_neg (by rw [hq]; simp)] at hM
    subst hM
    have HQ := Lib.hid hq
    clear hq
    unfold noTable
    have bT := Lib.hid (blk_new w2 56 #[.slice none 0 0, .slice none 0 0])
    have b2a := Lib.hid (box_below w2 (.cells #[.slice none 0 0, .slice none 0 0] 56))
    obtain ⟨⟨c0, c1, c2, c3⟩, ⟨c4, c5, c6, c7⟩, ⟨c8, c9, c10, c11⟩⟩ := box_on bx2.out b2a.out hz2.out
    go_wp2_with fail
    refine (hask.out _ (sto_on HS2.out b2a.out (Nat.le_refl _))).mono ?_
    rintro e w3 ⟨rfl, hb3⟩
    clear c0 c1 c2 c3 c4 c5 c6 c7 c8 c9 c10 c11
    rw [show (patB p && !(R.filter (matchB p)).isEmpty) = false by rw [HQ.out]; rfl, show formZ (patB p) = 2 by rw [HQ.out]; rfl]
    have HB3 := Lib.hid (first_below (first_below HB2.out b2a.out) hb3)
    have bT3 := Lib.hid (blk_on bT.out hb3 (blk_lt bT.out))
    obtain ⟨⟨c0, c1, c2, c3⟩, ⟨c4, c5, c6, c7⟩, ⟨c8, c9, c10, c11⟩⟩ := box_on (box_on bx2.out b2a.out hz2.out) hb3 (Nat.lt_of_lt_of_le hz2.out b2a.out.size)
    clear hb3 HB2 HS2 HR2 b2a bT
    go_wp2_with fail
    refine (hpat.out _).mono ?_
    rintro e w4 ⟨rfl, hb4⟩
    clear c0 c1 c2 c3 c4 c5 c6 c7 c8 c9 c10 c11
    rw [HQ.out]
    have HB4 := Lib.hid (first_below HB3.out hb4)
    have bT4 := Lib.hid (blk_on bT3.out hb4 (blk_lt bT3.out))
    clear hb4 HB3 bT3
    have c0 : w4.cell? ⟨w2.heap.size, 0, none⟩ = some (.slice none 0 0) := by rw [blk_cell bT4.out]; rfl
    have c1 : w4.cell? ⟨w2.heap.size, 1, none⟩ = some (.slice none 0 0) := by rw [blk_cell bT4.out]; rfl
    go_wp2_with fail
    refine (sameTable_nil _).mono ?_
    rintro e w5 ⟨rfl, hb5⟩
    clear c0 c1
    have HB5 := Lib.hid (first_below HB4.out hb5)
    clear hb5 HB4
    go_wp2_with fail
    refine (awake_calls _).mono ?_
    rintro e w6 ⟨rfl, hb6⟩
    have HB6 := Lib.hid (first_below HB5.out hb6)
    clear hb6
    go_wp2
    go_ret
    exact ⟨rfl, by first | exact HB6.out | exact HB6.out.drew⟩
  | true =>
    rw [if_pos hq] at hM
    obtain ⟨tv, rfl, hT⟩ := hM
    have HQ := Lib.hid hq
    have HT2 := Lib.hid (tab_reads hq hT)
    have hrm := Lib.hid (fun (x : Value) (W : World) (h : Reads W x R.length (tripCells R)) => rMatch_calls R p x W hq h (by have := hR60.out; omega))
    clear hq
    obtain ⟨vv, G, rfl, hV, _, _⟩ := hT
    obtain ⟨va, vc, rfl⟩ := owns_slice hV
    clear hV
    obtain ⟨M, hM⟩ : ∃ M, R.filter (matchB p) = M := ⟨_, rfl⟩
    have HM := Lib.hid hM
    obtain ⟨m, hm⟩ : ∃ m, M.length = m := ⟨_, rfl⟩
    rw [hM] at HT2 ⊢
    simp only [hM] at hask hrm
    rw [hm] at HT2 ⊢
    have HMM := Lib.hid hm
    have hm60 := Lib.hid (show m ≤ 60 by rw [← hm, ← hM]; exact Nat.le_trans (List.length_filter_le _ _) hR60.out)
    clear hM hm
    obtain ⟨n, hn⟩ : ∃ n, (varsL p).length = n := ⟨_, rfl⟩
    rw [hn] at HT2 ⊢
    have HNN := Lib.hid hn
    clear hn
    have bT := Lib.hid (blk_new w2 56 #[.slice va n vc, .slice (some ⟨G, 0, none⟩) m m])
    have b2a := Lib.hid (box_below w2 (.cells #[.slice va n vc, .slice (some ⟨G, 0, none⟩) m m] 56))
    obtain ⟨⟨c0, c1, c2, c3⟩, ⟨c4, c5, c6, c7⟩, ⟨c8, c9, c10, c11⟩⟩ := box_on bx2.out b2a.out hz2.out
    go_wp2_with fail
    refine (hask.out _ (sto_on HS2.out b2a.out (Nat.le_refl _))).mono ?_
    rintro e w3 ⟨rfl, hb3⟩
    clear c0 c1 c2 c3 c4 c5 c6 c7 c8 c9 c10 c11
    obtain ⟨D, hD⟩ : ∃ D, (patB p && !M.isEmpty) = D := ⟨_, rfl⟩
    have HD := Lib.hid (show D = decide ((0 : Int) < (m : Int)) by
      rw [← hD, HQ.out, ← HMM.out]
      cases M with
      | nil => rfl
      | cons a l => simp)
    rw [hD, show formZ (patB p) = 0 by rw [HQ.out]; rfl]
    clear hD
    have HB3 := Lib.hid (first_below (first_below HB2.out b2a.out) hb3)
    have bT3 := Lib.hid (blk_on bT.out hb3 (blk_lt bT.out))
    have HR3 := Lib.hid (reads_on (reads_on HR2.out b2a.out (Nat.le_refl _)) hb3 (Nat.le_refl _))
    have HT3 := Lib.hid ((HT2.out.on b2a.out (Nat.le_refl _)).on hb3 (Nat.le_refl _))
    have bx3 := Lib.hid (box_on (box_on bx2.out b2a.out hz2.out) hb3 (Nat.lt_of_lt_of_le hz2.out b2a.out.size))
    have hz3 := Lib.hid (Nat.lt_of_lt_of_le (Nat.lt_of_lt_of_le hz2.out b2a.out.size) hb3.size)
    obtain ⟨⟨c0, c1, c2, c3⟩, ⟨c4, c5, c6, c7⟩, ⟨c8, c9, c10, c11⟩⟩ := bx3.out
    clear hb3 HB2 HS2 HR2 HT2 b2a bT bx2
    go_wp2_with fail
    refine (hpat.out _).mono ?_
    rintro e w4 ⟨rfl, hb4⟩
    clear c0 c1 c2 c3 c4 c5 c6 c7 c8 c9 c10 c11
    rw [HQ.out]
    have HB4 := Lib.hid (first_below HB3.out hb4)
    have bT4 := Lib.hid (blk_on bT3.out hb4 (blk_lt bT3.out))
    have HR4 := Lib.hid (reads_on HR3.out hb4 (Nat.le_refl _))
    have HT4 := Lib.hid (HT3.out.on hb4 (Nat.le_refl _))
    obtain ⟨⟨c0, c1, c2, c3⟩, ⟨c4, c5, c6, c7⟩, ⟨c8, c9, c10, c11⟩⟩ := box_on bx3.out hb4 hz3.out
    clear hb4 HB3 bT3 HR3 HT3 bx3
    go_wp2_with fail
    refine (hrm.out _ _ HR4.out).mono ?_
    rintro e w5 ⟨tv, rfl, hT5, hb5⟩
    clear c0 c1 c2 c3 c4 c5 c6 c7 c8 c9 c10 c11
    rw [HM.out] at hT5
    have HB5 := Lib.hid (first_below HB4.out hb5)
    have bT5 := Lib.hid (blk_on bT4.out hb5 (blk_lt bT4.out))
    have HT5 := Lib.hid (HT4.out.on hb5 (Nat.le_refl _))
    have HW5 := Lib.hid hT5
    obtain ⟨vv, rv, rfl, hvv, qa, qc, rfl, _⟩ := hT5
    have hlm : (M.map (rowP p)).length = m := by rw [List.length_map]; exact HMM.out
    rw [hlm] at HW5 ⊢
    rw [HNN.out] at hvv
    obtain ⟨wa, wc, rfl, _⟩ := texts_open hvv
    have bU := Lib.hid (blk_new w5 56 #[.slice wa n wc, .slice qa m qc])
    have b5a := Lib.hid (box_below w5 (.cells #[.slice wa n wc, .slice qa m qc] 56))
    have nlt : w2.heap.size < w5.heap.size := blk_lt bT5.out
    have n0 : ¬ w2.heap.size = w5.heap.size := by have := blk_lt bT5.out; omega
    have n1 : ¬ w5.heap.size = w2.heap.size := by have := blk_lt bT5.out; omega
    have c0 : w5.cell? ⟨w2.heap.size, 0, none⟩ = some (.slice va n vc) := by rw [blk_cell bT5.out]; rfl
    have c1 : w5.cell? ⟨w2.heap.size, 1, none⟩ = some (.slice (some ⟨G, 0, none⟩) m m) := by rw [blk_cell bT5.out]; rfl
    have hsame := Lib.hid (fun (x y : Value) (W : World) (h1 : TabV W x (varsL p) (M.map (rowP p))) (h2 : TabV W y (varsL p) (M.map (rowP p))) => sameTable_calls (varsL p) (M.map (rowP p)) x y W (varsL_length p) (by rw [List.length_map, HMM.out]; have := hm60.out; omega) rows_bound h1 h2)
    clear hlm hvv hb5 HB4 bT4 HR4 HT4
    go_wp2_with fail
    refine (hsame.out _ _ _ (HT5.out.on b5a.out (Nat.le_refl _)) (HW5.out.on b5a.out (Nat.le_refl _))).mono ?_
    rintro e w6 ⟨rfl, hb6⟩
    clear c0 c1 n0 n1 nlt
    have HB6 := Lib.hid (first_below (first_below HB5.out b5a.out) hb6)
    have bU6 := Lib.hid (blk_on bU.out hb6 (blk_lt bU.out))
    clear hb6 HB5 bU b5a bT5 HT5 HW5
    by_cases h0 : (0 : Int) < (m : Int)
    · have hD : D = true := by rw [HD.out]; exact decide_eq_true h0
      subst hD
      have d1 : w6.cell? ⟨w5.heap.size, 1, none⟩ = some (.slice qa m qc) := by rw [blk_cell bU6.out]; rfl
      go_wp2_with fail
      refine (awake_calls _).mono ?_
      rintro e w7 ⟨rfl, hb7⟩
      have HB7 := Lib.hid (first_below HB6.out hb7)
      clear hb7
      go_wp2
      go_ret
      exact ⟨rfl, by first | exact HB7.out | exact HB7.out.drew⟩
    · have hD : D = false := by rw [HD.out]; exact decide_eq_false h0
      subst hD
      have d1 : w6.cell? ⟨w5.heap.size, 1, none⟩ = some (.slice qa m qc) := by rw [blk_cell bU6.out]; rfl
      go_wp2_with fail
      refine (awake_calls _).mono ?_
      rintro e w7 ⟨rfl, hb7⟩
      have HB7 := Lib.hid (first_below HB6.out hb7)
      clear hb7
      go_wp2
      go_ret
      exact ⟨rfl, by first | exact HB7.out | exact HB7.out.drew⟩

end Go.Proofs.YtnojdchodmogbaaGreat
