/- A store of triples: the document's own answer. -/
import Derived.Test.YtnojdchodmogbaaGreatRefPuts
import Derived.Test.YtnojdchodmogbaaGreatRefTrips
namespace Go.Proofs.YtnojdchodmogbaaGreat
open Go.RowKit

theorem addL_in {l : List TripL} {t : TripL} (h : t ∈ l) : addL l t = l := by
  unfold addL
  split
  · rfl
  · rfl
theorem addL_put {l : List TripL} {t : TripL} (hq : tripB t = true) (h : ¬ t ∈ l) (hl : l.length < 4096) : addL l t = putL l t := by
  unfold addL
  rw [if_neg (by rw [hq]; simp), if_neg h, if_neg (by omega)]
theorem ofL_ok {l : List TripL} (h : ∀ t ∈ l, t.ok) : ∀ t ∈ ofL l, t.ok := by
  have : ∀ (l a : List TripL), (∀ t ∈ a, t.ok) → (∀ t ∈ l, t.ok) → ∀ t ∈ l.foldl addL a, t.ok := by
    intro l
    induction l with
    | nil => intro a ha _; exact ha
    | cons x r ih =>
      intro a ha hr
      refine ih (addL a x) ?_ (fun t ht => hr t (List.mem_cons_of_mem _ ht))
      intro t ht
      unfold addL at ht
      split at ht
      · exact ha t ht
      · split at ht
        · exact ha t ht
        · split at ht
          · exact ha t ht
          · rcases mem_putL.1 ht with rfl | ht
            · exact hr _ (List.mem_cons_self)
            · exact ha t ht
  exact this l [] (fun t ht => absurd ht List.not_mem_nil) h
/- what the document's Of leaves -/
def ROfT (L : List TripL) (w : World) (e : Ending) (w' : World) : Prop :=
  Below w.heap.size w w' ∧ if L.all tripB then ∃ v', e = .returned (.tuple #[v', .int .i64 0]) ∧ Own w' w.heap.size v' (ofL L) else e = .returned (.tuple #[.slice none 0 0, .int .i64 2])
def ROfR (w : World) (L : List TripL) (N : Nat) (v i : Value) (wr : World) : Prop :=
  ∃ k : Nat, k ≤ N ∧ i = .int .i64 k ∧ (L.take k).all tripB = true ∧ Own wr w.heap.size v (ofL (L.take k)) ∧ Below w.heap.size w wr

set_option maxRecDepth 100000 in
set_option maxHeartbeats 8000000 in
theorem rOf_calls (L : List TripL) (v : Value) (w : World) (hv : ArgT w v L) (hok : ∀ t ∈ L, t.ok) (hl : L.length ≤ 4000) :
    Calls Tryz.prog 21 #[v] w (ROfT L w) := by
  obtain ⟨fa, fc, rfl, hf⟩ := hv
  have HOK := Lib.hid hok
  obtain ⟨N, hN⟩ : ∃ N, L.length = N := ⟨_, rfl⟩
  have HF := Lib.hid (show 0 < N → ∃ g o, fa = some ⟨g, o, none⟩ ∧ g < w.heap.size ∧ ∀ j (h : j < L.length), CellsAt w g (o + j * 12) L[j] from fun h0 => hf (by rw [hN]; exact h0))
  clear hf
  rw [hN] at hl ⊢
  have HN := Lib.hid hN
  have hst := Lib.hid (show Own (w.alloc (.cells #[] 29)) w.heap.size (.slice (some ⟨w.heap.size, 0, none⟩) 0 0) [] from ⟨rfl, .inr ⟨w.heap.size, 0, #[], rfl, Nat.le_refl _, blk_new _ _ _, Nat.le_refl _, Nat.zero_le _, rfl, rfl⟩⟩)
  clear hok hN
  go_enter Tryz.func21, Tryz.ntmps21
  go_wp2
  go_loopw [4, 5] (fun v i wr => ROfR w L N v i wr) (fun _ i _ => N - (intOf i).toNat)
  case atStart => exact ⟨0, Nat.zero_le _, rfl, rfl, hst.out, box_below _ _⟩
  case round =>
    obtain ⟨k, hk, rfl, hall, hown, hbw⟩ := hrel
    have hlen : (ofL (L.take k)).length ≤ k := by have := ofL_length (L.take k); rw [List.length_take] at this; omega
    have HBW := Lib.hid hbw
    have HALL := Lib.hid hall
    have HOWN := Lib.hid hown
    have HLEN := Lib.hid hlen
    by_cases hlt : k < N
    · have hkL : k < L.length := by rw [HN.out]; exact hlt
      have g1 : (0 : Int) ≤ (k : Int) := by omega
      have g2 : (k : Int) < (N : Int) := by omega
      obtain ⟨g, o, rfl, hg, hrow⟩ := HF.out (by omega)
      have cm1 := Lib.hid (hrow k hkL)
      have hty := Lib.hid (HOK.out L[k] (List.getElem_mem hkL))
      have HT := Lib.hid (List.take_succ_eq_append_getElem hkL)
      clear hrow hown hbw hall hlen
      generalize L[k] = y at cm1 hty HT
      have hko := Lib.hid (ofL_ok (l := L.take k) (fun t ht => HOK.out t (List.mem_of_mem_take ht)))
      have HM := Lib.hid (show ofL (L.take (k + 1)) = addL (ofL (L.take k)) y by rw [HT.out, ofL_more])
      obtain ⟨R, hR⟩ : ∃ R, ofL (L.take k) = R := ⟨_, rfl⟩
      have h1 := HOWN.out
      have h2 := HLEN.out
      have h3 := hko.out
      have h4 := HM.out
      rw [hR] at h1 h2 h3 h4
      clear HOWN HLEN hko HM hR
      have HOWN := Lib.hid h1
      have HLEN := Lib.hid h2
      have HM := Lib.hid h4
      have hrt := Lib.hid (fun W => rTrip_calls y hty.out W)
      have hhs := Lib.hid (fun (v : Value) (W : World) (h : Reads W v R.length (tripCells R)) => rHas_calls R y v W h (by have := HLEN.out; omega))
      have hpt := Lib.hid (fun (v : Value) (W : World) (h : Reads W v R.length (tripCells R)) => rPut_calls R y v W h (by have := HLEN.out; omega) hty.out h3)
      clear h1 h2 h3 h4
      have cm := Lib.hid (cellsAt_on cm1.out HBW.out hg)
      have hgr : g < wr.heap.size := Nat.lt_of_lt_of_le hg HBW.out.size
      obtain ⟨⟨c0, c1, c2, c3⟩, ⟨c4, c5, c6, c7⟩, ⟨c8, c9, c10, c11⟩⟩ := cm.out
      go_wp2_with fail
      refine (hrt.out _).mono ?_
      rintro e w2 ⟨rfl, hb2⟩
      clear c0 c1 c2 c3 c4 c5 c6 c7 c8 c9 c10 c11
      have HW2 := Lib.hid (first_below HBW.out hb2)
      have HO2 := Lib.hid (own_on HOWN.out hb2 (Nat.le_refl _))
      clear hb2
      cases hq : tripB y with
      | false =>
        have HA := Lib.hid (all_take_false HT.out hq)
        clear hq
        go_wp2
        go_ret2
        exact ⟨by first | exact HW2.out | exact HW2.out.drew, by rw [if_neg (by rw [HA.out]; simp)]; rfl⟩
      | true =>
        have HQ := Lib.hid hq
        have HA : Hid ((L.take (k + 1)).all tripB = true) := by show _ = _; rw [HT.out, List.all_append, HALL.out]; simp [hq]
        clear hq
        have cm2 := Lib.hid (cellsAt_on cm1.out HW2.out hg)
        obtain ⟨⟨c0, c1, c2, c3⟩, ⟨c4, c5, c6, c7⟩, ⟨c8, c9, c10, c11⟩⟩ := cm2.out
        go_wp2_with fail
        refine (hhs.out _ _ (reads_of HO2.out)).mono ?_
        rintro e w3 ⟨rfl, hb3⟩
        clear c0 c1 c2 c3 c4 c5 c6 c7 c8 c9 c10 c11
        have HW3 := Lib.hid (first_below HW2.out hb3)
        have HO3 := Lib.hid (own_on HO2.out hb3 (Nat.le_refl _))
        clear hb3
        by_cases hm : y ∈ R
        · have hd : decide (y ∈ R) = true := decide_eq_true hm
          rw [hd]
          have HE := Lib.hid (HM.out.trans (addL_in hm))
          clear hm hd
          go_wp2
          go_roundw
          case rel => exact ⟨k + 1, by omega, by go_num, HA.out, by rw [HE.out]; exact HO3.out, by first | exact HW3.out | exact HW3.out.drew⟩
          case measure => simp [intOf]; omega
        · have hd : decide (y ∈ R) = false := decide_eq_false hm
          rw [hd]
          have HE := Lib.hid (HM.out.trans (addL_put HQ.out hm (by have := HLEN.out; omega)))
          clear hm hd
          have cm3 := Lib.hid (cellsAt_on cm1.out HW3.out hg)
          obtain ⟨⟨c0, c1, c2, c3⟩, ⟨c4, c5, c6, c7⟩, ⟨c8, c9, c10, c11⟩⟩ := cm3.out
          go_wp2_with fail
          refine (hpt.out _ _ (reads_of HO3.out)).mono ?_
          rintro e w4 ⟨v4, rfl, hown4, hb4⟩
          clear c0 c1 c2 c3 c4 c5 c6 c7 c8 c9 c10 c11
          have HW4 := Lib.hid (first_below HW3.out hb4)
          have HO4 := Lib.hid (owns_base hown4 HW3.out.size)
          clear hown4 hb4
          go_wp2
          go_roundw
          case rel => exact ⟨k + 1, by omega, by go_num, HA.out, by rw [HE.out]; exact HO4.out, by first | exact HW4.out | exact HW4.out.drew⟩
          case measure => simp [intOf]; omega
    · have hkN : k = N := by omega
      have g3 : ¬ ((k : Int) < (N : Int)) := by omega
      obtain ⟨oa, oc, rfl⟩ := owns_slice hown
      have htk : L.take k = L := by rw [hkN, ← HN.out]; exact List.take_length
      clear hall hown hbw
      have h1 := HALL.out
      have h2 := HOWN.out
      rw [htk] at h1 h2 hlen ⊢
      have HA := Lib.hid h1
      have HO := Lib.hid h2
      clear h1 h2 htk HALL HOWN HLEN
      have g5 : ¬ ((4096 : Int) < ((ofL L).length : Int)) := by omega
      obtain ⟨q, hq⟩ : ∃ q, (ofL L).length = q := ⟨_, rfl⟩
      have h2 := HO.out
      simp only [hq] at h2 g5 ⊢
      go_wp2
      refine bodyPost_ret (v := .tuple #[.slice oa q oc, .int .i64 0]) (by simp [results, Tryz.results21, go_sem]) rfl ⟨by first | exact HBW.out | exact HBW.out.drew, ?_⟩
      rw [if_pos HA.out]
      exact ⟨_, rfl, by rw [← hq] at h2; rw [← hq]; exact h2⟩

end Go.Proofs.YtnojdchodmogbaaGreat
