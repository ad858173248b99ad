/- A triple added to triples in order: the document's own answer. -/
import Derived.Test.YtnojdchodmogbaaGreatRefPuts
import Derived.Test.YtnojdchodmogbaaGreatRefTrips
namespace Go.Proofs.YtnojdchodmogbaaGreat
open Go.RowKit

/- a slice's array is the one it was, or new -/
def Fresh (w : World) (v v' : Value) : Prop := v' = v ∨ ∀ z, v'.ownBlock = some z → w.heap.size ≤ z
def RAddT (L : List TripL) (t : TripL) (v : Value) (w : World) (e : Ending) (w' : World) : Prop :=
  ∃ v', e = .returned (.tuple #[v', .bool (addB L t), .int .i64 (addE L t)]) ∧ Reads w' v' (addL L t).length (tripCells (addL L t)) ∧ Fresh w v v' ∧ Below w.heap.size w w'

set_option maxRecDepth 100000 in
set_option maxHeartbeats 8000000 in
theorem rAdd_calls (L : List TripL) (t : TripL) (v : Value) (w : World) (hv : Reads w v L.length (tripCells L)) (hl : L.length ≤ 4096) (ht : t.ok) (hL : ∀ x ∈ L, x.ok) :
    Calls Tryz.prog 12 #[v, t.v] w (RAddT L t v w) := by
  have bx0 := Lib.hid (blk_new w 29 (cells12 t))
  have HR := Lib.hid (fun W => rTrip_calls t ht W)
  have HH := Lib.hid (fun (W : World) (h : Reads W v L.length (tripCells L)) => rHas_calls L t v W h (by omega))
  have HP := Lib.hid (fun (W : World) (h : Reads W v L.length (tripCells L)) => rPut_calls L t v W h (by omega) ht hL)
  have HV := Lib.hid hv
  obtain ⟨N, hN⟩ : ∃ N, L.length = N := ⟨_, rfl⟩
  obtain ⟨va, vc, hvs⟩ : ∃ a c, v = .slice a N c := by
    obtain ⟨a, c, h, _⟩ := reads_open hv
    exact ⟨a, c, by rw [h, hN]⟩
  have HN := Lib.hid hN
  have HVS := Lib.hid hvs
  rw [hN] at hl
  clear hv ht hL hN
  simp only [TripL.v]
  subst hvs
  go_enter Tryz.func12, Tryz.ntmps12
  go_wp2_with fail
  refine (HR.out _).mono ?_
  rintro e w1 ⟨rfl, hb1⟩
  have bx1 := Lib.hid (blk_on bx0.out hb1 (blk_lt bx0.out))
  replace hb1 := Lib.hid (one_box hb1)
  cases hq : tripB t with
  | false =>
    have HQ := Lib.hid hq
    clear hq
    go_wp2
    refine bodyPost_ret (v := .tuple #[.slice va N vc, .bool false, .int .i64 2]) (by simp [results, Tryz.results12, go_sem]) rfl ?_
    have e1 : addL L t = L := if_pos HQ.out
    have e2 : addB L t = false := if_pos HQ.out
    have e3 : addE L t = 2 := if_pos HQ.out
    refine ⟨_, by rw [e2, e3], by rw [e1]; first | exact HV.out.on hb1.out | exact HV.out.on hb1.out.drew, .inl rfl, by first | exact hb1.out | exact hb1.out.drew⟩
  | true =>
    have HQ := Lib.hid hq
    clear hq
    have bxx := Lib.hid (box12_of bx1.out)
    obtain ⟨⟨c0, c1, c2, c3⟩, ⟨c4, c5, c6, c7⟩, ⟨c8, c9, c10, c11⟩⟩ := bxx.out
    go_wp2_with fail
    refine (HH.out _ (HV.out.on hb1.out)).mono ?_
    rintro e w2 ⟨rfl, hb2⟩
    clear c0 c1 c2 c3 c4 c5 c6 c7 c8 c9 c10 c11
    have bx2 := Lib.hid (blk_on bx1.out hb2 (blk_lt bx1.out))
    have hb := Lib.hid (first_below hb1.out hb2)
    by_cases hm : t ∈ L
    · have hd : decide (t ∈ L) = true := decide_eq_true hm
      rw [hd]
      have HM := Lib.hid hm
      clear hm hd
      go_wp2
      refine bodyPost_ret (v := .tuple #[.slice va N vc, .bool false, .int .i64 0]) (by simp [results, Tryz.results12, go_sem]) rfl ?_
      have e1 : addL L t = L := by unfold addL; rw [if_neg (by rw [HQ.out]; simp), if_pos HM.out]
      have e2 : addB L t = false := by unfold addB; rw [if_neg (by rw [HQ.out]; simp), if_pos HM.out]
      have e3 : addE L t = 0 := by unfold addE; rw [if_neg (by rw [HQ.out]; simp), if_pos HM.out]
      refine ⟨_, by rw [e2, e3], by rw [e1]; first | exact HV.out.on hb.out | exact HV.out.on hb.out.drew, .inl rfl, by first | exact hb.out | exact hb.out.drew⟩
    · have hd : decide (t ∈ L) = false := decide_eq_false hm
      rw [hd]
      have HM := Lib.hid hm
      clear hm hd
      by_cases h4 : 4096 ≤ N
      · have g4 : (4096 : Int) ≤ (N : Int) := by omega
        go_wp2
        refine bodyPost_ret (v := .tuple #[.slice va N vc, .bool false, .int .i64 3]) (by simp [results, Tryz.results12, go_sem]) rfl ?_
        have h4L : 4096 ≤ L.length := by rw [HN.out]; exact h4
        have e1 : addL L t = L := by unfold addL; rw [if_neg (by rw [HQ.out]; simp), if_neg HM.out, if_pos h4L]
        have e2 : addB L t = false := by unfold addB; rw [if_neg (by rw [HQ.out]; simp), if_neg HM.out, if_pos h4L]
        have e3 : addE L t = 3 := by unfold addE; rw [if_neg (by rw [HQ.out]; simp), if_neg HM.out, if_pos h4L]
        refine ⟨_, by rw [e2, e3], by rw [e1]; first | exact HV.out.on hb.out | exact HV.out.on hb.out.drew, .inl rfl, by first | exact hb.out | exact hb.out.drew⟩
      · have g4 : ¬ (4096 : Int) ≤ (N : Int) := by omega
        have h4L : ¬ 4096 ≤ L.length := by rw [HN.out]; exact h4
        have e1 := Lib.hid (show addL L t = putL L t by unfold addL; rw [if_neg (by rw [HQ.out]; simp), if_neg HM.out, if_neg h4L])
        have e2 := Lib.hid (show addB L t = true by unfold addB; rw [if_neg (by rw [HQ.out]; simp), if_neg HM.out, if_neg h4L])
        have e3 := Lib.hid (show addE L t = 0 by unfold addE; rw [if_neg (by rw [HQ.out]; simp), if_neg HM.out, if_neg h4L])
        have bxy := Lib.hid (box12_of bx2.out)
        obtain ⟨⟨c0, c1, c2, c3⟩, ⟨c4, c5, c6, c7⟩, ⟨c8, c9, c10, c11⟩⟩ := bxy.out
        go_wp2_with fail
        refine (HP.out _ (HV.out.on hb.out)).mono ?_
        rintro e w3 ⟨v', rfl, hown, hb3⟩
        clear c0 c1 c2 c3 c4 c5 c6 c7 c8 c9 c10 c11
        go_wp2
        refine bodyPost_ret (v := .tuple #[v', .bool true, .int .i64 0]) (by simp [results, Tryz.results12, go_sem]) rfl ?_
        have hbb := first_below hb.out hb3
        refine ⟨_, by rw [e2.out, e3.out], by rw [e1.out]; exact reads_of hown, .inr (fun z hz => Nat.le_trans hb.out.size (own_blk hown z hz)), by first | exact hbb | exact hbb.drew⟩

end Go.Proofs.YtnojdchodmogbaaGreat
