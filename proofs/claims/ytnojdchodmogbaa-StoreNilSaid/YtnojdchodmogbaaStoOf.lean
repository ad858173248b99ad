/- A store of triples: package store's Of. -/
import Derived.Test.YtnojdchodmogbaaStoAdd
import Derived.Test.YtnojdchodmogbaaStoCalls
namespace Go.Proofs.Ytnojdchodmogbaa
open Go.RowKit

/- the triples, one after the other -/
def ofL (l : List TripL) : List TripL := l.foldl addL []
theorem ofL_nil : ofL [] = [] := rfl
theorem ofL_more (l : List TripL) (t : TripL) : ofL (l ++ [t]) = addL (ofL l) t := by unfold ofL; rw [List.foldl_append]; rfl
theorem ofL_length (l : List TripL) : (ofL l).length ≤ l.length := by
  have : ∀ (l a : List TripL), (l.foldl addL a).length ≤ a.length + l.length := by
    intro l
    induction l with
    | nil => intro a; simp
    | cons t r ih => intro a; have := ih (addL a t); have : (addL a t).length ≤ a.length + 1 := addL_length; simp only [List.foldl_cons, List.length_cons]; omega
  simpa [ofL] using this l []
theorem addE_right {l : List TripL} {t : TripL} (h : tripB t = true) (hl : l.length < 4096) : addE l t = 0 := by
  unfold addE
  rw [if_neg (by rw [h]; simp)]
  split
  · rfl
  · rw [if_neg (by omega)]

/- a store that was made in the call -/
def StN (w : World) (b : Nat) (L : List TripL) (w' : World) : Prop := (∃ v0 v1 v2 l1 l2, Sto w' w.heap.size b v0 v1 v2 L l1 l2) ∧ Below w.heap.size w w'
/- what Of leaves -/
def OfT (l : List TripL) (w : World) (e : Ending) (w' : World) : Prop :=
  if l.all tripB then ∃ b, e = .returned (.tuple #[.pointer (some ⟨b, 0, none⟩), .int .i64 0]) ∧ StN w b (ofL l) w' else e = .returned (.tuple #[.pointer none, .int .i64 2]) ∧ Below w.heap.size w w'
/- what the rounds keep -/
def OfR1 (w : World) (l : List TripL) (N : Nat) (i : Value) (wr : World) : Prop := ∃ k : Nat, k ≤ N ∧ i = .int .i64 k ∧ (l.take k).all tripB = true ∧ Below w.heap.size w wr
def OfR2 (w : World) (l : List TripL) (N b : Nat) (i : Value) (wr : World) : Prop := ∃ k : Nat, k ≤ N ∧ i = .int .i64 k ∧ StN w b (ofL (l.take k)) wr
theorem all_take_false {l a : List TripL} {t : TripL} {k : Nat} (h : l.take (k + 1) = a ++ [t]) (ht : tripB t = false) : l.all tripB = false := by
  rw [Bool.eq_false_iff]
  intro c
  rw [List.all_eq_true] at c
  have := c t (List.mem_of_mem_take (i := k + 1) (by rw [h]; simp))
  rw [ht] at this
  cases this

/- a slice of triples that can be read, open -/
theorem reads_trips {w : World} {v : Value} {l : List TripL} (h : Reads w v l.length (tripCells l)) : (v = .slice none 0 0 ∧ l = []) ∨ ∃ g cap, v = .slice (some ⟨g, 0, none⟩) l.length cap ∧ g < w.heap.size ∧ l.length ≤ cap ∧ ∀ j (h : j < l.length), Cells12 w g j l[j] := by
  rcases h with ⟨hv, h0⟩ | ⟨g, cap, hv, hg, hn, hm, hc⟩
  · exact .inl ⟨hv, List.eq_nil_of_length_eq_zero h0⟩
  · exact .inr ⟨g, cap, hv, hg, hn, fun j hj => trips_cell hc j hj⟩

set_option maxRecDepth 100000 in
set_option maxHeartbeats 4000000 in
theorem of_nil (w : World) : Calls Try.prog 29 #[.slice none 0 0] w (OfT [] w) := by
  go_enter Try.func29, Try.ntmps29
  go_wp2
  go_loopw [14] (fun i wr => i = .int .i64 0 ∧ wr = w) (fun _ _ => 0)
  case atStart => exact ⟨rfl, rfl⟩
  case round =>
    obtain ⟨rfl, rfl⟩ := hrel
    go_wp2_with fail
    refine (new_calls _).mono ?_
    rintro e w2 ⟨rfl, rfl⟩
    have hs := Lib.hid (sto_new wr wr.heap.size (Nat.le_refl _))
    have hb := Lib.hid (box_below wr (.cells #[.slice none 0 0, .slice none 0 0, .slice none 0 0] 49))
    obtain ⟨W2, hW2⟩ : ∃ W2, wr.alloc (.cells #[.slice none 0 0, .slice none 0 0, .slice none 0 0] 49) = W2 := ⟨_, rfl⟩
    rw [hW2] at hs hb ⊢
    clear hW2
    go_wp2
    go_loopw [27] (fun i wr' => i = .int .i64 0 ∧ wr' = W2) (fun _ _ => 0)
    case atStart => exact ⟨rfl, rfl⟩
    case round =>
      obtain ⟨rfl, rfl⟩ := hrel
      go_wp2
      go_ret2
      exact ⟨_, rfl, ⟨_, _, _, _, _, hs.out⟩, hb.out⟩

set_option maxRecDepth 100000 in
set_option maxHeartbeats 8000000 in
theorem of_calls (L : List TripL) (v : Value) (w : World) (hv : Reads w v L.length (tripCells L)) (hok : ∀ t ∈ L, t.ok) (hl : L.length ≤ 4096) :
    Calls Try.prog 29 #[v] w (OfT L w) := by
  rcases reads_trips hv with ⟨rfl, rfl⟩ | ⟨g, cap, rfl, hg, hcap, hrow⟩
  · exact of_nil w
  have HROW := Lib.hid hrow
  have HOK := Lib.hid hok
  obtain ⟨N, hN⟩ : ∃ N, L.length = N := ⟨_, rfl⟩
  rw [hN] at hl hcap
  simp only [hN]
  have HN := Lib.hid hN
  clear hv hrow hok hN
  go_enter Try.func29, Try.ntmps29
  go_wp2
  go_loopw [14] (fun i wr => OfR1 w L N i wr) (fun i _ => N - (intOf i).toNat)
  case atStart => exact ⟨0, Nat.zero_le _, rfl, rfl, Below.refl _ _⟩
  case round =>
    obtain ⟨k, hk, rfl, hall, hbw⟩ := hrel
    by_cases hlt : k < N
    · have hkL : k < L.length := by rw [HN.out]; exact hlt
      have g1 : (0 : Int) ≤ (k : Int) := by omega
      have g2 : (k : Int) < (N : Int) := by omega
      have hgr : g < wr.heap.size := Nat.lt_of_lt_of_le hg hbw.size
      have cm := Lib.hid (cells_on (HROW.out k hkL) hbw hg)
      have hty := Lib.hid (HOK.out L[k] (List.getElem_mem hkL))
      have HT := Lib.hid (List.take_succ_eq_append_getElem hkL)
      generalize L[k] = y at cm hty HT
      have hchk := Lib.hid (fun W => tCheck_calls y hty.out W)
      have HBW := Lib.hid hbw
      have HALL := Lib.hid hall
      clear hbw hall
      obtain ⟨⟨c0, c1, c2, c3⟩, ⟨c4, c5, c6, c7⟩, ⟨c8, c9, c10, c11⟩⟩ := cm.out
      go_wp2_with fail
      refine (hchk.out _).mono ?_
      rintro e w2 ⟨rfl, hb2⟩
      have hb := Lib.hid (first_below HBW.out (one_box hb2))
      clear c0 c1 c2 c3 c4 c5 c6 c7 c8 c9 c10 c11 hb2
      cases hq : tripB y with
      | false =>
        have e2 : formZ false = 2 := rfl
        rw [e2]
        have HA := Lib.hid (all_take_false HT.out hq)
        clear e2 hq
        go_wp2
        go_ret2
        refine (if_neg (by rw [HA.out]; simp)).mpr ⟨rfl, ?_⟩
        first | exact hb.out | exact hb.out.drew
      | true =>
        have e2 : formZ true = 0 := rfl
        rw [e2]
        have HA : Hid ((L.take (k + 1)).all tripB = true) := by show _ = _; rw [HT.out, List.all_append, HALL.out]; simp [hq]
        clear e2 hq
        go_wp2
        go_roundw
        case rel => exact ⟨k + 1, by omega, by go_num, HA.out, by first | exact hb.out | exact hb.out.drew⟩
        case measure => simp [intOf]; omega
    · have hkN : k = N := by omega
      have g3 : ¬ ((k : Int) < (N : Int)) := by omega
      rw [hkN, ← HN.out, List.take_length] at hall
      have HALL := Lib.hid hall
      have HB1 := Lib.hid hbw
      clear hall hbw
      go_wp2_with fail
      refine (new_calls _).mono ?_
      rintro e w2 ⟨rfl, rfl⟩
      have hs := sto_new wr w.heap.size HB1.out.size
      have hb := HB1.out.trans ((box_below wr (.cells #[.slice none 0 0, .slice none 0 0, .slice none 0 0] 49)).mono HB1.out.size)
      obtain ⟨W2, hW2⟩ : ∃ W2, wr.alloc (.cells #[.slice none 0 0, .slice none 0 0, .slice none 0 0] 49) = W2 := ⟨_, rfl⟩
      rw [hW2] at hs hb ⊢
      obtain ⟨b, hb0⟩ : ∃ b, wr.heap.size = b := ⟨_, rfl⟩
      rw [hb0] at hs ⊢
      have HS := Lib.hid hs
      have HB := Lib.hid hb
      clear hW2 hb0 hs hb hk hkN g3 HB1
      go_wp2
      go_loopw [27] (fun i wr => OfR2 w L N b i wr) (fun i _ => N - (intOf i).toNat)
      case atStart => exact ⟨0, Nat.zero_le _, rfl, ⟨_, _, _, _, _, HS.out⟩, HB.out⟩
      case round =>
        obtain ⟨j, hj, rfl, ⟨v0, v1, v2, l1, l2, hst⟩, hbw⟩ := hrel
        by_cases hlt : j < N
        · have hkL : j < L.length := by rw [HN.out]; exact hlt
          have g1 : (0 : Int) ≤ (j : Int) := by omega
          have g2 : (j : Int) < (N : Int) := by omega
          have hgr : g < wr.heap.size := Nat.lt_of_lt_of_le hg hbw.size
          have cm := Lib.hid (cells_on (HROW.out j hkL) hbw hg)
          have hty := Lib.hid (HOK.out L[j] (List.getElem_mem hkL))
          have HT := Lib.hid (List.take_succ_eq_append_getElem hkL)
          generalize L[j] = y at cm hty HT
          have hyB : tripB y = true := (List.all_eq_true.1 HALL.out) y (List.mem_of_mem_take (i := j + 1) (by rw [HT.out]; simp))
          have hlen : (ofL (L.take j)).length < 4096 := by have := ofL_length (L.take j); rw [List.length_take] at this; omega
          have HE := Lib.hid (addE_right (l := ofL (L.take j)) hyB hlen)
          have HM : Hid (addL (ofL (L.take j)) y = ofL (L.take (j + 1))) := by show _ = _; rw [HT.out, ofL_more]
          have HST := Lib.hid hst
          have HBW := Lib.hid hbw
          clear hbw hst hyB hlen
          have hadd := Lib.hid (fun (W : World) (h : Sto W w.heap.size b v0 v1 v2 (ofL (L.take j)) l1 l2) => add_calls (fun i => w.heap.size ≤ i) w.heap.size b v0 v1 v2 (ofL (L.take j)) l1 l2 y W h (fun i hi => (sto_foot h hi).1) hty.out)
          obtain ⟨⟨c0, c1, c2, c3⟩, ⟨c4, c5, c6, c7⟩, ⟨c8, c9, c10, c11⟩⟩ := cm.out
          go_wp2_with fail
          refine (hadd.out _ (sto_on HST.out (box_below _ _) (Nat.le_refl _))).mono ?_
          rintro e w3 ⟨rfl, u0, u1, u2, m1, m2, hst3, hk3, _⟩
          clear c0 c1 c2 c3 c4 c5 c6 c7 c8 c9 c10 c11
          have hb3 := Lib.hid ((HBW.out.trans ((box_below _ _).mono HBW.out.size)).trans (hk3.below (Nat.le_trans HBW.out.size (box_below _ _).size) (fun i hi => hi)))
          rw [HE.out]
          rw [HM.out] at hst3
          have HST3 := Lib.hid hst3
          obtain ⟨D, hD⟩ : ∃ D, addB (ofL (L.take j)) y = D := ⟨_, rfl⟩
          rw [hD]
          clear hst3 hk3 hD
          go_wp2
          go_roundw
          case rel => exact ⟨j + 1, by omega, by go_num, ⟨_, _, _, _, _, HST3.out⟩, by first | exact hb3.out | exact hb3.out.drew⟩
          case measure => simp [intOf]; omega
        · have hjN : j = N := by omega
          have g3 : ¬ ((j : Int) < (N : Int)) := by omega
          rw [hjN, ← HN.out, List.take_length] at hst
          have HST := Lib.hid hst
          clear hst
          go_wp2
          go_ret2
          exact (if_pos HALL.out).mpr ⟨_, rfl, ⟨_, _, _, _, _, HST.out⟩, hbw⟩

end Go.Proofs.Ytnojdchodmogbaa
