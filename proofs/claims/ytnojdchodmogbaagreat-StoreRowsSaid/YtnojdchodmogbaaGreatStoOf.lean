/- A store of triples: package store's Of. -/
import Derived.Test.YtnojdchodmogbaaGreatStoAdd
import Derived.Test.YtnojdchodmogbaaGreatStoKepts
namespace Go.Proofs.YtnojdchodmogbaaGreat
open Go.RowKit

/- the triples, one after the other -/
def ofL (l : List TripL) : List TripL := l.foldl addL []
theorem ofL_nil : ofL [] = [] := rfl
theorem ofL_more (l : List TripL) (t : TripL) : ofL (l ++ [t]) = addL (ofL l) t := by unfold ofL; rw [List.foldl_append]; rfl
theorem ofL_length (l : List TripL) : (ofL l).length ≤ l.length := by
  have : ∀ (l a : List TripL), (l.foldl addL a).length ≤ a.length + l.length := by
    intro l
    induction l with
    | nil => intro a; simp
    | cons t r ih => intro a; have := ih (addL a t); have : (addL a t).length ≤ a.length + 1 := addL_length; simp only [List.foldl_cons, List.length_cons]; omega
  simpa [ofL] using this l []
theorem addE_right {l : List TripL} {t : TripL} (h : tripB t = true) (hl : l.length < 4096) : addE l t = 0 := by
  unfold addE
  rw [if_neg (by rw [h]; simp)]
  split
  · rfl
  · rw [if_neg (by omega)]

/- a store that was made in the call -/
def StN (w : World) (b : Nat) (L : List TripL) (w' : World) : Prop := (∃ v0 v1 v2 l1 l2, Sto w' w.heap.size b v0 v1 v2 L l1 l2) ∧ Below w.heap.size w w'
/- what Of leaves -/
def OfT (l : List TripL) (w : World) (e : Ending) (w' : World) : Prop :=
  if l.all tripB then ∃ b, e = .returned (.tuple #[.pointer (some ⟨b, 0, none⟩), .int .i64 0]) ∧ StN w b (ofL l) w' else e = .returned (.tuple #[.pointer none, .int .i64 2]) ∧ Below w.heap.size w w'
/- what the rounds keep -/
def OfR1 (w : World) (l : List TripL) (N : Nat) (i : Value) (wr : World) : Prop := ∃ k : Nat, k ≤ N ∧ i = .int .i64 k ∧ (l.take k).all tripB = true ∧ Below w.heap.size w wr
def OfR2 (w : World) (l : List TripL) (N b : Nat) (i : Value) (wr : World) : Prop := ∃ k : Nat, k ≤ N ∧ i = .int .i64 k ∧ StN w b (ofL (l.take k)) wr
theorem all_take_false {l a : List TripL} {t : TripL} {k : Nat} (h : l.take (k + 1) = a ++ [t]) (ht : tripB t = false) : l.all tripB = false := by
  rw [Bool.eq_false_iff]
  intro c
  rw [List.all_eq_true] at c
  have := c t (List.mem_of_mem_take (i := k + 1) (by rw [h]; simp))
  rw [ht] at this
  cases this

/- a slice of triples that can be read, open -/
theorem reads_trips {w : World} {v : Value} {l : List TripL} (h : Reads w v l.length (tripCells l)) : (v = .slice none 0 0 ∧ l = []) ∨ ∃ g cap, v = .slice (some ⟨g, 0, none⟩) l.length cap ∧ g < w.heap.size ∧ l.length ≤ cap ∧ ∀ j (h : j < l.length), Cells12 w g j l[j] := by
  rcases h with ⟨hv, h0⟩ | ⟨g, cap, hv, hg, hn, hm, hc⟩
  · exact .inl ⟨hv, List.eq_nil_of_length_eq_zero h0⟩
  · exact .inr ⟨g, cap, hv, hg, hn, fun j hj => trips_cell hc j hj⟩

/- a triple's cells from a place on -/
def CellsAt (w : World) (g o : Nat) (t : TripL) : Prop :=
  (w.cell? ⟨g, o, none⟩ = some (.int .i64 t.s.k) ∧ w.cell? ⟨g, o + 1, none⟩ = some (.string (bs t.s.x)) ∧ w.cell? ⟨g, o + 2, none⟩ = some (.string (bs t.s.y)) ∧ w.cell? ⟨g, o + 3, none⟩ = some (.string (bs t.s.z))) ∧
  (w.cell? ⟨g, o + 4, none⟩ = some (.int .i64 t.p.k) ∧ w.cell? ⟨g, o + 5, none⟩ = some (.string (bs t.p.x)) ∧ w.cell? ⟨g, o + 6, none⟩ = some (.string (bs t.p.y)) ∧ w.cell? ⟨g, o + 7, none⟩ = some (.string (bs t.p.z))) ∧
  (w.cell? ⟨g, o + 8, none⟩ = some (.int .i64 t.o.k) ∧ w.cell? ⟨g, o + 9, none⟩ = some (.string (bs t.o.x)) ∧ w.cell? ⟨g, o + 10, none⟩ = some (.string (bs t.o.y)) ∧ w.cell? ⟨g, o + 11, none⟩ = some (.string (bs t.o.z)))
theorem cellsAt_on {W W' : World} {B g o : Nat} {t : TripL} (h : CellsAt W g o t) (hb : Below B W W') (hg : g < B) : CellsAt W' g o t := by
  have on : ∀ {i : Nat} {v : Value}, W.cell? ⟨g, i, none⟩ = some v → W'.cell? ⟨g, i, none⟩ = some v := fun h => by rw [hb.cell (p := ⟨g, _, none⟩) hg]; exact h
  obtain ⟨⟨c0, c1, c2, c3⟩, ⟨c4, c5, c6, c7⟩, ⟨c8, c9, c10, c11⟩⟩ := h
  exact ⟨⟨on c0, on c1, on c2, on c3⟩, ⟨on c4, on c5, on c6, on c7⟩, ⟨on c8, on c9, on c10, on c11⟩⟩
/- a slice of triples as an argument: wherever it begins -/
def ArgT (w : World) (v : Value) (L : List TripL) : Prop :=
  ∃ a c, v = .slice a L.length c ∧ (0 < L.length → ∃ g o, a = some ⟨g, o, none⟩ ∧ g < w.heap.size ∧ ∀ j (h : j < L.length), CellsAt w g (o + j * 12) L[j])
theorem arg_of {w : World} {v : Value} {L : List TripL} (h : Reads w v L.length (tripCells L)) : ArgT w v L := by
  rcases reads_trips h with ⟨rfl, rfl⟩ | ⟨g, cap, rfl, hg, _, hc⟩
  · exact ⟨_, _, rfl, fun h => absurd h (by simp)⟩
  · exact ⟨_, _, rfl, fun _ => ⟨g, 0, rfl, hg, fun j hj => by rw [Nat.zero_add]; exact hc j hj⟩⟩
theorem ArgT.on {w w' : World} {v : Value} {L : List TripL} (h : ArgT w v L) (hb : Below w.heap.size w w') : ArgT w' v L := by
  obtain ⟨a, c, hv, hf⟩ := h
  refine ⟨a, c, hv, fun h0 => ?_⟩
  obtain ⟨g, o, ha, hg, hc⟩ := hf h0
  exact ⟨g, o, ha, Nat.lt_of_lt_of_le hg hb.size, fun j hj => cellsAt_on (hc j hj) hb hg⟩

set_option maxRecDepth 100000 in
set_option maxHeartbeats 8000000 in
theorem of_calls (L : List TripL) (v : Value) (w : World) (hv : ArgT w v L) (hok : ∀ t ∈ L, t.ok) (hl : L.length ≤ 4096) :
    Calls Tryz.prog 20 #[v] w (OfT L w) := by
  obtain ⟨fa, fc, rfl, hf⟩ := hv
  have HOK := Lib.hid hok
  obtain ⟨N, hN⟩ : ∃ N, L.length = N := ⟨_, rfl⟩
  have HF := Lib.hid (show 0 < N → ∃ g o, fa = some ⟨g, o, none⟩ ∧ g < w.heap.size ∧ ∀ j (h : j < L.length), CellsAt w g (o + j * 12) L[j] from fun h0 => hf (by rw [hN]; exact h0))
  clear hf
  rw [hN] at hl ⊢
  have HN := Lib.hid hN
  clear hok hN
  go_enter Tryz.func20, Tryz.ntmps20
  go_wp2
  go_loopw [14] (fun i wr => OfR1 w L N i wr) (fun i _ => N - (intOf i).toNat)
  case atStart => exact ⟨0, Nat.zero_le _, rfl, rfl, Below.refl _ _⟩
  case round =>
    obtain ⟨k, hk, rfl, hall, hbw⟩ := hrel
    by_cases hlt : k < N
    · have hkL : k < L.length := by rw [HN.out]; exact hlt
      have g1 : (0 : Int) ≤ (k : Int) := by omega
      have g2 : (k : Int) < (N : Int) := by omega
      obtain ⟨g, o, rfl, hg, hrow⟩ := HF.out (by omega)
      have hgr : g < wr.heap.size := Nat.lt_of_lt_of_le hg hbw.size
      have cm := Lib.hid (cellsAt_on (hrow k hkL) hbw hg)
      clear hrow
      have hty := Lib.hid (HOK.out L[k] (List.getElem_mem hkL))
      have HT := Lib.hid (List.take_succ_eq_append_getElem hkL)
      generalize L[k] = y at cm hty HT
      have hchk := Lib.hid (fun W => tCheck_calls y hty.out W)
      have HBW := Lib.hid hbw
      have HALL := Lib.hid hall
      clear hbw hall
      obtain ⟨⟨c0, c1, c2, c3⟩, ⟨c4, c5, c6, c7⟩, ⟨c8, c9, c10, c11⟩⟩ := cm.out
      go_wp2_with fail
      refine (hchk.out _).mono ?_
      rintro e w2 ⟨rfl, hb2⟩
      have hb := Lib.hid (first_below HBW.out (one_box hb2))
      clear c0 c1 c2 c3 c4 c5 c6 c7 c8 c9 c10 c11 hb2
      cases hq : tripB y with
      | false =>
        have e2 : formZ false = 2 := rfl
        rw [e2]
        have HA := Lib.hid (all_take_false HT.out hq)
        clear e2 hq
        go_wp2
        go_ret2
        refine (if_neg (by rw [HA.out]; simp)).mpr ⟨rfl, ?_⟩
        first | exact hb.out | exact hb.out.drew
      | true =>
        have e2 : formZ true = 0 := rfl
        rw [e2]
        have HA : Hid ((L.take (k + 1)).all tripB = true) := by show _ = _; rw [HT.out, List.all_append, HALL.out]; simp [hq]
        clear e2 hq
        go_wp2
        go_roundw
        case rel => exact ⟨k + 1, by omega, by go_num, HA.out, by first | exact hb.out | exact hb.out.drew⟩
        case measure => simp [intOf]; omega
    · have hkN : k = N := by omega
      have g3 : ¬ ((k : Int) < (N : Int)) := by omega
      rw [hkN, ← HN.out, List.take_length] at hall
      have HALL := Lib.hid hall
      have HB1 := Lib.hid hbw
      clear hall hbw
      go_wp2_with fail
      refine (new_calls _).mono ?_
      rintro e w2 ⟨rfl, rfl⟩
      have hs := sto_new wr w.heap.size HB1.out.size
      have hb := HB1.out.trans ((box_below wr (.cells #[.slice none 0 0, .slice none 0 0, .slice none 0 0] 70)).mono HB1.out.size)
      obtain ⟨W2, hW2⟩ : ∃ W2, wr.alloc (.cells #[.slice none 0 0, .slice none 0 0, .slice none 0 0] 70) = W2 := ⟨_, rfl⟩
      rw [hW2] at hs hb ⊢
      obtain ⟨b, hb0⟩ : ∃ b, wr.heap.size = b := ⟨_, rfl⟩
      rw [hb0] at hs ⊢
      have HS := Lib.hid hs
      have HB := Lib.hid hb
      clear hW2 hb0 hs hb hk hkN g3 HB1
      go_wp2
      go_loopw [27] (fun i wr => OfR2 w L N b i wr) (fun i _ => N - (intOf i).toNat)
      case atStart => exact ⟨0, Nat.zero_le _, rfl, ⟨_, _, _, _, _, HS.out⟩, HB.out⟩
      case round =>
        obtain ⟨j, hj, rfl, ⟨v0, v1, v2, l1, l2, hst⟩, hbw⟩ := hrel
        by_cases hlt : j < N
        · have hkL : j < L.length := by rw [HN.out]; exact hlt
          have g1 : (0 : Int) ≤ (j : Int) := by omega
          have g2 : (j : Int) < (N : Int) := by omega
          obtain ⟨g, o, rfl, hg, hrow⟩ := HF.out (by omega)
          have hgr : g < wr.heap.size := Nat.lt_of_lt_of_le hg hbw.size
          have cm := Lib.hid (cellsAt_on (hrow j hkL) hbw hg)
          clear hrow
          have hty := Lib.hid (HOK.out L[j] (List.getElem_mem hkL))
          have HT := Lib.hid (List.take_succ_eq_append_getElem hkL)
          generalize L[j] = y at cm hty HT
          have hyB : tripB y = true := (List.all_eq_true.1 HALL.out) y (List.mem_of_mem_take (i := j + 1) (by rw [HT.out]; simp))
          have hlen : (ofL (L.take j)).length < 4096 := by have := ofL_length (L.take j); rw [List.length_take] at this; omega
          have HE := Lib.hid (addE_right (l := ofL (L.take j)) hyB hlen)
          have HM : Hid (addL (ofL (L.take j)) y = ofL (L.take (j + 1))) := by show _ = _; rw [HT.out, ofL_more]
          have HST := Lib.hid hst
          have HBW := Lib.hid hbw
          clear hbw hst hyB hlen
          have hadd := Lib.hid (fun (W : World) (h : Sto W w.heap.size b v0 v1 v2 (ofL (L.take j)) l1 l2) => add_calls (fun i => w.heap.size ≤ i) w.heap.size b v0 v1 v2 (ofL (L.take j)) l1 l2 y W h (fun i hi => (sto_foot h hi).1) hty.out)
          obtain ⟨⟨c0, c1, c2, c3⟩, ⟨c4, c5, c6, c7⟩, ⟨c8, c9, c10, c11⟩⟩ := cm.out
          go_wp2_with fail
          refine (hadd.out _ (sto_on HST.out (box_below _ _) (Nat.le_refl _))).mono ?_
          rintro e w3 ⟨rfl, u0, u1, u2, m1, m2, hst3, hk3, _⟩
          clear c0 c1 c2 c3 c4 c5 c6 c7 c8 c9 c10 c11
          have hb3 := Lib.hid ((HBW.out.trans ((box_below _ _).mono HBW.out.size)).trans (hk3.below (Nat.le_trans HBW.out.size (box_below _ _).size) (fun i hi => hi)))
          rw [HE.out]
          rw [HM.out] at hst3
          have HST3 := Lib.hid hst3
          obtain ⟨D, hD⟩ : ∃ D, addB (ofL (L.take j)) y = D := ⟨_, rfl⟩
          rw [hD]
          clear hst3 hk3 hD
          go_wp2
          go_roundw
          case rel => exact ⟨j + 1, by omega, by go_num, ⟨_, _, _, _, _, HST3.out⟩, by first | exact hb3.out | exact hb3.out.drew⟩
          case measure => simp [intOf]; omega
        · have hjN : j = N := by omega
          have g3 : ¬ ((j : Int) < (N : Int)) := by omega
          rw [hjN, ← HN.out, List.take_length] at hst
          have HST := Lib.hid hst
          clear hst
          go_wp2
          go_ret2
          exact (if_pos HALL.out).mpr ⟨_, rfl, ⟨_, _, _, _, _, HST.out⟩, hbw⟩

end Go.Proofs.YtnojdchodmogbaaGreat
