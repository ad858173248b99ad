/- Is a triple among triples? The document's own answer. Triples in order with one more: the document's own answer. -/
import Derived.Test.YtnojdchodmogbaaGreatRefComps
import Derived.Test.YtnojdchodmogbaaGreatStoOf
import Derived.BigQuiet
import Derived.Test.YtnojdchodmogbaaGreatStoFounds
import Derived.Test.YtnojdchodmogbaaGreatStoRows
import Derived.Deep.RegionHeld3
namespace Go.Proofs.YtnojdchodmogbaaGreat
open Go.RowKit

theorem eql_trip (t u : TripL) (w : World) : (binOp .eql 29 (.agg #[.int .i64 t.s.k, .string (bs t.s.x), .string (bs t.s.y), .string (bs t.s.z), .int .i64 t.p.k, .string (bs t.p.x), .string (bs t.p.y), .string (bs t.p.z), .int .i64 t.o.k, .string (bs t.o.x), .string (bs t.o.y), .string (bs t.o.z)]) (.agg #[.int .i64 u.s.k, .string (bs u.s.x), .string (bs u.s.y), .string (bs u.s.z), .int .i64 u.p.k, .string (bs u.p.x), .string (bs u.p.y), .string (bs u.p.z), .int .i64 u.o.k, .string (bs u.o.x), .string (bs u.o.y), .string (bs u.o.z)])).run Tryz.prog w = .ok (.bool (decide (t = u))) w := by
  have := eq_trip t u w
  rw [teqs_of] at this
  have e : decide (tripCmp t u = 0) = decide (t = u) := by
    rw [Bool.eq_iff_iff, decide_eq_true_eq, decide_eq_true_eq]
    exact ⟨tr_zero, fun h => by rw [h]; exact teqs_cmp (by unfold teqs; rw [teq_self, teq_self, teq_self]; rfl)⟩
  rw [e] at this
  exact this

set_option maxRecDepth 100000 in
set_option maxHeartbeats 4000000 in
theorem rHas_calls (L : List TripL) (t : TripL) (v : Value) (w : World) (hv : Reads w v L.length (tripCells L)) (hl : L.length ≤ 1000000) :
    Calls Tryz.prog 18 #[v, t.v] w fun e w' => e = .returned (.bool (decide (t ∈ L))) ∧ Below w.heap.size w w' := by
  have bx0 := box12_of (blk_new w 29 (cells12 t))
  simp only [TripL.v]
  rcases reads_trips hv with ⟨rfl, rfl⟩ | ⟨g, cap, rfl, hg, hcap, hrow⟩
  · clear bx0 hv
    go_enter Tryz.func18, Tryz.ntmps18
    go_wp2
    go_loopw [5] (fun i wr => i = .int .i64 0 ∧ Below w.heap.size w wr) (fun _ _ => 0)
    case atStart => exact ⟨rfl, box_below _ _⟩
    case round =>
      obtain ⟨rfl, hb⟩ := hrel
      go_wp2
      go_ret
      exact ⟨by rw [show decide (t ∈ ([] : List TripL)) = false from decide_eq_false List.not_mem_nil]; rfl, by first | exact hb | exact hb.drew⟩
  · obtain ⟨N, hN⟩ : ∃ N, L.length = N := ⟨_, rfl⟩
    rw [hN] at hcap hl
    simp only [hN]
    have HN := Lib.hid hN
    have HROW := Lib.hid hrow
    have HB := Lib.hid (box_below w (.cells (cells12 t) 29))
    have HX := Lib.hid bx0
    clear hv hrow hN bx0
    go_enter Tryz.func18, Tryz.ntmps18
    go_wp2
    go_loopw [5] (fun i wr => ∃ k : Nat, k ≤ N ∧ i = .int .i64 k ∧ Hid (¬ t ∈ L.take k) ∧ Hid (Box12 wr w.heap.size t) ∧ Hid (Below w.heap.size w wr)) (fun i _ => N - (intOf i).toNat)
    case atStart => exact ⟨0, Nat.zero_le _, rfl, by show ¬ _; simp, HX, HB⟩
    case round =>
      obtain ⟨k, hk, rfl, hno, hx, hbw⟩ := hrel
      by_cases hlt : k < N
      · have hkL : k < L.length := by rw [HN.out]; exact hlt
        have g1 : (0 : Int) ≤ (k : Int) := by omega
        have g2 : (k : Int) < (N : Int) := by omega
        have cm := cells_on (HROW.out k hkL) hbw.out hg
        have HT := Lib.hid (List.take_succ_eq_append_getElem hkL)
        have HME := Lib.hid (List.getElem_mem hkL)
        generalize L[k] = y at cm HT HME
        obtain ⟨⟨c0, c1, c2, c3⟩, ⟨c4, c5, c6, c7⟩, ⟨c8, c9, c10, c11⟩⟩ := cm
        obtain ⟨⟨d0, d1, d2, d3⟩, ⟨d4, d5, d6, d7⟩, ⟨d8, d9, d10, d11⟩⟩ := hx.out
        have heq := fun W => eql_trip y t W
        by_cases he : y = t
        · rw [decide_eq_true he] at heq
          go_wp2
          go_quiet (fail)
          go_wp2
          go_ret
          have hm : t ∈ L := by rw [← he]; exact HME.out
          exact ⟨by rw [decide_eq_true hm]; rfl, by first | exact hbw.out | exact hbw.out.drew | exact drewN_below hbw.out _⟩
        · rw [decide_eq_false he] at heq
          go_wp2
          go_quiet (fail)
          go_wp2
          refine ⟨⟨k + 1, by omega, by go_num, ?_, hx, ?_⟩, by simp [intOf]; omega⟩
          · show ¬ _
            rw [HT.out, List.mem_append, List.mem_singleton]
            exact fun h => h.elim hno.out (fun h => he h.symm)
          · exact (by first | exact hbw.out | exact hbw.out.drew | exact drewN_below hbw.out _)
      · have hkN : k = N := by omega
        have g3 : ¬ ((k : Int) < (N : Int)) := by omega
        have HNO := hno
        go_wp2
        go_ret
        have hm : ¬ t ∈ L := by have := HNO.out; rwa [hkN, ← HN.out, List.take_length] at this
        exact ⟨by rw [decide_eq_false hm]; rfl, by first | exact hbw.out | exact hbw.out.drew⟩

end Go.Proofs.YtnojdchodmogbaaGreat

namespace Go.Proofs.YtnojdchodmogbaaGreat
open Go.RowKit

def PutI (L : List TripL) (t : TripL) (k : Nat) (d : Bool) (out : List TripL) : Prop :=
  out.length ≤ k + 1 ∧ if d then putL L t = out ++ L.drop k else out = L.take k ∧ putL L t = L.take k ++ putL (L.drop k) t
theorem put_start (L : List TripL) (t : TripL) : PutI L t 0 false [] := ⟨by simp, by simp⟩
theorem put_true {L out : List TripL} {t : TripL} {k : Nat} (h : PutI L t k true out) (hk : k < L.length) : PutI L t (k + 1) true (out ++ [L[k]]) := by
  obtain ⟨h1, h2⟩ := h
  refine ⟨by simp; omega, ?_⟩
  simp only [if_true] at h2 ⊢
  rw [h2, List.drop_eq_getElem_cons hk]
  simp
theorem put_ahead {L out : List TripL} {t : TripL} {k : Nat} (h : PutI L t k false out) (hk : k < L.length) (hc : tripCmp t L[k] < 0) : PutI L t (k + 1) true ((out ++ [t]) ++ [L[k]]) := by
  obtain ⟨h1, h2⟩ := h
  simp only [Bool.false_eq_true, if_false] at h2
  have hlen : out.length ≤ k := by rw [h2.1, List.length_take]; omega
  refine ⟨by simp; omega, ?_⟩
  simp only [if_true]
  rw [h2.2, List.drop_eq_getElem_cons hk, putL, if_pos hc, h2.1]
  simp
theorem put_behind {L out : List TripL} {t : TripL} {k : Nat} (h : PutI L t k false out) (hk : k < L.length) (hc : ¬ tripCmp t L[k] < 0) : PutI L t (k + 1) false (out ++ [L[k]]) := by
  obtain ⟨h1, h2⟩ := h
  simp only [Bool.false_eq_true, if_false] at h2
  have hlen : out.length ≤ k := by rw [h2.1, List.length_take]; omega
  refine ⟨by simp; omega, ?_⟩
  simp only [Bool.false_eq_true, if_false]
  constructor
  · rw [h2.1, List.take_succ_eq_append_getElem hk]
  · rw [h2.2, List.drop_eq_getElem_cons hk, putL, if_neg hc, List.take_succ_eq_append_getElem hk, List.append_assoc]; rfl
theorem put_end_true {L out : List TripL} {t : TripL} (h : PutI L t L.length true out) : putL L t = out := by simpa [PutI] using h.2
theorem put_end_false {L out : List TripL} {t : TripL} (h : PutI L t L.length false out) : putL L t = out ++ [t] ∧ out.length ≤ L.length := by
  obtain ⟨_, h2⟩ := h
  simp only [Bool.false_eq_true, if_false, List.take_length, List.drop_length] at h2
  rw [h2.1, h2.2]; exact ⟨rfl, Nat.le_refl _⟩

/- what the rounds keep -/
def PutR (W1 : World) (B1 : Nat) (L : List TripL) (t : TripL) (N : Nat) (v d i : Value) (wr : World) : Prop :=
  ∃ (k : Nat) (dd : Bool) (out : List TripL), k ≤ N ∧ i = .int .i64 k ∧ d = .bool dd ∧ PutI L t k dd out ∧ Own wr B1 v out ∧ Below B1 W1 wr
/- a slice that can be read, whatever its length -/
theorem reads_open {w : World} {v : Value} {l : List TripL} (h : Reads w v l.length (tripCells l)) : ∃ a c, v = .slice a l.length c ∧ (0 < l.length → ∃ g, a = some ⟨g, 0, none⟩ ∧ g < w.heap.size ∧ l.length ≤ c ∧ ∀ j (h : j < l.length), Cells12 w g j l[j]) := by
  rcases reads_trips h with ⟨rfl, rfl⟩ | ⟨g, cap, rfl, hg, hc, hcells⟩
  · exact ⟨_, _, rfl, fun h => absurd h (by simp)⟩
  · exact ⟨_, _, rfl, fun _ => ⟨g, rfl, hg, hc, hcells⟩⟩
theorem own_push {w4 : World} {B : Nat} {v : Value} {F : List TripL} {y : TripL} (h : w4.ownsRow B 29 12 v (F.length + 1) (tripCells F ++ [.int .i64 y.s.k, .string (bs y.s.x), .string (bs y.s.y), .string (bs y.s.z), .int .i64 y.p.k, .string (bs y.p.x), .string (bs y.p.y), .string (bs y.p.z), .int .i64 y.o.k, .string (bs y.o.x), .string (bs y.o.y), .string (bs y.o.z)])) : Own w4 B v (F ++ [y]) := by
  show World.ownsRow _ _ _ _ _ _ _
  rw [List.length_append, tripCells_append, tripCells_one]
  exact h
theorem own_blk {w : World} {B : Nat} {v : Value} {l : List TripL} (h : Own w B v l) (k : Nat) (hk : v.ownBlock = some k) : B ≤ k := (h.lt k hk).1

set_option maxRecDepth 100000 in
set_option maxHeartbeats 8000000 in
theorem rPut_calls (L : List TripL) (t : TripL) (v : Value) (w : World) (hv : Reads w v L.length (tripCells L)) (hl : L.length ≤ 100000) (ht : t.ok) (hL : ∀ x ∈ L, x.ok) :
    Calls Tryz.prog 35 #[v, t.v] w (FoundT (putL L t) w) := by
  obtain ⟨i0, hi, hz0, hz1, hz2⟩ := info_parts info_triple
  obtain ⟨W1, hW1⟩ : ∃ W1, w.alloc (.cells (cells12 t) 29) = W1 := ⟨_, rfl⟩
  obtain ⟨B1, hB1⟩ : ∃ B1, W1.heap.size = B1 := ⟨_, rfl⟩
  have hBw := Lib.hid (show w.heap.size + 1 = B1 by rw [← hB1, ← hW1]; simp)
  have HB1 := Lib.hid hB1
  have bx := Lib.hid (show Box12 W1 w.heap.size t by rw [← hW1]; exact box12_of (blk_new w 29 (cells12 t)))
  have hb1 := Lib.hid (show Below w.heap.size w W1 by rw [← hW1]; exact box_below _ _)
  have hst := Lib.hid (show Own (W1.alloc (.cells #[] 29)) B1 (.slice (some ⟨B1, 0, none⟩) 0 0) [] from ⟨rfl, .inr ⟨B1, 0, #[], rfl, Nat.le_refl _, by rw [← hB1]; exact blk_new _ _ _, Nat.le_refl _, Nat.zero_le _, rfl, rfl⟩⟩)
  have hbs := Lib.hid ((Below.refl B1 W1).alloc (by omega) (.cells #[] 29))
  have hW := Lib.hid hW1
  clear hB1 hW1
  obtain ⟨fa, fc, rfl, hf⟩ := reads_open hv
  obtain ⟨N, hN⟩ : ∃ N, L.length = N := ⟨_, rfl⟩
  have HF := Lib.hid (show 0 < N → ∃ g, fa = some ⟨g, 0, none⟩ ∧ g < w.heap.size ∧ N ≤ fc ∧ ∀ j (h : j < L.length), Cells12 w g j L[j] from fun h0 => by obtain ⟨g, a1, a2, a3, a4⟩ := hf (by rw [hN]; exact h0); exact ⟨g, a1, a2, by rw [← hN]; exact a3, a4⟩)
  clear hv hf
  rw [hN] at hl ⊢
  have HN := Lib.hid hN
  have HL := Lib.hid hL
  have HT := Lib.hid ht
  have hwB : w.heap.size < B1 := by have := hBw.out; omega
  clear hN hL ht
  simp only [TripL.v]
  go_enter Tryz.func35, Tryz.ntmps35
  go_wp2_with fail
  have e0 := hW.out
  unfold cells12 at e0
  simp only [e0, hBw.out]
  clear e0
  go_wp2
  go_loopw [5, 6, 7] (fun v d i wr => PutR W1 B1 L t N v d i wr) (fun _ _ i _ => N - (intOf i).toNat)
  case atStart => exact ⟨0, false, [], Nat.zero_le _, rfl, rfl, put_start _ _, hst.out, hbs.out⟩
  case round =>
    obtain ⟨k, dd, out, hk, rfl, rfl, hI, hown, hbw⟩ := hrel
    have hbx := Lib.hid (box_on bx.out hbw (by have := hBw.out; omega))
    have hlt2 := Lib.hid (show w.heap.size < wr.heap.size by have := hbw.size; have := hBw.out; have := HB1.out; omega)
    have hbB := Lib.hid (show B1 ≤ wr.heap.size by have := hbw.size; have := HB1.out; omega)
    have HOWN := Lib.hid hown
    have HBW := Lib.hid hbw
    have hol := Lib.hid hI.1
    have hI := Lib.hid hI
    clear hown hbw
    by_cases hlt : k < N
    · obtain ⟨g, rfl, hg, hcap, hrow⟩ := HF.out (by omega)
      have hkL : k < L.length := by rw [HN.out]; exact hlt
      have g1 : (0 : Int) ≤ (k : Int) := by omega
      have g2 : (k : Int) < (N : Int) := by omega
      have hgB : g < B1 := by have := hBw.out; omega
      have cm1 := Lib.hid (cells_on (hrow k hkL) hb1.out hg)
      have cm := Lib.hid (cells_on cm1.out HBW.out hgB)
      clear hrow
      have hgr : g < wr.heap.size := Nat.lt_of_lt_of_le hgB hbB.out
      have hcmp := Lib.hid (fun W => rtCompare_calls t L[k] W HT.out (HL.out L[k] (List.getElem_mem hkL)))
      have IT := Lib.hid (fun h : PutI L t k true out => put_true h hkL)
      have IA := Lib.hid (fun (h : PutI L t k false out) => put_ahead h hkL)
      have IB := Lib.hid (fun (h : PutI L t k false out) => put_behind h hkL)
      generalize L[k] = y at cm cm1 hcmp IT IA IB
      cases dd with
      | true =>
        have hI2 := Lib.hid (IT.out hI.out)
        clear IT IA IB hcmp
        go_wp2_with fail
        refine wp_region_held_drew (S := (fun _ => True)) (by kernel_rfl) ?_ (fun hHeld => ?_)
        · (try dsimp only); (try trivial)
        refine wpAnyH_take (i := 0) (oi := ⟨some 15, _, _, _, _, _⟩) (v := ?_) rfl (by kernel_rfl) (by kernel_rfl) (by kernel_rfl) (fun _ _ _ h => h) (Or.inl ⟨by kernel_rfl, ?_⟩) (by assumption) ?_
        rotate_left
        · (intro ww hSw; (try dsimp only at hSw); go_simp); (try with_reducible rfl)
        (try simp only [Act.put, List.setIfInBounds_toArray, List.set_cons_zero, List.set_cons_succ])
        refine wpAnyH_take (i := 1) (oi := ⟨some 16, _, _, _, _, _⟩) (v := ?_) rfl (by kernel_rfl) (by kernel_rfl) (by kernel_rfl) (fun _ _ _ h => h) (Or.inl ⟨by kernel_rfl, ?_⟩) (by assumption) ?_
        rotate_left
        · (intro ww hSw; (try dsimp only at hSw); go_simp); (try with_reducible rfl)
        (try simp only [Act.put, List.setIfInBounds_toArray, List.set_cons_zero, List.set_cons_succ])
        refine wpAnyH_take (i := 2) (oi := ⟨some 17, _, _, _, _, _⟩) (v := ?_) rfl (by kernel_rfl) (by kernel_rfl) (by kernel_rfl) (fun _ _ _ h => h) (Or.inl ⟨by kernel_rfl, ?_⟩) (by assumption) ?_
        rotate_left
        · (intro ww hSw; (try dsimp only at hSw); go_simp); (try with_reducible rfl)
        (try simp only [Act.put, List.setIfInBounds_toArray, List.set_cons_zero, List.set_cons_succ])
        refine wpAnyH_take (i := 3) (oi := ⟨some 18, _, _, _, _, _⟩) (v := undef) rfl (by kernel_rfl) (by kernel_rfl) (by kernel_rfl) (fun _ _ _ h => h) (Or.inr ⟨by kernel_rfl, rfl⟩) (by assumption) ?_
        (try simp only [Act.put, List.setIfInBounds_toArray, List.set_cons_zero, List.set_cons_succ])
        refine wpAnyH_take (i := 4) (oi := ⟨some 19, _, _, _, _, _⟩) (v := undef) rfl (by kernel_rfl) (by kernel_rfl) (by kernel_rfl) (fun _ _ _ h => h) (Or.inr ⟨by kernel_rfl, rfl⟩) (by assumption) ?_
        (try simp only [Act.put, List.setIfInBounds_toArray, List.set_cons_zero, List.set_cons_succ])
        refine wpAnyH_take (i := 5) (oi := ⟨some 20, _, _, _, _, _⟩) (v := undef) rfl (by kernel_rfl) (by kernel_rfl) (by kernel_rfl) (fun _ _ _ h => h) (Or.inr ⟨by kernel_rfl, rfl⟩) (by assumption) ?_
        (try simp only [Act.put, List.setIfInBounds_toArray, List.set_cons_zero, List.set_cons_succ])
        refine wpAnyH_take (i := 6) (oi := ⟨some 21, _, _, _, _, _⟩) (v := undef) rfl (by kernel_rfl) (by kernel_rfl) (by kernel_rfl) (fun _ _ _ h => h) (Or.inr ⟨by kernel_rfl, rfl⟩) (by assumption) ?_
        (try simp only [Act.put, List.setIfInBounds_toArray, List.set_cons_zero, List.set_cons_succ])
        refine wpAnyH_take (i := 7) (oi := ⟨some 22, _, _, _, _, _⟩) (v := undef) rfl (by kernel_rfl) (by kernel_rfl) (by kernel_rfl) (fun _ _ _ h => h) (Or.inr ⟨by kernel_rfl, rfl⟩) (by assumption) ?_
        (try simp only [Act.put, List.setIfInBounds_toArray, List.set_cons_zero, List.set_cons_succ])
        refine wpAnyH_take (i := 8) (oi := ⟨some 23, _, _, _, _, _⟩) (v := undef) rfl (by kernel_rfl) (by kernel_rfl) (by kernel_rfl) (fun _ _ _ h => h) (Or.inr ⟨by kernel_rfl, rfl⟩) (by assumption) ?_
        (try simp only [Act.put, List.setIfInBounds_toArray, List.set_cons_zero, List.set_cons_succ])
        refine wpAnyH_take (i := 9) (oi := ⟨some 24, _, _, _, _, _⟩) (v := undef) rfl (by kernel_rfl) (by kernel_rfl) (by kernel_rfl) (fun _ _ _ h => h) (Or.inr ⟨by kernel_rfl, rfl⟩) (by assumption) ?_
        (try simp only [Act.put, List.setIfInBounds_toArray, List.set_cons_zero, List.set_cons_succ])
        refine wpAnyH_take (i := 10) (oi := ⟨some 25, _, _, _, _, _⟩) (v := ?_) rfl (by kernel_rfl) (by kernel_rfl) (by kernel_rfl) (fun _ _ _ h => h) (Or.inl ⟨by kernel_rfl, ?_⟩) (by assumption) ?_
        rotate_left
        · (intro ww hSw; (try dsimp only at hSw); go_simp); (try with_reducible rfl)
        (try simp only [Act.put, List.setIfInBounds_toArray, List.set_cons_zero, List.set_cons_succ])
        refine wpAnyH_done (by kernel_rfl) ?_ _
        obtain ⟨w3, hw3⟩ : ∃ w3, wr.drew = w3 := ⟨_, rfl⟩
        rw [hw3]
        have hb3 : Below wr.heap.size wr w3 := by rw [← hw3]; exact (Below.refl _ _).drew
        clear hw3
        have HP3 := Lib.hid (own_on HOWN.out hb3 (Nat.le_refl _))
        have HW3 := Lib.hid (HBW.out.trans (hb3.mono hbB.out))
        have hs3 : B1 ≤ w3.heap.size := by have := HW3.out.size; have := HB1.out; omega
        have hol2 := hol.out
        clear hb3
        obtain ⟨⟨c0, c1, c2, c3⟩, ⟨c4, c5, c6, c7⟩, ⟨c8, c9, c10, c11⟩⟩ := cells_on cm1.out HW3.out hgB
        go_wp2_with (at_builtin; go_must (refine wpList_append_own_at _ rfl (.tmp 30) (.tmp 35) 25 rfl B1 29 i0 noTrip.v 12 168 Tryz.underlying25 hi hz0 hz1 hz2 rfl (by decide) _ _ _ rfl (HP3.out.alloc _) ⟨w3.heap.size, 0, none⟩ 1 1 [.int .i64 y.s.k, .string (bs y.s.x), .string (bs y.s.y), .string (bs y.s.z), .int .i64 y.p.k, .string (bs y.p.x), .string (bs y.p.y), .string (bs y.p.z), .int .i64 y.o.k, .string (bs y.o.x), .string (bs y.o.y), .string (bs y.o.z)] rfl rfl (news12b _ _ _ _ _ _ _ _ _ _ _ _ _ _ rfl) (by intro u hu; simp at hu; rcases hu with rfl | rfl | rfl | rfl | rfl | rfl | rfl | rfl | rfl | rfl | rfl | rfl <;> rfl) (by unfold maxLen; omega) (by omega) (by simp; omega) ?_; intro v4 w4 hO4 hG4 hN4 hA4; have HO4 := Lib.hid hO4; clear hO4 hN4; have HG4 := Lib.hid hG4; clear hG4; have HA4 := Lib.hid hA4; clear hA4))
        clear c0 c1 c2 c3 c4 c5 c6 c7 c8 c9 c10 c11
        have HP4 := Lib.hid (own_push HO4.out)
        have HW4 := Lib.hid ((HW3.out.alloc (by omega) _).grown HG4.out (by simp; omega) (fun k hk => own_blk HP3.out k hk))
        have hs4 : B1 ≤ w4.heap.size := by have := HW4.out.size; have := HB1.out; omega
        go_wp2
        go_roundw
        case rel => exact ⟨k + 1, true, _, by omega, by go_num, rfl, hI2.out, HP4.out, by first | exact HW4.out | exact HW4.out.drew⟩
        case measure => simp [intOf]; omega
        | false =>
        by_cases hc : tripCmp t y < 0
        · have hI2 := Lib.hid (IA.out hI.out hc)
          have hd : decide (tripCmp t y < 0) = true := decide_eq_true hc
          obtain ⟨C, hC⟩ : ∃ C, tripCmp t y = C := ⟨_, rfl⟩
          rw [hC] at hd hcmp hc
          clear IT IA IB hC
          go_wp2_with fail
          refine wp_region_held_drew (S := (fun W => Below wr.heap.size wr W)) (by kernel_rfl) ?_ (fun hHeld => ?_)
          · (try dsimp only); first | exact Below.refl _ _ | exact (Below.refl _ _).drew
          refine wpAnyH_take (i := 0) (oi := ⟨some 15, _, _, _, _, _⟩) (v := ?_) rfl (by kernel_rfl) (by kernel_rfl) (by kernel_rfl) (fun _ _ _ h => h) (Or.inl ⟨by kernel_rfl, ?_⟩) (by assumption) ?_
          rotate_left
          · (intro ww hSw; (try dsimp only at hSw); go_simp); (try with_reducible rfl)
          (try simp only [Act.put, List.setIfInBounds_toArray, List.set_cons_zero, List.set_cons_succ])
          refine wpAnyH_take (i := 1) (oi := ⟨some 16, _, _, _, _, _⟩) (v := ?_) rfl (by kernel_rfl) (by kernel_rfl) (by kernel_rfl) (fun _ _ _ h => h) (Or.inl ⟨by kernel_rfl, ?_⟩) (by assumption) ?_
          rotate_left
          · (intro ww hSw; (try dsimp only at hSw); go_simp); (try with_reducible rfl)
          (try simp only [Act.put, List.setIfInBounds_toArray, List.set_cons_zero, List.set_cons_succ])
          refine wpAnyH_take (i := 2) (oi := ⟨some 17, _, _, _, _, _⟩) (v := ?_) rfl (by kernel_rfl) (by kernel_rfl) (by kernel_rfl) (fun _ _ _ h => h) (Or.inl ⟨by kernel_rfl, ?_⟩) (by assumption) ?_
          rotate_left
          · (intro ww hSw; (try dsimp only at hSw); go_simp); (try with_reducible rfl)
          (try simp only [Act.put, List.setIfInBounds_toArray, List.set_cons_zero, List.set_cons_succ])
          refine wpAnyH_take (i := 3) (oi := ⟨some 18, _, _, _, _, _⟩) (v := ?_) rfl (by kernel_rfl) (by kernel_rfl) (by kernel_rfl) (fun _ _ _ h => h) (Or.inl ⟨by kernel_rfl, ?_⟩) (by assumption) ?_
          rotate_left
          · (intro ww hSw; (try dsimp only at hSw); obtain ⟨⟨d0, d1, d2, d3⟩, ⟨d4, d5, d6, d7⟩, ⟨d8, d9, d10, d11⟩⟩ := box_on hbx.out hSw hlt2.out; go_simp); (try with_reducible rfl)
          (try simp only [Act.put, List.setIfInBounds_toArray, List.set_cons_zero, List.set_cons_succ])
          refine wpAnyH_take (i := 4) (oi := ⟨some 19, _, _, _, _, _⟩) (v := ?_) rfl (by kernel_rfl) (by kernel_rfl) (by kernel_rfl) (fun _ _ _ h => h) (Or.inl ⟨by kernel_rfl, ?_⟩) (by assumption) ?_
          rotate_left
          · (intro ww hSw; (try dsimp only at hSw); go_simp); (try with_reducible rfl)
          (try simp only [Act.put, List.setIfInBounds_toArray, List.set_cons_zero, List.set_cons_succ])
          refine wpAnyH_take (i := 5) (oi := ⟨some 20, _, _, _, _, _⟩) (v := ?_) rfl (by kernel_rfl) (by kernel_rfl) (by kernel_rfl) (fun _ _ _ h => h) (Or.inl ⟨by kernel_rfl, ?_⟩) (by assumption) ?_
          rotate_left
          · (intro ww hSw; (try dsimp only at hSw); go_simp); (try with_reducible rfl)
          (try simp only [Act.put, List.setIfInBounds_toArray, List.set_cons_zero, List.set_cons_succ])
          refine wpAnyH_take (i := 6) (oi := ⟨some 21, _, _, _, _, _⟩) (v := .pointer (some ⟨g, k * 12, none⟩)) rfl (by kernel_rfl) (by kernel_rfl) (by kernel_rfl) (fun _ _ _ h => h) (Or.inl ⟨by kernel_rfl, ?_⟩) (by assumption) ?_
          · (intro ww hSw; (try dsimp only at hSw); go_simp)
          (try simp only [Act.put, List.setIfInBounds_toArray, List.set_cons_zero, List.set_cons_succ])
          refine wpAnyH_take (i := 7) (oi := ⟨some 22, _, _, _, _, _⟩) (v := ?_) rfl (by kernel_rfl) (by kernel_rfl) (by kernel_rfl) (fun _ _ _ h => h) (Or.inl ⟨by kernel_rfl, ?_⟩) (by assumption) ?_
          rotate_left
          · (intro ww hSw; (try dsimp only at hSw); obtain ⟨⟨c0, c1, c2, c3⟩, ⟨c4, c5, c6, c7⟩, ⟨c8, c9, c10, c11⟩⟩ := cells_on cm.out hSw hgr; go_simp); (try with_reducible rfl)
          (try simp only [Act.put, List.setIfInBounds_toArray, List.set_cons_zero, List.set_cons_succ])
          refine wpAnyH_ready (rs := [8]) (by kernel_rfl) (by simp) ?_
          refine AllReadyH.cons rfl (fun K hK => ?_) AllReadyH.nil
          go_simp
          refine (hcmp.out _).mono ?_
          rintro e w3 ⟨rfl, hb2⟩
          (try replace hb2 := from_drew hb2)
          go_wp2_with fail
          refine hK.out _ _ ?_ (fun hHeld => ?_)
          · (try dsimp only); first | exact hb2 | exact hb2.drew
          clear hK K
          (try simp only [Act.put, List.setIfInBounds_toArray, List.set_cons_zero, List.set_cons_succ])
          refine wpAnyH_take (i := 9) (oi := ⟨some 24, _, _, _, _, _⟩) (v := .bool true) rfl (by kernel_rfl) (by kernel_rfl) (by kernel_rfl) (fun _ _ _ h => h) (Or.inl ⟨by kernel_rfl, ?_⟩) (by assumption) ?_
          · (intro ww hSw; (try dsimp only at hSw); go_simp; (try simp [hc]))
          (try simp only [Act.put, List.setIfInBounds_toArray, List.set_cons_zero, List.set_cons_succ])
          refine wpAnyH_take (i := 10) (oi := ⟨some 25, _, _, _, _, _⟩) (v := ?_) rfl (by kernel_rfl) (by kernel_rfl) (by kernel_rfl) (fun _ _ _ h => h) (Or.inl ⟨by kernel_rfl, ?_⟩) (by assumption) ?_
          rotate_left
          · (intro ww hSw; (try dsimp only at hSw); go_simp); (try with_reducible rfl)
          (try simp only [Act.put, List.setIfInBounds_toArray, List.set_cons_zero, List.set_cons_succ])
          refine wpAnyH_done (by kernel_rfl) ?_ _
          have hb3 := hb2
          clear hb2
          have HP3 := Lib.hid (own_on HOWN.out hb3 (Nat.le_refl _))
          have HW3 := Lib.hid (HBW.out.trans (hb3.mono hbB.out))
          have hs3 : B1 ≤ w3.heap.size := by have := HW3.out.size; have := HB1.out; omega
          have hol2 := hol.out
          clear hb3
          obtain ⟨⟨d0, d1, d2, d3⟩, ⟨d4, d5, d6, d7⟩, ⟨d8, d9, d10, d11⟩⟩ := box_on bx.out HW3.out hwB
          go_wp2_with (first | (at_builtin; (refine wpList_append_own_at _ rfl (.tmp 26) (.tmp 28) 25 rfl B1 29 i0 noTrip.v 12 168 Tryz.underlying25 hi hz0 hz1 hz2 rfl (by decide) _ _ _ rfl (HP3.out.alloc _) ⟨w3.heap.size, 0, none⟩ 1 1 [.int .i64 t.s.k, .string (bs t.s.x), .string (bs t.s.y), .string (bs t.s.z), .int .i64 t.p.k, .string (bs t.p.x), .string (bs t.p.y), .string (bs t.p.z), .int .i64 t.o.k, .string (bs t.o.x), .string (bs t.o.y), .string (bs t.o.z)] rfl rfl (news12b _ _ _ _ _ _ _ _ _ _ _ _ _ _ rfl) (by intro u hu; simp at hu; rcases hu with rfl | rfl | rfl | rfl | rfl | rfl | rfl | rfl | rfl | rfl | rfl | rfl <;> rfl) (by unfold maxLen; omega) (by omega) (by simp; omega) ?_; intro v4 w4 hO4 hG4 hN4 hA4; have HO4 := Lib.hid hO4; clear hO4 hN4; have HG4 := Lib.hid hG4; clear hG4; have HA4 := Lib.hid hA4; clear hA4; have hp4 := own_push HO4.out; obtain ⟨o2, ho2⟩ : ∃ o2, out ++ [t] = o2 := ⟨_, rfl⟩; have hi4 := hI2.out; rw [ho2] at hp4 hi4; have hol3 : o2.length ≤ k + 2 := (by rw [← ho2]; simp; omega); have HP4 := Lib.hid hp4; have HI4 := Lib.hid hi4; clear hp4 hi4 ho2; have HW4 := Lib.hid ((HW3.out.alloc (by omega) _).grown HG4.out (by simp; omega) (fun k hk => own_blk HP3.out k hk)); have hs4 : B1 ≤ w4.heap.size := (by have := HW4.out.size; have := HB1.out; omega); clear d0 d1 d2 d3 d4 d5 d6 d7 d8 d9 d10 d11; obtain ⟨⟨c0, c1, c2, c3⟩, ⟨c4, c5, c6, c7⟩, ⟨c8, c9, c10, c11⟩⟩ := cells_on cm1.out HW4.out hgB)) | (at_builtin; (refine wpList_append_own_at _ rfl (.tmp 30) (.tmp 35) 25 rfl B1 29 i0 noTrip.v 12 168 Tryz.underlying25 hi hz0 hz1 hz2 rfl (by decide) _ _ _ rfl (HP4.out.alloc _) ⟨w4.heap.size, 0, none⟩ 1 1 [.int .i64 y.s.k, .string (bs y.s.x), .string (bs y.s.y), .string (bs y.s.z), .int .i64 y.p.k, .string (bs y.p.x), .string (bs y.p.y), .string (bs y.p.z), .int .i64 y.o.k, .string (bs y.o.x), .string (bs y.o.y), .string (bs y.o.z)] rfl rfl (news12b _ _ _ _ _ _ _ _ _ _ _ _ _ _ rfl) (by intro u hu; simp at hu; rcases hu with rfl | rfl | rfl | rfl | rfl | rfl | rfl | rfl | rfl | rfl | rfl | rfl <;> rfl) (by unfold maxLen; omega) (by omega) (by simp; omega) ?_; intro v5 w5 hO5 hG5 hN5 hA5; have HO5 := Lib.hid hO5; clear hO5 hN5; have HG5 := Lib.hid hG5; clear hG5; have HA5 := Lib.hid hA5; clear hA5)))
          clear c0 c1 c2 c3 c4 c5 c6 c7 c8 c9 c10 c11
          have HP5 := Lib.hid (own_push HO5.out)
          have HW5 := Lib.hid ((HW4.out.alloc (by omega) _).grown HG5.out (by simp; omega) (fun k hk => own_blk HP4.out k hk))
          go_wp2
          go_roundw
          case rel => exact ⟨k + 1, true, _, by omega, by go_num, rfl, HI4.out, HP5.out, by first | exact HW5.out | exact HW5.out.drew⟩
          case measure => simp [intOf]; omega
        · have hI2 := Lib.hid (IB.out hI.out hc)
          have hd : decide (tripCmp t y < 0) = false := decide_eq_false hc
          obtain ⟨C, hC⟩ : ∃ C, tripCmp t y = C := ⟨_, rfl⟩
          rw [hC] at hd hcmp hc
          clear IT IA IB hC
          go_wp2_with fail
          refine wp_region_held_drew (S := (fun W => Below wr.heap.size wr W)) (by kernel_rfl) ?_ (fun hHeld => ?_)
          · (try dsimp only); first | exact Below.refl _ _ | exact (Below.refl _ _).drew
          refine wpAnyH_take (i := 0) (oi := ⟨some 15, _, _, _, _, _⟩) (v := ?_) rfl (by kernel_rfl) (by kernel_rfl) (by kernel_rfl) (fun _ _ _ h => h) (Or.inl ⟨by kernel_rfl, ?_⟩) (by assumption) ?_
          rotate_left
          · (intro ww hSw; (try dsimp only at hSw); go_simp); (try with_reducible rfl)
          (try simp only [Act.put, List.setIfInBounds_toArray, List.set_cons_zero, List.set_cons_succ])
          refine wpAnyH_take (i := 1) (oi := ⟨some 16, _, _, _, _, _⟩) (v := ?_) rfl (by kernel_rfl) (by kernel_rfl) (by kernel_rfl) (fun _ _ _ h => h) (Or.inl ⟨by kernel_rfl, ?_⟩) (by assumption) ?_
          rotate_left
          · (intro ww hSw; (try dsimp only at hSw); go_simp); (try with_reducible rfl)
          (try simp only [Act.put, List.setIfInBounds_toArray, List.set_cons_zero, List.set_cons_succ])
          refine wpAnyH_take (i := 2) (oi := ⟨some 17, _, _, _, _, _⟩) (v := ?_) rfl (by kernel_rfl) (by kernel_rfl) (by kernel_rfl) (fun _ _ _ h => h) (Or.inl ⟨by kernel_rfl, ?_⟩) (by assumption) ?_
          rotate_left
          · (intro ww hSw; (try dsimp only at hSw); go_simp); (try with_reducible rfl)
          (try simp only [Act.put, List.setIfInBounds_toArray, List.set_cons_zero, List.set_cons_succ])
          refine wpAnyH_take (i := 3) (oi := ⟨some 18, _, _, _, _, _⟩) (v := ?_) rfl (by kernel_rfl) (by kernel_rfl) (by kernel_rfl) (fun _ _ _ h => h) (Or.inl ⟨by kernel_rfl, ?_⟩) (by assumption) ?_
          rotate_left
          · (intro ww hSw; (try dsimp only at hSw); obtain ⟨⟨d0, d1, d2, d3⟩, ⟨d4, d5, d6, d7⟩, ⟨d8, d9, d10, d11⟩⟩ := box_on hbx.out hSw hlt2.out; go_simp); (try with_reducible rfl)
          (try simp only [Act.put, List.setIfInBounds_toArray, List.set_cons_zero, List.set_cons_succ])
          refine wpAnyH_take (i := 4) (oi := ⟨some 19, _, _, _, _, _⟩) (v := ?_) rfl (by kernel_rfl) (by kernel_rfl) (by kernel_rfl) (fun _ _ _ h => h) (Or.inl ⟨by kernel_rfl, ?_⟩) (by assumption) ?_
          rotate_left
          · (intro ww hSw; (try dsimp only at hSw); go_simp); (try with_reducible rfl)
          (try simp only [Act.put, List.setIfInBounds_toArray, List.set_cons_zero, List.set_cons_succ])
          refine wpAnyH_take (i := 5) (oi := ⟨some 20, _, _, _, _, _⟩) (v := ?_) rfl (by kernel_rfl) (by kernel_rfl) (by kernel_rfl) (fun _ _ _ h => h) (Or.inl ⟨by kernel_rfl, ?_⟩) (by assumption) ?_
          rotate_left
          · (intro ww hSw; (try dsimp only at hSw); go_simp); (try with_reducible rfl)
          (try simp only [Act.put, List.setIfInBounds_toArray, List.set_cons_zero, List.set_cons_succ])
          refine wpAnyH_take (i := 6) (oi := ⟨some 21, _, _, _, _, _⟩) (v := .pointer (some ⟨g, k * 12, none⟩)) rfl (by kernel_rfl) (by kernel_rfl) (by kernel_rfl) (fun _ _ _ h => h) (Or.inl ⟨by kernel_rfl, ?_⟩) (by assumption) ?_
          · (intro ww hSw; (try dsimp only at hSw); go_simp)
          (try simp only [Act.put, List.setIfInBounds_toArray, List.set_cons_zero, List.set_cons_succ])
          refine wpAnyH_take (i := 7) (oi := ⟨some 22, _, _, _, _, _⟩) (v := ?_) rfl (by kernel_rfl) (by kernel_rfl) (by kernel_rfl) (fun _ _ _ h => h) (Or.inl ⟨by kernel_rfl, ?_⟩) (by assumption) ?_
          rotate_left
          · (intro ww hSw; (try dsimp only at hSw); obtain ⟨⟨c0, c1, c2, c3⟩, ⟨c4, c5, c6, c7⟩, ⟨c8, c9, c10, c11⟩⟩ := cells_on cm.out hSw hgr; go_simp); (try with_reducible rfl)
          (try simp only [Act.put, List.setIfInBounds_toArray, List.set_cons_zero, List.set_cons_succ])
          refine wpAnyH_ready (rs := [8]) (by kernel_rfl) (by simp) ?_
          refine AllReadyH.cons rfl (fun K hK => ?_) AllReadyH.nil
          go_simp
          refine (hcmp.out _).mono ?_
          rintro e w3 ⟨rfl, hb2⟩
          (try replace hb2 := from_drew hb2)
          go_wp2_with fail
          refine hK.out _ _ ?_ (fun hHeld => ?_)
          · (try dsimp only); first | exact hb2 | exact hb2.drew
          clear hK K
          (try simp only [Act.put, List.setIfInBounds_toArray, List.set_cons_zero, List.set_cons_succ])
          refine wpAnyH_take (i := 9) (oi := ⟨some 24, _, _, _, _, _⟩) (v := .bool false) rfl (by kernel_rfl) (by kernel_rfl) (by kernel_rfl) (fun _ _ _ h => h) (Or.inl ⟨by kernel_rfl, ?_⟩) (by assumption) ?_
          · (intro ww hSw; (try dsimp only at hSw); go_simp; (try simp [hc]))
          (try simp only [Act.put, List.setIfInBounds_toArray, List.set_cons_zero, List.set_cons_succ])
          refine wpAnyH_take (i := 10) (oi := ⟨some 25, _, _, _, _, _⟩) (v := ?_) rfl (by kernel_rfl) (by kernel_rfl) (by kernel_rfl) (fun _ _ _ h => h) (Or.inl ⟨by kernel_rfl, ?_⟩) (by assumption) ?_
          rotate_left
          · (intro ww hSw; (try dsimp only at hSw); go_simp); (try with_reducible rfl)
          (try simp only [Act.put, List.setIfInBounds_toArray, List.set_cons_zero, List.set_cons_succ])
          refine wpAnyH_done (by kernel_rfl) ?_ _
          have hb3 := hb2
          clear hb2
          have HP3 := Lib.hid (own_on HOWN.out hb3 (Nat.le_refl _))
          have HW3 := Lib.hid (HBW.out.trans (hb3.mono hbB.out))
          have hs3 : B1 ≤ w3.heap.size := by have := HW3.out.size; have := HB1.out; omega
          have hol2 := hol.out
          clear hb3
          obtain ⟨⟨c0, c1, c2, c3⟩, ⟨c4, c5, c6, c7⟩, ⟨c8, c9, c10, c11⟩⟩ := cells_on cm1.out HW3.out hgB
          go_wp2_with (at_builtin; go_must (refine wpList_append_own_at _ rfl (.tmp 30) (.tmp 35) 25 rfl B1 29 i0 noTrip.v 12 168 Tryz.underlying25 hi hz0 hz1 hz2 rfl (by decide) _ _ _ rfl (HP3.out.alloc _) ⟨w3.heap.size, 0, none⟩ 1 1 [.int .i64 y.s.k, .string (bs y.s.x), .string (bs y.s.y), .string (bs y.s.z), .int .i64 y.p.k, .string (bs y.p.x), .string (bs y.p.y), .string (bs y.p.z), .int .i64 y.o.k, .string (bs y.o.x), .string (bs y.o.y), .string (bs y.o.z)] rfl rfl (news12b _ _ _ _ _ _ _ _ _ _ _ _ _ _ rfl) (by intro u hu; simp at hu; rcases hu with rfl | rfl | rfl | rfl | rfl | rfl | rfl | rfl | rfl | rfl | rfl | rfl <;> rfl) (by unfold maxLen; omega) (by omega) (by simp; omega) ?_; intro v4 w4 hO4 hG4 hN4 hA4; have HO4 := Lib.hid hO4; clear hO4 hN4; have HG4 := Lib.hid hG4; clear hG4; have HA4 := Lib.hid hA4; clear hA4))
          clear c0 c1 c2 c3 c4 c5 c6 c7 c8 c9 c10 c11
          have HP4 := Lib.hid (own_push HO4.out)
          have HW4 := Lib.hid ((HW3.out.alloc (by omega) _).grown HG4.out (by simp; omega) (fun k hk => own_blk HP3.out k hk))
          have hs4 : B1 ≤ w4.heap.size := by have := HW4.out.size; have := HB1.out; omega
          go_wp2
          go_roundw
          case rel => exact ⟨k + 1, false, _, by omega, by go_num, rfl, hI2.out, HP4.out, by first | exact HW4.out | exact HW4.out.drew⟩
          case measure => simp [intOf]; omega
    · have hkN : k = N := by omega
      have g3 : ¬ ((k : Int) < (N : Int)) := by omega
      have hIN : PutI L t L.length dd out := by have := hI.out; rwa [hkN, ← HN.out] at this
      have hs0 : B1 ≤ wr.heap.size := hbB.out
      have hbw0 := Lib.hid (hb1.out.trans (HBW.out.mono (by omega)))
      cases dd with
      | true =>
        have hE := Lib.hid (put_end_true hIN)
        clear hIN
        go_wp2
        go_ret
        exact ⟨_, rfl, by rw [hE.out]; exact owns_base HOWN.out (by omega), by first | exact hbw0.out | exact hbw0.out.drew⟩
      | false =>
        have hE := Lib.hid (put_end_false hIN)
        have hol2 : out.length ≤ 100000 := by have := hE.out.2; have := HN.out; omega
        clear hIN
        obtain ⟨⟨d0, d1, d2, d3⟩, ⟨d4, d5, d6, d7⟩, ⟨d8, d9, d10, d11⟩⟩ := hbx.out
        go_wp2_with (at_builtin; go_must (refine wpList_append_own_at _ rfl (.tmp 39) (.tmp 41) 25 rfl B1 29 i0 noTrip.v 12 168 Tryz.underlying25 hi hz0 hz1 hz2 rfl (by decide) _ _ _ rfl (HOWN.out.alloc _) ⟨wr.heap.size, 0, none⟩ 1 1 [.int .i64 t.s.k, .string (bs t.s.x), .string (bs t.s.y), .string (bs t.s.z), .int .i64 t.p.k, .string (bs t.p.x), .string (bs t.p.y), .string (bs t.p.z), .int .i64 t.o.k, .string (bs t.o.x), .string (bs t.o.y), .string (bs t.o.z)] rfl rfl (news12b _ _ _ _ _ _ _ _ _ _ _ _ _ _ rfl) (by intro u hu; simp at hu; rcases hu with rfl | rfl | rfl | rfl | rfl | rfl | rfl | rfl | rfl | rfl | rfl | rfl <;> rfl) (by unfold maxLen; omega) (by omega) (by simp; omega) ?_; intro v4 w4 hO4 hG4 hN4 hA4; have HO4 := Lib.hid hO4; clear hO4 hN4; have HG4 := Lib.hid hG4; clear hG4; have HA4 := Lib.hid hA4; clear hA4))
        have HP4 := Lib.hid (own_push HO4.out)
        have HW4 := Lib.hid ((hbw0.out.alloc (by omega) _).grown HG4.out (by simp; omega) (fun k hk => Nat.le_trans (by omega) (own_blk HOWN.out k hk)))
        go_wp2
        go_ret
        exact ⟨_, rfl, by rw [hE.out.1]; exact owns_base HP4.out (by omega), by first | exact HW4.out | exact HW4.out.drew⟩

end Go.Proofs.YtnojdchodmogbaaGreat
