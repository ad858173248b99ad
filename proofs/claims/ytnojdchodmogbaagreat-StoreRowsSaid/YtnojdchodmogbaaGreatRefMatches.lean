/- Does a triple match a pattern; the term at the first place of a name? The document's own answers. -/
import Derived.Test.YtnojdchodmogbaaGreatRefFits
namespace Go.Proofs.YtnojdchodmogbaaGreat
open Go.RowKit

theorem boxes_two (w : World) (p t : TripL) (T U : TypeId) : Box12 ((w.alloc (.cells (cells12 p) T)).alloc (.cells (cells12 t) U)) w.heap.size p ∧ Box12 ((w.alloc (.cells (cells12 p) T)).alloc (.cells (cells12 t) U)) (w.heap.size + 1) t :=
  ⟨box_on (box12_of (blk_new w T (cells12 p))) (box_below _ _) (by simp), box12_of (by have := blk_new (w.alloc (.cells (cells12 p) T)) U (cells12 t); simpa using this)⟩

set_option maxRecDepth 100000 in
set_option maxHeartbeats 4000000 in
theorem rMatches_calls (p t : TripL) (w : World) : Calls Tryz.prog 28 #[p.v, t.v] w fun e w' => e = .returned (.bool (matchB p t)) ∧ Below w.heap.size w w' := by
  have HF := Lib.hid (fun a b W => fits_calls a b W)
  have HT := Lib.hid (fun a b x y W => twice_calls a b x y W)
  have bx := boxes_two w p t 29 29
  have P0 := Lib.hid bx.1
  have T0 := Lib.hid bx.2
  have B0 := Lib.hid (two_box w (.cells (cells12 p) 29) (.cells (cells12 t) 29))
  have Z0 := Lib.hid (show w.heap.size + 2 ≤ ((w.alloc (.cells (cells12 p) 29)).alloc (.cells (cells12 t) 29)).heap.size by simp)
  clear bx
  have HM := Lib.hid (show matchB p t = (fitsB p.s t.s && (fitsB p.p t.p && fitsB p.o t.o) && (!twiceB p.s p.p t.s t.p && (!twiceB p.s p.o t.s t.o && !twiceB p.p p.o t.p t.o))) from rfl)
  obtain ⟨m, hm⟩ : ∃ m, matchB p t = m := ⟨_, rfl⟩
  rw [hm]
  have HM2 := Lib.hid (hm.symm.trans HM.out)
  clear HM hm
  simp only [TripL.v]
  go_enter Tryz.func28, Tryz.ntmps28
  go_wp2_with fail
  refine (HF.out p.s t.s _).mono ?_
  rintro e w1 ⟨rfl, hb⟩
  have B1 := Lib.hid (first_below B0.out hb)
  have P1 := Lib.hid (box_on P0.out hb (Nat.lt_of_lt_of_le (by omega) Z0.out))
  have T1 := Lib.hid (box_on T0.out hb (Nat.lt_of_lt_of_le (by omega) Z0.out))
  have Z1 := Lib.hid (Nat.le_trans Z0.out hb.size)
  clear hb
  cases h1 : fitsB p.s t.s with
  | false =>
    have HE := Lib.hid (show m = false by rw [HM2.out]; simp [h1])
    clear HM2 h1
    go_wp2
    go_ret
    exact ⟨congrArg (fun b => Ending.returned (Value.bool b)) HE.out.symm, by first | exact B1.out | exact B1.out.drew⟩
  | true =>
    obtain ⟨⟨c0, c1, c2, c3⟩, ⟨c4, c5, c6, c7⟩, ⟨c8, c9, c10, c11⟩⟩ := P1.out
    obtain ⟨⟨d0, d1, d2, d3⟩, ⟨d4, d5, d6, d7⟩, ⟨d8, d9, d10, d11⟩⟩ := T1.out
    have H1 := Lib.hid h1
    clear h1
    go_wp2_with fail
    refine (HF.out p.p t.p _).mono ?_
    rintro e w2 ⟨rfl, hb⟩
    (try clear c0 c1 c2 c3 c4 c5 c6 c7 c8 c9 c10 c11 d0 d1 d2 d3 d4 d5 d6 d7 d8 d9 d10 d11)
    have B2 := Lib.hid (first_below B1.out hb)
    have P2 := Lib.hid (box_on P1.out hb (Nat.lt_of_lt_of_le (by omega) Z1.out))
    have T2 := Lib.hid (box_on T1.out hb (Nat.lt_of_lt_of_le (by omega) Z1.out))
    have Z2 := Lib.hid (Nat.le_trans Z1.out hb.size)
    clear hb
    cases h2 : fitsB p.p t.p with
    | false =>
      have HE := Lib.hid (show m = false by rw [HM2.out]; simp [H1.out, h2])
      clear HM2 h2
      go_wp2
      go_ret
      exact ⟨congrArg (fun b => Ending.returned (Value.bool b)) HE.out.symm, by first | exact B2.out | exact B2.out.drew⟩
    | true =>
      obtain ⟨⟨c0, c1, c2, c3⟩, ⟨c4, c5, c6, c7⟩, ⟨c8, c9, c10, c11⟩⟩ := P2.out
      obtain ⟨⟨d0, d1, d2, d3⟩, ⟨d4, d5, d6, d7⟩, ⟨d8, d9, d10, d11⟩⟩ := T2.out
      have H2 := Lib.hid h2
      clear h2
      go_wp2_with fail
      refine (HF.out p.o t.o _).mono ?_
      rintro e w3 ⟨rfl, hb⟩
      (try clear c0 c1 c2 c3 c4 c5 c6 c7 c8 c9 c10 c11 d0 d1 d2 d3 d4 d5 d6 d7 d8 d9 d10 d11)
      have B3 := Lib.hid (first_below B2.out hb)
      have P3 := Lib.hid (box_on P2.out hb (Nat.lt_of_lt_of_le (by omega) Z2.out))
      have T3 := Lib.hid (box_on T2.out hb (Nat.lt_of_lt_of_le (by omega) Z2.out))
      have Z3 := Lib.hid (Nat.le_trans Z2.out hb.size)
      clear hb
      cases h3 : fitsB p.o t.o with
      | false =>
        have HE := Lib.hid (show m = false by rw [HM2.out]; simp [H1.out, H2.out, h3])
        clear HM2 h3
        go_wp2
        go_ret
        exact ⟨congrArg (fun b => Ending.returned (Value.bool b)) HE.out.symm, by first | exact B3.out | exact B3.out.drew⟩
      | true =>
        obtain ⟨⟨c0, c1, c2, c3⟩, ⟨c4, c5, c6, c7⟩, ⟨c8, c9, c10, c11⟩⟩ := P3.out
        obtain ⟨⟨d0, d1, d2, d3⟩, ⟨d4, d5, d6, d7⟩, ⟨d8, d9, d10, d11⟩⟩ := T3.out
        have H3 := Lib.hid h3
        clear h3
        go_wp2_with fail
        refine (HT.out p.s p.p t.s t.p _).mono ?_
        rintro e w4 ⟨rfl, hb⟩
        (try clear c0 c1 c2 c3 c4 c5 c6 c7 c8 c9 c10 c11 d0 d1 d2 d3 d4 d5 d6 d7 d8 d9 d10 d11)
        have B4 := Lib.hid (first_below B3.out hb)
        have P4 := Lib.hid (box_on P3.out hb (Nat.lt_of_lt_of_le (by omega) Z3.out))
        have T4 := Lib.hid (box_on T3.out hb (Nat.lt_of_lt_of_le (by omega) Z3.out))
        have Z4 := Lib.hid (Nat.le_trans Z3.out hb.size)
        clear hb
        cases h4 : twiceB p.s p.p t.s t.p with
        | true =>
          have HE := Lib.hid (show m = false by rw [HM2.out]; simp [H1.out, H2.out, H3.out, h4])
          clear HM2 h4
          go_wp2
          go_ret
          exact ⟨congrArg (fun b => Ending.returned (Value.bool b)) HE.out.symm, by first | exact B4.out | exact B4.out.drew⟩
        | false =>
          obtain ⟨⟨c0, c1, c2, c3⟩, ⟨c4, c5, c6, c7⟩, ⟨c8, c9, c10, c11⟩⟩ := P4.out
          obtain ⟨⟨d0, d1, d2, d3⟩, ⟨d4, d5, d6, d7⟩, ⟨d8, d9, d10, d11⟩⟩ := T4.out
          have H4 := Lib.hid h4
          clear h4
          go_wp2_with fail
          refine (HT.out p.s p.o t.s t.o _).mono ?_
          rintro e w5 ⟨rfl, hb⟩
          (try clear c0 c1 c2 c3 c4 c5 c6 c7 c8 c9 c10 c11 d0 d1 d2 d3 d4 d5 d6 d7 d8 d9 d10 d11)
          have B5 := Lib.hid (first_below B4.out hb)
          have P5 := Lib.hid (box_on P4.out hb (Nat.lt_of_lt_of_le (by omega) Z4.out))
          have T5 := Lib.hid (box_on T4.out hb (Nat.lt_of_lt_of_le (by omega) Z4.out))
          have Z5 := Lib.hid (Nat.le_trans Z4.out hb.size)
          clear hb
          cases h5 : twiceB p.s p.o t.s t.o with
          | true =>
            have HE := Lib.hid (show m = false by rw [HM2.out]; simp [H1.out, H2.out, H3.out, H4.out, h5])
            clear HM2 h5
            go_wp2
            go_ret
            exact ⟨congrArg (fun b => Ending.returned (Value.bool b)) HE.out.symm, by first | exact B5.out | exact B5.out.drew⟩
          | false =>
            obtain ⟨⟨c0, c1, c2, c3⟩, ⟨c4, c5, c6, c7⟩, ⟨c8, c9, c10, c11⟩⟩ := P5.out
            obtain ⟨⟨d0, d1, d2, d3⟩, ⟨d4, d5, d6, d7⟩, ⟨d8, d9, d10, d11⟩⟩ := T5.out
            have H5 := Lib.hid h5
            clear h5
            go_wp2_with fail
            refine (HT.out p.p p.o t.p t.o _).mono ?_
            rintro e w6 ⟨rfl, hb⟩
            (try clear c0 c1 c2 c3 c4 c5 c6 c7 c8 c9 c10 c11 d0 d1 d2 d3 d4 d5 d6 d7 d8 d9 d10 d11)
            have B6 := Lib.hid (first_below B5.out hb)
            have P6 := Lib.hid (box_on P5.out hb (Nat.lt_of_lt_of_le (by omega) Z5.out))
            have T6 := Lib.hid (box_on T5.out hb (Nat.lt_of_lt_of_le (by omega) Z5.out))
            have Z6 := Lib.hid (Nat.le_trans Z5.out hb.size)
            clear hb
            have HE := Lib.hid (show m = !twiceB p.p p.o t.p t.o by rw [HM2.out]; simp [H1.out, H2.out, H3.out, H4.out, H5.out])
            clear HM2
            obtain ⟨D, hD⟩ : ∃ D, twiceB p.p p.o t.p t.o = D := ⟨_, rfl⟩
            rw [hD]
            have HD := Lib.hid (HE.out.trans (congrArg _ hD))
            clear hD HE
            go_wp2
            go_ret
            exact ⟨congrArg (fun b => Ending.returned (Value.bool b)) HD.out.symm, by first | exact B6.out | exact B6.out.drew⟩

end Go.Proofs.YtnojdchodmogbaaGreat
