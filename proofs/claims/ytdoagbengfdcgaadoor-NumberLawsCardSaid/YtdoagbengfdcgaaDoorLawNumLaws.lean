/- Sums and products of numbers hang on no order; what was taken off and is added again is there: the walk of the statement's function. -/
import Derived.Test.YtdoagbengfdcgaaDoorNumHelp
import Derived.Test.YtdoagbengfdcgaaDoorNumSums
import Derived.Test.YtdoagbengfdcgaaDoorNumAdd
import Derived.Test.YtdoagbengfdcgaaDoorNumSub
import Derived.Test.YtdoagbengfdcgaaDoorNumMul
namespace Go.Proofs.YtdoagbengfdcgaaDoor
open Go.RowKit

set_option maxRecDepth 100000 in
set_option maxHeartbeats 4000000 in
theorem numberLaws_true (v : Int) (s : Nat) (v' : Int) (s' : Nat) (d' : Bool) (w : World) (hg : Good w) (hr : rightZ v s true = true) (hr' : rightZ v' s' d' = true) :
    Calls Tryd.prog 8 #[.agg #[.int .i64 v, .int .i64 s, .bool true], .agg #[.int .i64 v', .int .i64 s', .bool d']] w fun e w' => e = .returned (.bool true) ∧ Below w.heap.size w w' := by
  obtain ⟨⟨p1, p2⟩, ⟨p3, p4⟩, _⟩ := (rightZ_iff _ _ _).1 hr
  obtain ⟨⟨p1', p2'⟩, ⟨p3', p4'⟩, _⟩ := (rightZ_iff _ _ _).1 hr'
  have HA : Hid (∀ W, Good W → Calls Tryd.prog 23 #[.agg #[.int .i64 v, .int .i64 s, .bool true], .agg #[.int .i64 v', .int .i64 s', .bool d']] W fun e w' => e = .returned (reckL (madeL (amt v s + amt v' s') 4 (decOf true d'))) ∧ Below W.heap.size W w') := Lib.hid fun W hW => Add_right v s true v' s' d' W hW hr hr' (by omega) p1 p2 (by omega) p1' p2'
  have HA' : Hid (∀ W, Good W → Calls Tryd.prog 23 #[.agg #[.int .i64 v', .int .i64 s', .bool d'], .agg #[.int .i64 v, .int .i64 s, .bool true]] W fun e w' => e = .returned (reckL (madeL (amt v s + amt v' s') 4 (decOf true d'))) ∧ Below W.heap.size W w') := Lib.hid fun W hW => by
    rw [Int.add_comm (amt v s), decOf_comm]
    exact Add_right v' s' d' v s true W hW hr' hr (by omega) p1' p2' (by omega) p1 p2
  have HM : Hid (∀ W, Good W → Calls Tryd.prog 24 #[.agg #[.int .i64 v, .int .i64 s, .bool true], .agg #[.int .i64 v', .int .i64 s', .bool d']] W fun e w' => e = .returned (reckL (madeL (v * v') (s + s') (decOf true d'))) ∧ Below W.heap.size W w') := Lib.hid fun W hW => Mul_right v s true v' s' d' W hW hr hr' (by omega) p1 p2 (by omega) p1' p2'
  have HM' : Hid (∀ W, Good W → Calls Tryd.prog 24 #[.agg #[.int .i64 v', .int .i64 s', .bool d'], .agg #[.int .i64 v, .int .i64 s, .bool true]] W fun e w' => e = .returned (reckL (madeL (v * v') (s + s') (decOf true d'))) ∧ Below W.heap.size W w') := Lib.hid fun W hW => by
    rw [Int.mul_comm v, Nat.add_comm s, decOf_comm]
    exact Mul_right v' s' d' v s true W hW hr' hr (by omega) p1' p2' (by omega) p1 p2
  have HS : Hid (∀ W, Good W → Calls Tryd.prog 25 #[.agg #[.int .i64 v, .int .i64 s, .bool true], .agg #[.int .i64 v', .int .i64 s', .bool d']] W fun e w' => e = .returned (reckL (madeL (amt v s - amt v' s') 4 (decOf true d'))) ∧ Below W.heap.size W w') := Lib.hid fun W hW => Sub_right v s true v' s' d' W hW hr hr' (by omega) p1 p2 (by omega) p1' p2'
  have hdiff := made_diff (d := true) (d' := d') hr hr'
  have HB : Hid (∀ (y : Int) (j : Nat), rightZ y j (decOf true d') = true → j ≤ 4 → -999999999 ≤ y → y ≤ 999999999 → amt y j = amt v s - amt v' s' → ∀ W, Good W → Calls Tryd.prog 23 #[.agg #[.int .i64 y, .int .i64 j, .bool (decOf true d')], .agg #[.int .i64 v', .int .i64 s', .bool d']] W fun e w' => e = .returned (.tuple #[.agg #[.int .i64 v, .int .i64 s, .bool (decOf true d')], .int .i64 0]) ∧ Below W.heap.size W w') := Lib.hid fun y j k1 k2 k3 k4 k5 W hW => by
    have := Add_right y j (decOf true d') v' s' d' W hW k1 hr' k2 k3 k4 (by omega) p1' p2'
    rw [made_back (d := true) (d' := d') hr k5] at this
    exact this
  have H1 := Lib.hid hr
  have H2 := Lib.hid hr'
  have A : C3 ((w.alloc (.cells #[.int .i64 v, .int .i64 s, .bool true] 23)).alloc (.cells #[.int .i64 v', .int .i64 s', .bool d'] 23)) w.heap.size (.int .i64 v) (.int .i64 s) (.bool true) := (C3.fresh w (.int .i64 v) (.int .i64 s) (.bool true) 23).alloc (.cells #[.int .i64 v', .int .i64 s', .bool d'] 23)
  have D : C3 ((w.alloc (.cells #[.int .i64 v, .int .i64 s, .bool true] 23)).alloc (.cells #[.int .i64 v', .int .i64 s', .bool d'] 23)) (w.heap.size + 1) (.int .i64 v') (.int .i64 s') (.bool d') := by
    have := C3.fresh (w.alloc (.cells #[.int .i64 v, .int .i64 s, .bool true] 23)) (.int .i64 v') (.int .i64 s') (.bool d') 23
    simpa using this
  have B := two_alloc w (.cells #[.int .i64 v, .int .i64 s, .bool true] 23) (.cells #[.int .i64 v', .int .i64 s', .bool d'] 23)
  have G := (hg.alloc (.cells #[.int .i64 v, .int .i64 s, .bool true] 23)).alloc (.cells #[.int .i64 v', .int .i64 s', .bool d'] 23)
  clear hr hr' hg p1 p2 p3 p4 p1' p2' p3' p4'
  have hcase : (∃ (y : Int) (j : Nat), madeL (amt v s - amt v' s') 4 (decOf true d') = (⟨y, j, decOf true d'⟩, true) ∧ rightZ y j (decOf true d') = true ∧ j ≤ 4 ∧ -999999999 ≤ y ∧ y ≤ 999999999 ∧ amt y j = amt v s - amt v' s') ∨ madeL (amt v s - amt v' s') 4 (decOf true d') = (noNum, false) := by
    cases h : (madeL (amt v s - amt v' s') 4 (decOf true d')).2
    · exact .inr (madeL_false h)
    · exact .inl (hdiff h)
  clear hdiff
  have HD : decOf true d' = true := rfl
  rcases hcase with ⟨y, j, e, k1, k2, k3, k4, k5⟩ | e
  · rw [e] at HS
    have HB' := Lib.hid (HB.out y j k1 k2 k3 k4 k5)
    clear e k1 k2 k3 k4 k5 HB
    rw [HD] at HA HA' HM HM' HS HB'
    generalize madeL (amt v s + amt v' s') 4 true = P at HA HA'
    generalize madeL (v * v') (s + s') true = R at HM HM'
    obtain ⟨⟨X, Y, Z⟩, ok⟩ := P
    obtain ⟨⟨X', Y', Z'⟩, ok'⟩ := R
    clear HD
    go_enter Tryd.func8, Tryd.ntmps8
    have A0 := A.c0; have A1 := A.c1; have A2 := A.c2; have A3 := A.lt
    have D0 := D.c0; have D1 := D.c1; have D2 := D.c2; have D3 := D.lt
    go_wp2_with fail
    refine (rRight_calls _ _ _ _).mono ?_
    rintro e w1 ⟨rfl, hb⟩
    rw [H1.out]
    clear A0 A1 A2 A3 D0 D1 D2 D3
    replace A := (A).on hb
    replace D := (D).on hb
    replace G := (G).on hb
    replace B := bnext B hb
    clear hb
    have A0 := A.c0; have A1 := A.c1; have A2 := A.c2; have A3 := A.lt
    have D0 := D.c0; have D1 := D.c1; have D2 := D.c2; have D3 := D.lt
    go_wp2_with fail
    refine (rRight_calls _ _ _ _).mono ?_
    rintro e w2 ⟨rfl, hb⟩
    rw [H2.out]
    clear A0 A1 A2 A3 D0 D1 D2 D3
    replace A := (A).on hb
    replace D := (D).on hb
    replace G := (G).on hb
    replace B := bnext B hb
    clear hb
    have A0 := A.c0; have A1 := A.c1; have A2 := A.c2; have A3 := A.lt
    have D0 := D.c0; have D1 := D.c1; have D2 := D.c2; have D3 := D.lt
    go_wp2_with fail
    refine (HA.out _ ?_).mono ?_
    · exact G
    rintro e w3 ⟨rfl, hb⟩
    simp only [reckL, NumL.val]
    clear A0 A1 A2 A3 D0 D1 D2 D3
    replace A := (A).on hb
    replace D := (D).on hb
    replace G := (G).on hb
    replace B := bnext B hb
    clear hb
    have A0 := A.c0; have A1 := A.c1; have A2 := A.c2; have A3 := A.lt
    have D0 := D.c0; have D1 := D.c1; have D2 := D.c2; have D3 := D.lt
    go_wp2_with fail
    refine (HA'.out _ ?_).mono ?_
    · exact (G.alloc _)
    rintro e w4 ⟨rfl, hb⟩
    simp only [reckL, NumL.val]
    clear A0 A1 A2 A3 D0 D1 D2 D3
    replace A := (A.alloc _).on hb
    replace D := (D.alloc _).on hb
    replace G := (G.alloc _).on hb
    have E := (C3.fresh w3 _ _ _ _).on hb
    replace B := bbox B hb
    clear hb
    have A0 := A.c0; have A1 := A.c1; have A2 := A.c2; have A3 := A.lt
    have D0 := D.c0; have D1 := D.c1; have D2 := D.c2; have D3 := D.lt
    have E0 := E.c0; have E1 := E.c1; have E2 := E.c2; have E3 := E.lt
    go_wp2_with fail
    refine (HM.out _ ?_).mono ?_
    · exact (G.alloc _)
    rintro e w5 ⟨rfl, hb⟩
    simp only [reckL, NumL.val]
    clear A0 A1 A2 A3 D0 D1 D2 D3 E0 E1 E2 E3
    replace A := (A.alloc _).on hb
    replace D := (D.alloc _).on hb
    replace E := (E.alloc _).on hb
    replace G := (G.alloc _).on hb
    have F := (C3.fresh w4 _ _ _ _).on hb
    replace B := bbox B hb
    clear hb
    have A0 := A.c0; have A1 := A.c1; have A2 := A.c2; have A3 := A.lt
    have D0 := D.c0; have D1 := D.c1; have D2 := D.c2; have D3 := D.lt
    have E0 := E.c0; have E1 := E.c1; have E2 := E.c2; have E3 := E.lt
    have F0 := F.c0; have F1 := F.c1; have F2 := F.c2; have F3 := F.lt
    go_wp2_with fail
    refine (HM'.out _ ?_).mono ?_
    · exact (G.alloc _)
    rintro e w6 ⟨rfl, hb⟩
    simp only [reckL, NumL.val]
    clear A0 A1 A2 A3 D0 D1 D2 D3 E0 E1 E2 E3 F0 F1 F2 F3
    replace A := (A.alloc _).on hb
    replace D := (D.alloc _).on hb
    replace E := (E.alloc _).on hb
    replace F := (F.alloc _).on hb
    replace G := (G.alloc _).on hb
    have P := (C3.fresh w5 _ _ _ _).on hb
    replace B := bbox B hb
    clear hb
    have A0 := A.c0; have A1 := A.c1; have A2 := A.c2; have A3 := A.lt
    have D0 := D.c0; have D1 := D.c1; have D2 := D.c2; have D3 := D.lt
    have E0 := E.c0; have E1 := E.c1; have E2 := E.c2; have E3 := E.lt
    have F0 := F.c0; have F1 := F.c1; have F2 := F.c2; have F3 := F.lt
    have P0 := P.c0; have P1 := P.c1; have P2 := P.c2; have P3 := P.lt
    go_wp2_with fail
    refine (HS.out _ ?_).mono ?_
    · exact (G.alloc _)
    rintro e w7 ⟨rfl, hb⟩
    simp only [reckL, NumL.val]
    rw [show overZ true = 0 from rfl]
    clear A0 A1 A2 A3 D0 D1 D2 D3 E0 E1 E2 E3 F0 F1 F2 F3 P0 P1 P2 P3
    replace A := (A.alloc _).on hb
    replace D := (D.alloc _).on hb
    replace E := (E.alloc _).on hb
    replace F := (F.alloc _).on hb
    replace P := (P.alloc _).on hb
    replace G := (G.alloc _).on hb
    have Q := (C3.fresh w6 _ _ _ _).on hb
    replace B := bbox B hb
    clear hb
    have A0 := A.c0; have A1 := A.c1; have A2 := A.c2; have A3 := A.lt
    have D0 := D.c0; have D1 := D.c1; have D2 := D.c2; have D3 := D.lt
    have E0 := E.c0; have E1 := E.c1; have E2 := E.c2; have E3 := E.lt
    have F0 := F.c0; have F1 := F.c1; have F2 := F.c2; have F3 := F.lt
    have P0 := P.c0; have P1 := P.c1; have P2 := P.c2; have P3 := P.lt
    have Q0 := Q.c0; have Q1 := Q.c1; have Q2 := Q.c2; have Q3 := Q.lt
    go_wp2_with fail
    refine (HB'.out _ ?_).mono ?_
    · exact (G.alloc _)
    rintro e w8 ⟨rfl, hb⟩
    clear A0 A1 A2 A3 D0 D1 D2 D3 E0 E1 E2 E3 F0 F1 F2 F3 P0 P1 P2 P3 Q0 Q1 Q2 Q3
    replace A := (A.alloc _).on hb
    replace D := (D.alloc _).on hb
    replace E := (E.alloc _).on hb
    replace F := (F.alloc _).on hb
    replace P := (P.alloc _).on hb
    replace Q := (Q.alloc _).on hb
    replace G := (G.alloc _).on hb
    have M := (C3.fresh w7 _ _ _ _).on hb
    replace B := bbox B hb
    clear hb
    have A0 := A.c0; have A1 := A.c1; have A2 := A.c2; have A3 := A.lt
    have D0 := D.c0; have D1 := D.c1; have D2 := D.c2; have D3 := D.lt
    have E0 := E.c0; have E1 := E.c1; have E2 := E.c2; have E3 := E.lt
    have F0 := F.c0; have F1 := F.c1; have F2 := F.c2; have F3 := F.lt
    have P0 := P.c0; have P1 := P.c1; have P2 := P.c2; have P3 := P.lt
    have Q0 := Q.c0; have Q1 := Q.c1; have Q2 := Q.c2; have Q3 := Q.lt
    have M0 := M.c0; have M1 := M.c1; have M2 := M.c2; have M3 := M.lt
    go_wp2_with fail
    refine (awake_calls _ ?_).mono ?_
    · exact (G.alloc _).alloc _
    rintro e wz ⟨rfl, hb⟩
    go_wp2
    go_ret
    exact ⟨rfl, bbox (B.alloc B.size _) hb⟩
  · rw [e] at HS
    clear e HB
    rw [HD] at HA HA' HM HM'
    generalize madeL (amt v s + amt v' s') 4 true = P at HA HA'
    generalize madeL (v * v') (s + s') true = R at HM HM'
    obtain ⟨⟨X, Y, Z⟩, ok⟩ := P
    obtain ⟨⟨X', Y', Z'⟩, ok'⟩ := R
    clear HD
    go_enter Tryd.func8, Tryd.ntmps8
    have A0 := A.c0; have A1 := A.c1; have A2 := A.c2; have A3 := A.lt
    have D0 := D.c0; have D1 := D.c1; have D2 := D.c2; have D3 := D.lt
    go_wp2_with fail
    refine (rRight_calls _ _ _ _).mono ?_
    rintro e w1 ⟨rfl, hb⟩
    rw [H1.out]
    clear A0 A1 A2 A3 D0 D1 D2 D3
    replace A := (A).on hb
    replace D := (D).on hb
    replace G := (G).on hb
    replace B := bnext B hb
    clear hb
    have A0 := A.c0; have A1 := A.c1; have A2 := A.c2; have A3 := A.lt
    have D0 := D.c0; have D1 := D.c1; have D2 := D.c2; have D3 := D.lt
    go_wp2_with fail
    refine (rRight_calls _ _ _ _).mono ?_
    rintro e w2 ⟨rfl, hb⟩
    rw [H2.out]
    clear A0 A1 A2 A3 D0 D1 D2 D3
    replace A := (A).on hb
    replace D := (D).on hb
    replace G := (G).on hb
    replace B := bnext B hb
    clear hb
    have A0 := A.c0; have A1 := A.c1; have A2 := A.c2; have A3 := A.lt
    have D0 := D.c0; have D1 := D.c1; have D2 := D.c2; have D3 := D.lt
    go_wp2_with fail
    refine (HA.out _ ?_).mono ?_
    · exact G
    rintro e w3 ⟨rfl, hb⟩
    simp only [reckL, NumL.val]
    clear A0 A1 A2 A3 D0 D1 D2 D3
    replace A := (A).on hb
    replace D := (D).on hb
    replace G := (G).on hb
    replace B := bnext B hb
    clear hb
    have A0 := A.c0; have A1 := A.c1; have A2 := A.c2; have A3 := A.lt
    have D0 := D.c0; have D1 := D.c1; have D2 := D.c2; have D3 := D.lt
    go_wp2_with fail
    refine (HA'.out _ ?_).mono ?_
    · exact (G.alloc _)
    rintro e w4 ⟨rfl, hb⟩
    simp only [reckL, NumL.val]
    clear A0 A1 A2 A3 D0 D1 D2 D3
    replace A := (A.alloc _).on hb
    replace D := (D.alloc _).on hb
    replace G := (G.alloc _).on hb
    have E := (C3.fresh w3 _ _ _ _).on hb
    replace B := bbox B hb
    clear hb
    have A0 := A.c0; have A1 := A.c1; have A2 := A.c2; have A3 := A.lt
    have D0 := D.c0; have D1 := D.c1; have D2 := D.c2; have D3 := D.lt
    have E0 := E.c0; have E1 := E.c1; have E2 := E.c2; have E3 := E.lt
    go_wp2_with fail
    refine (HM.out _ ?_).mono ?_
    · exact (G.alloc _)
    rintro e w5 ⟨rfl, hb⟩
    simp only [reckL, NumL.val]
    clear A0 A1 A2 A3 D0 D1 D2 D3 E0 E1 E2 E3
    replace A := (A.alloc _).on hb
    replace D := (D.alloc _).on hb
    replace E := (E.alloc _).on hb
    replace G := (G.alloc _).on hb
    have F := (C3.fresh w4 _ _ _ _).on hb
    replace B := bbox B hb
    clear hb
    have A0 := A.c0; have A1 := A.c1; have A2 := A.c2; have A3 := A.lt
    have D0 := D.c0; have D1 := D.c1; have D2 := D.c2; have D3 := D.lt
    have E0 := E.c0; have E1 := E.c1; have E2 := E.c2; have E3 := E.lt
    have F0 := F.c0; have F1 := F.c1; have F2 := F.c2; have F3 := F.lt
    go_wp2_with fail
    refine (HM'.out _ ?_).mono ?_
    · exact (G.alloc _)
    rintro e w6 ⟨rfl, hb⟩
    simp only [reckL, NumL.val]
    clear A0 A1 A2 A3 D0 D1 D2 D3 E0 E1 E2 E3 F0 F1 F2 F3
    replace A := (A.alloc _).on hb
    replace D := (D.alloc _).on hb
    replace E := (E.alloc _).on hb
    replace F := (F.alloc _).on hb
    replace G := (G.alloc _).on hb
    have P := (C3.fresh w5 _ _ _ _).on hb
    replace B := bbox B hb
    clear hb
    have A0 := A.c0; have A1 := A.c1; have A2 := A.c2; have A3 := A.lt
    have D0 := D.c0; have D1 := D.c1; have D2 := D.c2; have D3 := D.lt
    have E0 := E.c0; have E1 := E.c1; have E2 := E.c2; have E3 := E.lt
    have F0 := F.c0; have F1 := F.c1; have F2 := F.c2; have F3 := F.lt
    have P0 := P.c0; have P1 := P.c1; have P2 := P.c2; have P3 := P.lt
    go_wp2_with fail
    refine (HS.out _ ?_).mono ?_
    · exact (G.alloc _)
    rintro e w7 ⟨rfl, hb⟩
    simp only [reckL, NumL.val, noNum]
    rw [show overZ false = 5 from rfl]
    clear A0 A1 A2 A3 D0 D1 D2 D3 E0 E1 E2 E3 F0 F1 F2 F3 P0 P1 P2 P3
    replace A := (A.alloc _).on hb
    replace D := (D.alloc _).on hb
    replace E := (E.alloc _).on hb
    replace F := (F.alloc _).on hb
    replace P := (P.alloc _).on hb
    replace G := (G.alloc _).on hb
    have Q := (C3.fresh w6 _ _ _ _).on hb
    replace B := bbox B hb
    clear hb
    have A0 := A.c0; have A1 := A.c1; have A2 := A.c2; have A3 := A.lt
    have D0 := D.c0; have D1 := D.c1; have D2 := D.c2; have D3 := D.lt
    have E0 := E.c0; have E1 := E.c1; have E2 := E.c2; have E3 := E.lt
    have F0 := F.c0; have F1 := F.c1; have F2 := F.c2; have F3 := F.lt
    have P0 := P.c0; have P1 := P.c1; have P2 := P.c2; have P3 := P.lt
    have Q0 := Q.c0; have Q1 := Q.c1; have Q2 := Q.c2; have Q3 := Q.lt
    go_wp2_with fail
    refine (awake_calls _ (G.alloc _)).mono ?_
    rintro e wz ⟨rfl, hb⟩
    go_wp2
    go_ret
    exact ⟨rfl, bbox B hb⟩

set_option maxRecDepth 100000 in
set_option maxHeartbeats 4000000 in
theorem numberLaws_false (v : Int) (s : Nat) (v' : Int) (s' : Nat) (d' : Bool) (w : World) (hg : Good w) (hr : rightZ v s false = true) (hr' : rightZ v' s' d' = true) :
    Calls Tryd.prog 8 #[.agg #[.int .i64 v, .int .i64 s, .bool false], .agg #[.int .i64 v', .int .i64 s', .bool d']] w fun e w' => e = .returned (.bool true) ∧ Below w.heap.size w w' := by
  obtain ⟨⟨p1, p2⟩, ⟨p3, p4⟩, _⟩ := (rightZ_iff _ _ _).1 hr
  obtain ⟨⟨p1', p2'⟩, ⟨p3', p4'⟩, _⟩ := (rightZ_iff _ _ _).1 hr'
  have HA : Hid (∀ W, Good W → Calls Tryd.prog 23 #[.agg #[.int .i64 v, .int .i64 s, .bool false], .agg #[.int .i64 v', .int .i64 s', .bool d']] W fun e w' => e = .returned (reckL (madeL (amt v s + amt v' s') 4 (decOf false d'))) ∧ Below W.heap.size W w') := Lib.hid fun W hW => Add_right v s false v' s' d' W hW hr hr' (by omega) p1 p2 (by omega) p1' p2'
  have HA' : Hid (∀ W, Good W → Calls Tryd.prog 23 #[.agg #[.int .i64 v', .int .i64 s', .bool d'], .agg #[.int .i64 v, .int .i64 s, .bool false]] W fun e w' => e = .returned (reckL (madeL (amt v s + amt v' s') 4 (decOf false d'))) ∧ Below W.heap.size W w') := Lib.hid fun W hW => by
    rw [Int.add_comm (amt v s), decOf_comm]
    exact Add_right v' s' d' v s false W hW hr' hr (by omega) p1' p2' (by omega) p1 p2
  have HM : Hid (∀ W, Good W → Calls Tryd.prog 24 #[.agg #[.int .i64 v, .int .i64 s, .bool false], .agg #[.int .i64 v', .int .i64 s', .bool d']] W fun e w' => e = .returned (reckL (madeL (v * v') (s + s') (decOf false d'))) ∧ Below W.heap.size W w') := Lib.hid fun W hW => Mul_right v s false v' s' d' W hW hr hr' (by omega) p1 p2 (by omega) p1' p2'
  have HM' : Hid (∀ W, Good W → Calls Tryd.prog 24 #[.agg #[.int .i64 v', .int .i64 s', .bool d'], .agg #[.int .i64 v, .int .i64 s, .bool false]] W fun e w' => e = .returned (reckL (madeL (v * v') (s + s') (decOf false d'))) ∧ Below W.heap.size W w') := Lib.hid fun W hW => by
    rw [Int.mul_comm v, Nat.add_comm s, decOf_comm]
    exact Mul_right v' s' d' v s false W hW hr' hr (by omega) p1' p2' (by omega) p1 p2
  have HS : Hid (∀ W, Good W → Calls Tryd.prog 25 #[.agg #[.int .i64 v, .int .i64 s, .bool false], .agg #[.int .i64 v', .int .i64 s', .bool d']] W fun e w' => e = .returned (reckL (madeL (amt v s - amt v' s') 4 (decOf false d'))) ∧ Below W.heap.size W w') := Lib.hid fun W hW => Sub_right v s false v' s' d' W hW hr hr' (by omega) p1 p2 (by omega) p1' p2'
  have hdiff := made_diff (d := false) (d' := d') hr hr'
  have HB : Hid (∀ (y : Int) (j : Nat), rightZ y j (decOf false d') = true → j ≤ 4 → -999999999 ≤ y → y ≤ 999999999 → amt y j = amt v s - amt v' s' → ∀ W, Good W → Calls Tryd.prog 23 #[.agg #[.int .i64 y, .int .i64 j, .bool (decOf false d')], .agg #[.int .i64 v', .int .i64 s', .bool d']] W fun e w' => e = .returned (.tuple #[.agg #[.int .i64 v, .int .i64 s, .bool (decOf false d')], .int .i64 0]) ∧ Below W.heap.size W w') := Lib.hid fun y j k1 k2 k3 k4 k5 W hW => by
    have := Add_right y j (decOf false d') v' s' d' W hW k1 hr' k2 k3 k4 (by omega) p1' p2'
    rw [made_back (d := false) (d' := d') hr k5] at this
    exact this
  have H1 := Lib.hid hr
  have H2 := Lib.hid hr'
  have A : C3 ((w.alloc (.cells #[.int .i64 v, .int .i64 s, .bool false] 23)).alloc (.cells #[.int .i64 v', .int .i64 s', .bool d'] 23)) w.heap.size (.int .i64 v) (.int .i64 s) (.bool false) := (C3.fresh w (.int .i64 v) (.int .i64 s) (.bool false) 23).alloc (.cells #[.int .i64 v', .int .i64 s', .bool d'] 23)
  have D : C3 ((w.alloc (.cells #[.int .i64 v, .int .i64 s, .bool false] 23)).alloc (.cells #[.int .i64 v', .int .i64 s', .bool d'] 23)) (w.heap.size + 1) (.int .i64 v') (.int .i64 s') (.bool d') := by
    have := C3.fresh (w.alloc (.cells #[.int .i64 v, .int .i64 s, .bool false] 23)) (.int .i64 v') (.int .i64 s') (.bool d') 23
    simpa using this
  have B := two_alloc w (.cells #[.int .i64 v, .int .i64 s, .bool false] 23) (.cells #[.int .i64 v', .int .i64 s', .bool d'] 23)
  have G := (hg.alloc (.cells #[.int .i64 v, .int .i64 s, .bool false] 23)).alloc (.cells #[.int .i64 v', .int .i64 s', .bool d'] 23)
  clear hr hr' hg p1 p2 p3 p4 p1' p2' p3' p4'
  have hcase : (∃ (y : Int) (j : Nat), madeL (amt v s - amt v' s') 4 (decOf false d') = (⟨y, j, decOf false d'⟩, true) ∧ rightZ y j (decOf false d') = true ∧ j ≤ 4 ∧ -999999999 ≤ y ∧ y ≤ 999999999 ∧ amt y j = amt v s - amt v' s') ∨ madeL (amt v s - amt v' s') 4 (decOf false d') = (noNum, false) := by
    cases h : (madeL (amt v s - amt v' s') 4 (decOf false d')).2
    · exact .inr (madeL_false h)
    · exact .inl (hdiff h)
  clear hdiff
  have HD : decOf false d' = d' := rfl
  rcases hcase with ⟨y, j, e, k1, k2, k3, k4, k5⟩ | e
  · rw [e] at HS
    have HB' := Lib.hid (HB.out y j k1 k2 k3 k4 k5)
    clear e k1 k2 k3 k4 k5 HB
    rw [HD] at HA HA' HM HM' HS HB'
    generalize madeL (amt v s + amt v' s') 4 d' = P at HA HA'
    generalize madeL (v * v') (s + s') d' = R at HM HM'
    obtain ⟨⟨X, Y, Z⟩, ok⟩ := P
    obtain ⟨⟨X', Y', Z'⟩, ok'⟩ := R
    clear HD
    go_enter Tryd.func8, Tryd.ntmps8
    have A0 := A.c0; have A1 := A.c1; have A2 := A.c2; have A3 := A.lt
    have D0 := D.c0; have D1 := D.c1; have D2 := D.c2; have D3 := D.lt
    go_wp2_with fail
    refine (rRight_calls _ _ _ _).mono ?_
    rintro e w1 ⟨rfl, hb⟩
    rw [H1.out]
    clear A0 A1 A2 A3 D0 D1 D2 D3
    replace A := (A).on hb
    replace D := (D).on hb
    replace G := (G).on hb
    replace B := bnext B hb
    clear hb
    have A0 := A.c0; have A1 := A.c1; have A2 := A.c2; have A3 := A.lt
    have D0 := D.c0; have D1 := D.c1; have D2 := D.c2; have D3 := D.lt
    go_wp2_with fail
    refine (rRight_calls _ _ _ _).mono ?_
    rintro e w2 ⟨rfl, hb⟩
    rw [H2.out]
    clear A0 A1 A2 A3 D0 D1 D2 D3
    replace A := (A).on hb
    replace D := (D).on hb
    replace G := (G).on hb
    replace B := bnext B hb
    clear hb
    have A0 := A.c0; have A1 := A.c1; have A2 := A.c2; have A3 := A.lt
    have D0 := D.c0; have D1 := D.c1; have D2 := D.c2; have D3 := D.lt
    go_wp2_with fail
    refine (HA.out _ ?_).mono ?_
    · exact G
    rintro e w3 ⟨rfl, hb⟩
    simp only [reckL, NumL.val]
    clear A0 A1 A2 A3 D0 D1 D2 D3
    replace A := (A).on hb
    replace D := (D).on hb
    replace G := (G).on hb
    replace B := bnext B hb
    clear hb
    have A0 := A.c0; have A1 := A.c1; have A2 := A.c2; have A3 := A.lt
    have D0 := D.c0; have D1 := D.c1; have D2 := D.c2; have D3 := D.lt
    go_wp2_with fail
    refine (HA'.out _ ?_).mono ?_
    · exact (G.alloc _)
    rintro e w4 ⟨rfl, hb⟩
    simp only [reckL, NumL.val]
    clear A0 A1 A2 A3 D0 D1 D2 D3
    replace A := (A.alloc _).on hb
    replace D := (D.alloc _).on hb
    replace G := (G.alloc _).on hb
    have E := (C3.fresh w3 _ _ _ _).on hb
    replace B := bbox B hb
    clear hb
    have A0 := A.c0; have A1 := A.c1; have A2 := A.c2; have A3 := A.lt
    have D0 := D.c0; have D1 := D.c1; have D2 := D.c2; have D3 := D.lt
    have E0 := E.c0; have E1 := E.c1; have E2 := E.c2; have E3 := E.lt
    go_wp2_with fail
    refine (HM.out _ ?_).mono ?_
    · exact (G.alloc _)
    rintro e w5 ⟨rfl, hb⟩
    simp only [reckL, NumL.val]
    clear A0 A1 A2 A3 D0 D1 D2 D3 E0 E1 E2 E3
    replace A := (A.alloc _).on hb
    replace D := (D.alloc _).on hb
    replace E := (E.alloc _).on hb
    replace G := (G.alloc _).on hb
    have F := (C3.fresh w4 _ _ _ _).on hb
    replace B := bbox B hb
    clear hb
    have A0 := A.c0; have A1 := A.c1; have A2 := A.c2; have A3 := A.lt
    have D0 := D.c0; have D1 := D.c1; have D2 := D.c2; have D3 := D.lt
    have E0 := E.c0; have E1 := E.c1; have E2 := E.c2; have E3 := E.lt
    have F0 := F.c0; have F1 := F.c1; have F2 := F.c2; have F3 := F.lt
    go_wp2_with fail
    refine (HM'.out _ ?_).mono ?_
    · exact (G.alloc _)
    rintro e w6 ⟨rfl, hb⟩
    simp only [reckL, NumL.val]
    clear A0 A1 A2 A3 D0 D1 D2 D3 E0 E1 E2 E3 F0 F1 F2 F3
    replace A := (A.alloc _).on hb
    replace D := (D.alloc _).on hb
    replace E := (E.alloc _).on hb
    replace F := (F.alloc _).on hb
    replace G := (G.alloc _).on hb
    have P := (C3.fresh w5 _ _ _ _).on hb
    replace B := bbox B hb
    clear hb
    have A0 := A.c0; have A1 := A.c1; have A2 := A.c2; have A3 := A.lt
    have D0 := D.c0; have D1 := D.c1; have D2 := D.c2; have D3 := D.lt
    have E0 := E.c0; have E1 := E.c1; have E2 := E.c2; have E3 := E.lt
    have F0 := F.c0; have F1 := F.c1; have F2 := F.c2; have F3 := F.lt
    have P0 := P.c0; have P1 := P.c1; have P2 := P.c2; have P3 := P.lt
    go_wp2_with fail
    refine (HS.out _ ?_).mono ?_
    · exact (G.alloc _)
    rintro e w7 ⟨rfl, hb⟩
    simp only [reckL, NumL.val]
    rw [show overZ true = 0 from rfl]
    clear A0 A1 A2 A3 D0 D1 D2 D3 E0 E1 E2 E3 F0 F1 F2 F3 P0 P1 P2 P3
    replace A := (A.alloc _).on hb
    replace D := (D.alloc _).on hb
    replace E := (E.alloc _).on hb
    replace F := (F.alloc _).on hb
    replace P := (P.alloc _).on hb
    replace G := (G.alloc _).on hb
    have Q := (C3.fresh w6 _ _ _ _).on hb
    replace B := bbox B hb
    clear hb
    have A0 := A.c0; have A1 := A.c1; have A2 := A.c2; have A3 := A.lt
    have D0 := D.c0; have D1 := D.c1; have D2 := D.c2; have D3 := D.lt
    have E0 := E.c0; have E1 := E.c1; have E2 := E.c2; have E3 := E.lt
    have F0 := F.c0; have F1 := F.c1; have F2 := F.c2; have F3 := F.lt
    have P0 := P.c0; have P1 := P.c1; have P2 := P.c2; have P3 := P.lt
    have Q0 := Q.c0; have Q1 := Q.c1; have Q2 := Q.c2; have Q3 := Q.lt
    go_wp2_with fail
    refine (HB'.out _ ?_).mono ?_
    · exact (G.alloc _)
    rintro e w8 ⟨rfl, hb⟩
    clear A0 A1 A2 A3 D0 D1 D2 D3 E0 E1 E2 E3 F0 F1 F2 F3 P0 P1 P2 P3 Q0 Q1 Q2 Q3
    replace A := (A.alloc _).on hb
    replace D := (D.alloc _).on hb
    replace E := (E.alloc _).on hb
    replace F := (F.alloc _).on hb
    replace P := (P.alloc _).on hb
    replace Q := (Q.alloc _).on hb
    replace G := (G.alloc _).on hb
    have M := (C3.fresh w7 _ _ _ _).on hb
    replace B := bbox B hb
    clear hb
    have A0 := A.c0; have A1 := A.c1; have A2 := A.c2; have A3 := A.lt
    have D0 := D.c0; have D1 := D.c1; have D2 := D.c2; have D3 := D.lt
    have E0 := E.c0; have E1 := E.c1; have E2 := E.c2; have E3 := E.lt
    have F0 := F.c0; have F1 := F.c1; have F2 := F.c2; have F3 := F.lt
    have P0 := P.c0; have P1 := P.c1; have P2 := P.c2; have P3 := P.lt
    have Q0 := Q.c0; have Q1 := Q.c1; have Q2 := Q.c2; have Q3 := Q.lt
    have M0 := M.c0; have M1 := M.c1; have M2 := M.c2; have M3 := M.lt
    go_wp2_with fail
    refine (awake_calls _ ?_).mono ?_
    · exact (G.alloc _).alloc _
    rintro e wz ⟨rfl, hb⟩
    go_wp2
    go_ret
    exact ⟨rfl, bbox (B.alloc B.size _) hb⟩
  · rw [e] at HS
    clear e HB
    rw [HD] at HA HA' HM HM'
    generalize madeL (amt v s + amt v' s') 4 d' = P at HA HA'
    generalize madeL (v * v') (s + s') d' = R at HM HM'
    obtain ⟨⟨X, Y, Z⟩, ok⟩ := P
    obtain ⟨⟨X', Y', Z'⟩, ok'⟩ := R
    clear HD
    go_enter Tryd.func8, Tryd.ntmps8
    have A0 := A.c0; have A1 := A.c1; have A2 := A.c2; have A3 := A.lt
    have D0 := D.c0; have D1 := D.c1; have D2 := D.c2; have D3 := D.lt
    go_wp2_with fail
    refine (rRight_calls _ _ _ _).mono ?_
    rintro e w1 ⟨rfl, hb⟩
    rw [H1.out]
    clear A0 A1 A2 A3 D0 D1 D2 D3
    replace A := (A).on hb
    replace D := (D).on hb
    replace G := (G).on hb
    replace B := bnext B hb
    clear hb
    have A0 := A.c0; have A1 := A.c1; have A2 := A.c2; have A3 := A.lt
    have D0 := D.c0; have D1 := D.c1; have D2 := D.c2; have D3 := D.lt
    go_wp2_with fail
    refine (rRight_calls _ _ _ _).mono ?_
    rintro e w2 ⟨rfl, hb⟩
    rw [H2.out]
    clear A0 A1 A2 A3 D0 D1 D2 D3
    replace A := (A).on hb
    replace D := (D).on hb
    replace G := (G).on hb
    replace B := bnext B hb
    clear hb
    have A0 := A.c0; have A1 := A.c1; have A2 := A.c2; have A3 := A.lt
    have D0 := D.c0; have D1 := D.c1; have D2 := D.c2; have D3 := D.lt
    go_wp2_with fail
    refine (HA.out _ ?_).mono ?_
    · exact G
    rintro e w3 ⟨rfl, hb⟩
    simp only [reckL, NumL.val]
    clear A0 A1 A2 A3 D0 D1 D2 D3
    replace A := (A).on hb
    replace D := (D).on hb
    replace G := (G).on hb
    replace B := bnext B hb
    clear hb
    have A0 := A.c0; have A1 := A.c1; have A2 := A.c2; have A3 := A.lt
    have D0 := D.c0; have D1 := D.c1; have D2 := D.c2; have D3 := D.lt
    go_wp2_with fail
    refine (HA'.out _ ?_).mono ?_
    · exact (G.alloc _)
    rintro e w4 ⟨rfl, hb⟩
    simp only [reckL, NumL.val]
    clear A0 A1 A2 A3 D0 D1 D2 D3
    replace A := (A.alloc _).on hb
    replace D := (D.alloc _).on hb
    replace G := (G.alloc _).on hb
    have E := (C3.fresh w3 _ _ _ _).on hb
    replace B := bbox B hb
    clear hb
    have A0 := A.c0; have A1 := A.c1; have A2 := A.c2; have A3 := A.lt
    have D0 := D.c0; have D1 := D.c1; have D2 := D.c2; have D3 := D.lt
    have E0 := E.c0; have E1 := E.c1; have E2 := E.c2; have E3 := E.lt
    go_wp2_with fail
    refine (HM.out _ ?_).mono ?_
    · exact (G.alloc _)
    rintro e w5 ⟨rfl, hb⟩
    simp only [reckL, NumL.val]
    clear A0 A1 A2 A3 D0 D1 D2 D3 E0 E1 E2 E3
    replace A := (A.alloc _).on hb
    replace D := (D.alloc _).on hb
    replace E := (E.alloc _).on hb
    replace G := (G.alloc _).on hb
    have F := (C3.fresh w4 _ _ _ _).on hb
    replace B := bbox B hb
    clear hb
    have A0 := A.c0; have A1 := A.c1; have A2 := A.c2; have A3 := A.lt
    have D0 := D.c0; have D1 := D.c1; have D2 := D.c2; have D3 := D.lt
    have E0 := E.c0; have E1 := E.c1; have E2 := E.c2; have E3 := E.lt
    have F0 := F.c0; have F1 := F.c1; have F2 := F.c2; have F3 := F.lt
    go_wp2_with fail
    refine (HM'.out _ ?_).mono ?_
    · exact (G.alloc _)
    rintro e w6 ⟨rfl, hb⟩
    simp only [reckL, NumL.val]
    clear A0 A1 A2 A3 D0 D1 D2 D3 E0 E1 E2 E3 F0 F1 F2 F3
    replace A := (A.alloc _).on hb
    replace D := (D.alloc _).on hb
    replace E := (E.alloc _).on hb
    replace F := (F.alloc _).on hb
    replace G := (G.alloc _).on hb
    have P := (C3.fresh w5 _ _ _ _).on hb
    replace B := bbox B hb
    clear hb
    have A0 := A.c0; have A1 := A.c1; have A2 := A.c2; have A3 := A.lt
    have D0 := D.c0; have D1 := D.c1; have D2 := D.c2; have D3 := D.lt
    have E0 := E.c0; have E1 := E.c1; have E2 := E.c2; have E3 := E.lt
    have F0 := F.c0; have F1 := F.c1; have F2 := F.c2; have F3 := F.lt
    have P0 := P.c0; have P1 := P.c1; have P2 := P.c2; have P3 := P.lt
    go_wp2_with fail
    refine (HS.out _ ?_).mono ?_
    · exact (G.alloc _)
    rintro e w7 ⟨rfl, hb⟩
    simp only [reckL, NumL.val, noNum]
    rw [show overZ false = 5 from rfl]
    clear A0 A1 A2 A3 D0 D1 D2 D3 E0 E1 E2 E3 F0 F1 F2 F3 P0 P1 P2 P3
    replace A := (A.alloc _).on hb
    replace D := (D.alloc _).on hb
    replace E := (E.alloc _).on hb
    replace F := (F.alloc _).on hb
    replace P := (P.alloc _).on hb
    replace G := (G.alloc _).on hb
    have Q := (C3.fresh w6 _ _ _ _).on hb
    replace B := bbox B hb
    clear hb
    have A0 := A.c0; have A1 := A.c1; have A2 := A.c2; have A3 := A.lt
    have D0 := D.c0; have D1 := D.c1; have D2 := D.c2; have D3 := D.lt
    have E0 := E.c0; have E1 := E.c1; have E2 := E.c2; have E3 := E.lt
    have F0 := F.c0; have F1 := F.c1; have F2 := F.c2; have F3 := F.lt
    have P0 := P.c0; have P1 := P.c1; have P2 := P.c2; have P3 := P.lt
    have Q0 := Q.c0; have Q1 := Q.c1; have Q2 := Q.c2; have Q3 := Q.lt
    go_wp2_with fail
    refine (awake_calls _ (G.alloc _)).mono ?_
    rintro e wz ⟨rfl, hb⟩
    go_wp2
    go_ret
    exact ⟨rfl, bbox B hb⟩

set_option maxRecDepth 100000 in
set_option maxHeartbeats 2000000 in
theorem numberLaws_no (v s : Int) (d : Bool) (v' s' : Int) (d' : Bool) (w : World) (hg : Good w) (h : rightZ v s d = false ∨ (rightZ v s d = true ∧ rightZ v' s' d' = false)) :
    Calls Tryd.prog 8 #[.agg #[.int .i64 v, .int .i64 s, .bool d], .agg #[.int .i64 v', .int .i64 s', .bool d']] w fun e w' => e = .returned (.bool true) ∧ Below w.heap.size w w' := by
  have A : C3 ((w.alloc (.cells #[.int .i64 v, .int .i64 s, .bool d] 23)).alloc (.cells #[.int .i64 v', .int .i64 s', .bool d'] 23)) w.heap.size (.int .i64 v) (.int .i64 s) (.bool d) := (C3.fresh w (.int .i64 v) (.int .i64 s) (.bool d) 23).alloc (.cells #[.int .i64 v', .int .i64 s', .bool d'] 23)
  have D : C3 ((w.alloc (.cells #[.int .i64 v, .int .i64 s, .bool d] 23)).alloc (.cells #[.int .i64 v', .int .i64 s', .bool d'] 23)) (w.heap.size + 1) (.int .i64 v') (.int .i64 s') (.bool d') := by
    have := C3.fresh (w.alloc (.cells #[.int .i64 v, .int .i64 s, .bool d] 23)) (.int .i64 v') (.int .i64 s') (.bool d') 23
    simpa using this
  have B := two_alloc w (.cells #[.int .i64 v, .int .i64 s, .bool d] 23) (.cells #[.int .i64 v', .int .i64 s', .bool d'] 23)
  have G := (hg.alloc (.cells #[.int .i64 v, .int .i64 s, .bool d] 23)).alloc (.cells #[.int .i64 v', .int .i64 s', .bool d'] 23)
  clear hg
  rcases h with h | ⟨h, h'⟩
  · have H1 := Lib.hid h
    clear h
    go_enter Tryd.func8, Tryd.ntmps8
    have A0 := A.c0; have A1 := A.c1; have A2 := A.c2; have A3 := A.lt
    have D0 := D.c0; have D1 := D.c1; have D2 := D.c2; have D3 := D.lt
    go_wp2_with fail
    refine (rRight_calls _ _ _ _).mono ?_
    rintro e w1 ⟨rfl, hb⟩
    rw [H1.out]
    clear A0 A1 A2 A3 D0 D1 D2 D3
    replace A := (A).on hb
    replace D := (D).on hb
    replace G := (G).on hb
    replace B := bnext B hb
    clear hb
    have A0 := A.c0; have A1 := A.c1; have A2 := A.c2; have A3 := A.lt
    have D0 := D.c0; have D1 := D.c1; have D2 := D.c2; have D3 := D.lt
    go_wp2_with fail
    refine (awake_calls _ ?_).mono ?_
    · exact G
    rintro e w2 ⟨rfl, hb⟩
    clear A0 A1 A2 A3 D0 D1 D2 D3
    replace A := (A).on hb
    replace D := (D).on hb
    replace G := (G).on hb
    replace B := bnext B hb
    clear hb
    have A0 := A.c0; have A1 := A.c1; have A2 := A.c2; have A3 := A.lt
    have D0 := D.c0; have D1 := D.c1; have D2 := D.c2; have D3 := D.lt
    go_wp2
    go_ret
    exact ⟨rfl, B⟩
  · have H1 := Lib.hid h
    have H2 := Lib.hid h'
    clear h h'
    go_enter Tryd.func8, Tryd.ntmps8
    have A0 := A.c0; have A1 := A.c1; have A2 := A.c2; have A3 := A.lt
    have D0 := D.c0; have D1 := D.c1; have D2 := D.c2; have D3 := D.lt
    go_wp2_with fail
    refine (rRight_calls _ _ _ _).mono ?_
    rintro e w1 ⟨rfl, hb⟩
    rw [H1.out]
    clear A0 A1 A2 A3 D0 D1 D2 D3
    replace A := (A).on hb
    replace D := (D).on hb
    replace G := (G).on hb
    replace B := bnext B hb
    clear hb
    have A0 := A.c0; have A1 := A.c1; have A2 := A.c2; have A3 := A.lt
    have D0 := D.c0; have D1 := D.c1; have D2 := D.c2; have D3 := D.lt
    go_wp2_with fail
    refine (rRight_calls _ _ _ _).mono ?_
    rintro e w2 ⟨rfl, hb⟩
    rw [H2.out]
    clear A0 A1 A2 A3 D0 D1 D2 D3
    replace A := (A).on hb
    replace D := (D).on hb
    replace G := (G).on hb
    replace B := bnext B hb
    clear hb
    have A0 := A.c0; have A1 := A.c1; have A2 := A.c2; have A3 := A.lt
    have D0 := D.c0; have D1 := D.c1; have D2 := D.c2; have D3 := D.lt
    go_wp2_with fail
    refine (awake_calls _ ?_).mono ?_
    · exact G
    rintro e w3 ⟨rfl, hb⟩
    clear A0 A1 A2 A3 D0 D1 D2 D3
    replace A := (A).on hb
    replace D := (D).on hb
    replace G := (G).on hb
    replace B := bnext B hb
    clear hb
    have A0 := A.c0; have A1 := A.c1; have A2 := A.c2; have A3 := A.lt
    have D0 := D.c0; have D1 := D.c1; have D2 := D.c2; have D3 := D.lt
    go_wp2
    go_ret
    exact ⟨rfl, B⟩

theorem numberLaws_calls (v s : Int) (d : Bool) (v' s' : Int) (d' : Bool) (w : World) (hg : Good w) :
    Calls Tryd.prog 8 #[.agg #[.int .i64 v, .int .i64 s, .bool d], .agg #[.int .i64 v', .int .i64 s', .bool d']] w fun e w' => e = .returned (.bool true) ∧ Below w.heap.size w w' := by
  rcases right_two v s d v' s' d' with h | ⟨h, h'⟩
  · exact numberLaws_no v s d v' s' d' w hg h
  · have k := ((rightZ_iff _ _ _).1 h).2.1.1
    have k' := ((rightZ_iff _ _ _).1 h').2.1.1
    obtain ⟨s, rfl⟩ := Int.eq_ofNat_of_zero_le k
    obtain ⟨s', rfl⟩ := Int.eq_ofNat_of_zero_le k'
    exact (by cases d with
      | true => exact numberLaws_true v s v' s' d' w hg h h'
      | false => exact numberLaws_false v s v' s' d' w hg h h')

end Go.Proofs.YtdoagbengfdcgaaDoor
