/- Which of two numbers is less is what the document says; whole or decimal says nothing: the walk of the statement's function. -/
import Derived.Test.YtdoagbengfdcgaaDoorNumLive
namespace Go.Proofs.YtdoagbengfdcgaaDoor
open Go.RowKit

theorem right_dec {v s : Int} {d : Bool} (h : rightZ v s d = true) : rightZ v s true = true := by
  rw [rightZ_iff] at h ⊢
  obtain ⟨h1, h2, h3⟩ := h
  exact ⟨h1, h2, h3.imp id fun h => ⟨rfl, h.2⟩⟩
theorem cmpI_self (a : Int) : cmpI a a = 0 := cmpI_eq (by omega) (by omega)

set_option maxRecDepth 100000 in
set_option maxHeartbeats 2000000 in
theorem numberOrders_yes (v : Int) (s : Nat) (d : Bool) (v' : Int) (s' : Nat) (d' : Bool) (w : World) (hg : Good w) (hr : rightZ v s d = true) (hr' : rightZ v' s' d' = true) :
    Calls Tryd.prog 6 #[.agg #[.int .i64 v, .int .i64 s, .bool d], .agg #[.int .i64 v', .int .i64 s', .bool d']] w fun e w' => e = .returned (.bool true) ∧ Below w.heap.size w w' := by
  obtain ⟨⟨p1, p2⟩, ⟨p3, p4⟩, _⟩ := (rightZ_iff _ _ _).1 hr
  obtain ⟨⟨p1', p2'⟩, ⟨p3', p4'⟩, _⟩ := (rightZ_iff _ _ _).1 hr'
  have HC : Hid (∀ W, Good W → Calls Tryd.prog 21 #[.agg #[.int .i64 v, .int .i64 s, .bool d], .agg #[.int .i64 v', .int .i64 s', .bool d']] W fun e w' => e = .returned (.tuple #[.int .i64 (cmpI (amt v s) (amt v' s')), .int .i64 0]) ∧ Below W.heap.size W w') := Lib.hid fun W hW => Compare_right v s d v' s' d' W hW hr hr' (by omega) p1 p2 (by omega) p1' p2'
  have HC2 : Hid (∀ W, Good W → Calls Tryd.prog 21 #[.agg #[.int .i64 v, .int .i64 s, .bool d], .agg #[.int .i64 v, .int .i64 s, .bool true]] W fun e w' => e = .returned (.tuple #[.int .i64 0, .int .i64 0]) ∧ Below W.heap.size W w') := Lib.hid fun W hW => by
    have := Compare_right v s d v s true W hW hr (right_dec hr) (by omega) p1 p2 (by omega) p1 p2
    rw [cmpI_self] at this
    exact this
  have HR : Hid (∀ W, Calls Tryd.prog 22 #[.agg #[.int .i64 v, .int .i64 s, .bool d], .agg #[.int .i64 v', .int .i64 s', .bool d']] W fun e w' => e = .returned (.int .i64 (cmpI (amt v s) (amt v' s'))) ∧ Below W.heap.size W w') := Lib.hid fun W => rCompare_calls v s d v' s' d' W (by omega) p1 p2 (by omega) p1' p2'
  have H1 := Lib.hid hr
  have H2 := Lib.hid hr'
  have A : C3 ((w.alloc (.cells #[.int .i64 v, .int .i64 s, .bool d] 23)).alloc (.cells #[.int .i64 v', .int .i64 s', .bool d'] 23)) w.heap.size (.int .i64 v) (.int .i64 s) (.bool d) := (C3.fresh w (.int .i64 v) (.int .i64 s) (.bool d) 23).alloc (.cells #[.int .i64 v', .int .i64 s', .bool d'] 23)
  have D : C3 ((w.alloc (.cells #[.int .i64 v, .int .i64 s, .bool d] 23)).alloc (.cells #[.int .i64 v', .int .i64 s', .bool d'] 23)) (w.heap.size + 1) (.int .i64 v') (.int .i64 s') (.bool d') := by
    have := C3.fresh (w.alloc (.cells #[.int .i64 v, .int .i64 s, .bool d] 23)) (.int .i64 v') (.int .i64 s') (.bool d') 23
    simpa using this
  have B := two_alloc w (.cells #[.int .i64 v, .int .i64 s, .bool d] 23) (.cells #[.int .i64 v', .int .i64 s', .bool d'] 23)
  have G := (hg.alloc (.cells #[.int .i64 v, .int .i64 s, .bool d] 23)).alloc (.cells #[.int .i64 v', .int .i64 s', .bool d'] 23)
  clear hr hr' hg p1 p2 p3 p4 p1' p2' p3' p4'
  generalize cmpI (amt v s) (amt v' s') = N at HC HR
  have g : (N == N) = true := by simp
  go_enter Tryd.func6, Tryd.ntmps6
  have A0 := A.c0; have A1 := A.c1; have A2 := A.c2; have A3 := A.lt
  have D0 := D.c0; have D1 := D.c1; have D2 := D.c2; have D3 := D.lt
  go_wp2_with fail
  refine (HC.out _ ?_).mono ?_
  · exact G
  rintro e w1 ⟨rfl, hb⟩
  clear A0 A1 A2 A3 D0 D1 D2 D3
  replace A := (A).on hb
  replace D := (D).on hb
  replace G := (G).on hb
  replace B := bnext B hb
  clear hb
  have A0 := A.c0; have A1 := A.c1; have A2 := A.c2; have A3 := A.lt
  have D0 := D.c0; have D1 := D.c1; have D2 := D.c2; have D3 := D.lt
  go_wp2_with fail
  refine (rRight_calls _ _ _ _).mono ?_
  rintro e w2 ⟨rfl, hb⟩
  rw [H1.out]
  clear A0 A1 A2 A3 D0 D1 D2 D3
  replace A := (A).on hb
  replace D := (D).on hb
  replace G := (G).on hb
  replace B := bnext B hb
  clear hb
  have A0 := A.c0; have A1 := A.c1; have A2 := A.c2; have A3 := A.lt
  have D0 := D.c0; have D1 := D.c1; have D2 := D.c2; have D3 := D.lt
  go_wp2_with fail
  refine (rRight_calls _ _ _ _).mono ?_
  rintro e w3 ⟨rfl, hb⟩
  rw [H2.out]
  clear A0 A1 A2 A3 D0 D1 D2 D3
  replace A := (A).on hb
  replace D := (D).on hb
  replace G := (G).on hb
  replace B := bnext B hb
  clear hb
  have A0 := A.c0; have A1 := A.c1; have A2 := A.c2; have A3 := A.lt
  have D0 := D.c0; have D1 := D.c1; have D2 := D.c2; have D3 := D.lt
  go_wp2_with fail
  refine (HC2.out _ ?_).mono ?_
  · exact (G.alloc _)
  rintro e w4 ⟨rfl, hb⟩
  clear A0 A1 A2 A3 D0 D1 D2 D3
  replace A := (A.alloc _).on hb
  replace D := (D.alloc _).on hb
  replace G := (G.alloc _).on hb
  have E := (C3.fresh w3 _ _ _ _).on hb
  replace B := bbox B hb
  clear hb
  have A0 := A.c0; have A1 := A.c1; have A2 := A.c2; have A3 := A.lt
  have D0 := D.c0; have D1 := D.c1; have D2 := D.c2; have D3 := D.lt
  have E0 := E.c0; have E1 := E.c1; have E2 := E.c2; have E3 := E.lt
  go_wp2_with fail
  refine (HR.out _).mono ?_
  rintro e w5 ⟨rfl, hb⟩
  clear A0 A1 A2 A3 D0 D1 D2 D3 E0 E1 E2 E3
  replace A := (A).on hb
  replace D := (D).on hb
  replace E := (E).on hb
  replace G := (G).on hb
  replace B := bnext B hb
  clear hb
  have A0 := A.c0; have A1 := A.c1; have A2 := A.c2; have A3 := A.lt
  have D0 := D.c0; have D1 := D.c1; have D2 := D.c2; have D3 := D.lt
  have E0 := E.c0; have E1 := E.c1; have E2 := E.c2; have E3 := E.lt
  go_wp2_with fail
  refine (awake_calls _ ?_).mono ?_
  · exact G
  rintro e w6 ⟨rfl, hb⟩
  clear A0 A1 A2 A3 D0 D1 D2 D3 E0 E1 E2 E3
  replace A := (A).on hb
  replace D := (D).on hb
  replace E := (E).on hb
  replace G := (G).on hb
  replace B := bnext B hb
  clear hb
  have A0 := A.c0; have A1 := A.c1; have A2 := A.c2; have A3 := A.lt
  have D0 := D.c0; have D1 := D.c1; have D2 := D.c2; have D3 := D.lt
  have E0 := E.c0; have E1 := E.c1; have E2 := E.c2; have E3 := E.lt
  go_wp2
  go_ret
  exact ⟨rfl, B⟩

set_option maxRecDepth 100000 in
set_option maxHeartbeats 2000000 in
theorem numberOrders_no (v s : Int) (d : Bool) (v' s' : Int) (d' : Bool) (w : World) (hg : Good w) (h : rightZ v s d = false ∨ (rightZ v s d = true ∧ rightZ v' s' d' = false)) :
    Calls Tryd.prog 6 #[.agg #[.int .i64 v, .int .i64 s, .bool d], .agg #[.int .i64 v', .int .i64 s', .bool d']] w fun e w' => e = .returned (.bool true) ∧ Below w.heap.size w w' := by
  have HC : Hid (∀ W, Calls Tryd.prog 21 #[.agg #[.int .i64 v, .int .i64 s, .bool d], .agg #[.int .i64 v', .int .i64 s', .bool d']] W fun e w' => e = .returned (.tuple #[.int .i64 0, .int .i64 2]) ∧ Below W.heap.size W w') := Lib.hid fun W => Compare_wrong v s d v' s' d' W (wrong_of h)
  have A : C3 ((w.alloc (.cells #[.int .i64 v, .int .i64 s, .bool d] 23)).alloc (.cells #[.int .i64 v', .int .i64 s', .bool d'] 23)) w.heap.size (.int .i64 v) (.int .i64 s) (.bool d) := (C3.fresh w (.int .i64 v) (.int .i64 s) (.bool d) 23).alloc (.cells #[.int .i64 v', .int .i64 s', .bool d'] 23)
  have D : C3 ((w.alloc (.cells #[.int .i64 v, .int .i64 s, .bool d] 23)).alloc (.cells #[.int .i64 v', .int .i64 s', .bool d'] 23)) (w.heap.size + 1) (.int .i64 v') (.int .i64 s') (.bool d') := by
    have := C3.fresh (w.alloc (.cells #[.int .i64 v, .int .i64 s, .bool d] 23)) (.int .i64 v') (.int .i64 s') (.bool d') 23
    simpa using this
  have B := two_alloc w (.cells #[.int .i64 v, .int .i64 s, .bool d] 23) (.cells #[.int .i64 v', .int .i64 s', .bool d'] 23)
  have G := (hg.alloc (.cells #[.int .i64 v, .int .i64 s, .bool d] 23)).alloc (.cells #[.int .i64 v', .int .i64 s', .bool d'] 23)
  clear hg
  rcases h with h | ⟨h, h'⟩
  · have H1 := Lib.hid h
    clear h
    go_enter Tryd.func6, Tryd.ntmps6
    have A0 := A.c0; have A1 := A.c1; have A2 := A.c2; have A3 := A.lt
    have D0 := D.c0; have D1 := D.c1; have D2 := D.c2; have D3 := D.lt
    go_wp2_with fail
    refine (HC.out _).mono ?_
    rintro e w1 ⟨rfl, hb⟩
    clear A0 A1 A2 A3 D0 D1 D2 D3
    replace A := (A).on hb
    replace D := (D).on hb
    replace G := (G).on hb
    replace B := bnext B hb
    clear hb
    have A0 := A.c0; have A1 := A.c1; have A2 := A.c2; have A3 := A.lt
    have D0 := D.c0; have D1 := D.c1; have D2 := D.c2; have D3 := D.lt
    go_wp2_with fail
    refine (rRight_calls _ _ _ _).mono ?_
    rintro e w2 ⟨rfl, hb⟩
    rw [H1.out]
    clear A0 A1 A2 A3 D0 D1 D2 D3
    replace A := (A).on hb
    replace D := (D).on hb
    replace G := (G).on hb
    replace B := bnext B hb
    clear hb
    have A0 := A.c0; have A1 := A.c1; have A2 := A.c2; have A3 := A.lt
    have D0 := D.c0; have D1 := D.c1; have D2 := D.c2; have D3 := D.lt
    go_wp2_with fail
    refine (awake_calls _ ?_).mono ?_
    · exact G
    rintro e w3 ⟨rfl, hb⟩
    clear A0 A1 A2 A3 D0 D1 D2 D3
    replace A := (A).on hb
    replace D := (D).on hb
    replace G := (G).on hb
    replace B := bnext B hb
    clear hb
    have A0 := A.c0; have A1 := A.c1; have A2 := A.c2; have A3 := A.lt
    have D0 := D.c0; have D1 := D.c1; have D2 := D.c2; have D3 := D.lt
    go_wp2
    go_ret
    exact ⟨rfl, B⟩
  · have H1 := Lib.hid h
    have H2 := Lib.hid h'
    clear h h'
    go_enter Tryd.func6, Tryd.ntmps6
    have A0 := A.c0; have A1 := A.c1; have A2 := A.c2; have A3 := A.lt
    have D0 := D.c0; have D1 := D.c1; have D2 := D.c2; have D3 := D.lt
    go_wp2_with fail
    refine (HC.out _).mono ?_
    rintro e w1 ⟨rfl, hb⟩
    clear A0 A1 A2 A3 D0 D1 D2 D3
    replace A := (A).on hb
    replace D := (D).on hb
    replace G := (G).on hb
    replace B := bnext B hb
    clear hb
    have A0 := A.c0; have A1 := A.c1; have A2 := A.c2; have A3 := A.lt
    have D0 := D.c0; have D1 := D.c1; have D2 := D.c2; have D3 := D.lt
    go_wp2_with fail
    refine (rRight_calls _ _ _ _).mono ?_
    rintro e w2 ⟨rfl, hb⟩
    rw [H1.out]
    clear A0 A1 A2 A3 D0 D1 D2 D3
    replace A := (A).on hb
    replace D := (D).on hb
    replace G := (G).on hb
    replace B := bnext B hb
    clear hb
    have A0 := A.c0; have A1 := A.c1; have A2 := A.c2; have A3 := A.lt
    have D0 := D.c0; have D1 := D.c1; have D2 := D.c2; have D3 := D.lt
    go_wp2_with fail
    refine (rRight_calls _ _ _ _).mono ?_
    rintro e w3 ⟨rfl, hb⟩
    rw [H2.out]
    clear A0 A1 A2 A3 D0 D1 D2 D3
    replace A := (A).on hb
    replace D := (D).on hb
    replace G := (G).on hb
    replace B := bnext B hb
    clear hb
    have A0 := A.c0; have A1 := A.c1; have A2 := A.c2; have A3 := A.lt
    have D0 := D.c0; have D1 := D.c1; have D2 := D.c2; have D3 := D.lt
    go_wp2_with fail
    refine (awake_calls _ ?_).mono ?_
    · exact G
    rintro e w4 ⟨rfl, hb⟩
    clear A0 A1 A2 A3 D0 D1 D2 D3
    replace A := (A).on hb
    replace D := (D).on hb
    replace G := (G).on hb
    replace B := bnext B hb
    clear hb
    have A0 := A.c0; have A1 := A.c1; have A2 := A.c2; have A3 := A.lt
    have D0 := D.c0; have D1 := D.c1; have D2 := D.c2; have D3 := D.lt
    go_wp2
    go_ret
    exact ⟨rfl, B⟩

theorem numberOrders_calls (v s : Int) (d : Bool) (v' s' : Int) (d' : Bool) (w : World) (hg : Good w) :
    Calls Tryd.prog 6 #[.agg #[.int .i64 v, .int .i64 s, .bool d], .agg #[.int .i64 v', .int .i64 s', .bool d']] w fun e w' => e = .returned (.bool true) ∧ Below w.heap.size w w' := by
  rcases right_two v s d v' s' d' with h | ⟨h, h'⟩
  · exact numberOrders_no v s d v' s' d' w hg h
  · have k := ((rightZ_iff _ _ _).1 h).2.1.1
    have k' := ((rightZ_iff _ _ _).1 h').2.1.1
    obtain ⟨s, rfl⟩ := Int.eq_ofNat_of_zero_le k
    obtain ⟨s', rfl⟩ := Int.eq_ofNat_of_zero_le k'
    exact numberOrders_yes v s d v' s' d' w hg h h'

end Go.Proofs.YtdoagbengfdcgaaDoor
