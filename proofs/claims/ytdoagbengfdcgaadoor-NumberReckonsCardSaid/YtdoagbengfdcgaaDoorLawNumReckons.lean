/- The sum, difference, product and quotient of any two numbers are what the document says: the walk of the statement's function. -/
import Derived.Test.YtdoagbengfdcgaaDoorNumHelp
import Derived.Test.YtdoagbengfdcgaaDoorNumAdd
import Derived.Test.YtdoagbengfdcgaaDoorNumSub
import Derived.Test.YtdoagbengfdcgaaDoorNumRefAdd
import Derived.Test.YtdoagbengfdcgaaDoorNumRefSub
import Derived.Test.YtdoagbengfdcgaaDoorNumRefMul
namespace Go.Proofs.YtdoagbengfdcgaaDoor
open Go.RowKit

def pairL (k : Nat) (v : Int) (s : Nat) (d : Bool) (v' : Int) (s' : Nat) (d' : Bool) : NumL × Bool :=
  if k = 1 then madeL (amt v s + amt v' s') 4 (decOf d d')
  else if k = 2 then madeL (amt v s - amt v' s') 4 (decOf d d')
  else if k = 3 then madeL (v * v') (s + s') (decOf d d')
  else if v' = 0 then (noNum, false)
  else madeL ((amt v s * 10000).tdiv (amt v' s')) 4 true
theorem pairL_no {k : Nat} {v : Int} {s : Nat} {d : Bool} {v' : Int} {s' : Nat} {d' : Bool} (h : (pairL k v s d v' s' d').2 = false) : pairL k v s d v' s' d' = (noNum, false) := by
  unfold pairL at h ⊢
  by_cases h1 : k = 1
  · rw [if_pos h1] at h ⊢; exact madeL_false h
  rw [if_neg h1] at h ⊢
  by_cases h2 : k = 2
  · rw [if_pos h2] at h ⊢; exact madeL_false h
  rw [if_neg h2] at h ⊢
  by_cases h3 : k = 3
  · rw [if_pos h3] at h ⊢; exact madeL_false h
  rw [if_neg h3] at h ⊢
  by_cases h4 : v' = 0
  · rw [if_pos h4]
  rw [if_neg h4] at h ⊢; exact madeL_false h
theorem amt_ten (v : Int) (s : Nat) (h : s ≤ 4) : amt v s * 10000 = v * ten (8 - s) := by
  unfold amt
  rw [Int.mul_assoc]
  congr 1
  match s, h with
  | 0, _ => decide
  | 1, _ => decide
  | 2, _ => decide
  | 3, _ => decide
  | 4, _ => decide

theorem reckoned_pair (v : Int) (s : Nat) (d : Bool) (v' : Int) (s' : Nat) (d' : Bool) (w : World) (k : Nat) (hk1 : 1 ≤ k) (hk4 : k ≤ 4) (hg : Good w) (hr : rightZ v s d = true) (hr' : rightZ v' s' d' = true) (hs : s ≤ 4) (h1 : -999999999 ≤ v) (h2 : v ≤ 999999999) (hs' : s' ≤ 4) (h1' : -999999999 ≤ v') (h2' : v' ≤ 999999999) :
    Calls Tryd.prog 19 #[.int .i64 k, .agg #[.int .i64 v, .int .i64 s, .bool d], .agg #[.int .i64 v', .int .i64 s', .bool d']] w fun e w' => e = .returned (reckL (pairL k v s d v' s' d')) ∧ Below w.heap.size w w' := by
  obtain rfl | rfl | rfl | rfl : k = 1 ∨ k = 2 ∨ k = 3 ∨ k = 4 := by omega
  · exact reckoned_Add v s d v' s' d' _ _ _ _ w hg fun W hW => Add_right v s d v' s' d' W hW hr hr' hs h1 h2 hs' h1' h2'
  · exact reckoned_Sub v s d v' s' d' _ _ _ _ w hg fun W hW => Sub_right v s d v' s' d' W hW hr hr' hs h1 h2 hs' h1' h2'
  · exact reckoned_Mul v s d v' s' d' _ _ _ _ w hg fun W hW => Mul_right v s d v' s' d' W hW hr hr' hs h1 h2 hs' h1' h2'
  · by_cases hz : v' = 0
    · subst hz
      exact reckoned_Div v s d 0 s' d' _ _ _ _ w hg fun W _ => Div_zero v s d s' d' W hr hr'
    · have e : pairL 4 v s d v' s' d' = madeL ((v * ten (8 - s)).tdiv (amt v' s')) 4 true := by
        unfold pairL
        rw [if_neg (by omega), if_neg (by omega), if_neg (by omega), if_neg hz, amt_ten v s hs]
      rw [e]
      exact reckoned_Div v s d v' s' d' _ _ _ _ w hg fun W hW => Div_right v s d v' s' d' W hW hr hr' hs h1 h2 hs' h1' h2' hz
theorem rReckon_pair (v : Int) (s : Nat) (d : Bool) (v' : Int) (s' : Nat) (d' : Bool) (w : World) (k : Nat) (hk1 : 1 ≤ k) (hk4 : k ≤ 4) (hs : s ≤ 4) (h1 : -999999999 ≤ v) (h2 : v ≤ 999999999) (hs' : s' ≤ 4) (h1' : -999999999 ≤ v') (h2' : v' ≤ 999999999) :
    Calls Tryd.prog 20 #[.int .i64 k, .agg #[.int .i64 v, .int .i64 s, .bool d], .agg #[.int .i64 v', .int .i64 s', .bool d']] w fun e w' => e = .returned (NumL.ret (pairL k v s d v' s' d')) ∧ Below w.heap.size w w' := by
  obtain rfl | rfl | rfl | rfl : k = 1 ∨ k = 2 ∨ k = 3 ∨ k = 4 := by omega
  · exact rReckon1 v s d v' s' d' w hs h1 h2 hs' h1' h2'
  · exact rReckon2 v s d v' s' d' w hs h1 h2 hs' h1' h2'
  · exact rReckon3 v s d v' s' d' w hs h1 h2 hs' h1' h2'
  · by_cases hz : v' = 0
    · subst hz
      exact rReckon_zero v s d s' d' w
    · have e : pairL 4 v s d v' s' d' = madeL ((amt v s * 10000).tdiv (amt v' s')) 4 true := by
        unfold pairL
        rw [if_neg (by omega), if_neg (by omega), if_neg (by omega), if_neg hz]
      rw [e]
      exact rReckon4 v s d v' s' d' w hs h1 h2 hs' h1' h2' hz

set_option maxRecDepth 100000 in
set_option maxHeartbeats 2000000 in
theorem numberReckons_yes (v : Int) (s : Nat) (d : Bool) (v' : Int) (s' : Nat) (d' : Bool) (w : World) (hg : Good w) (hr : rightZ v s d = true) (hr' : rightZ v' s' d' = true) :
    Calls Tryd.prog 5 #[.agg #[.int .i64 v, .int .i64 s, .bool d], .agg #[.int .i64 v', .int .i64 s', .bool d']] w fun e w' => e = .returned (.bool true) ∧ Below w.heap.size w w' := by
  obtain ⟨⟨p1, p2⟩, ⟨p3, p4⟩, _⟩ := (rightZ_iff _ _ _).1 hr
  obtain ⟨⟨p1', p2'⟩, ⟨p3', p4'⟩, _⟩ := (rightZ_iff _ _ _).1 hr'
  have HK : Hid (∀ k : Nat, 1 ≤ k → k ≤ 4 → ∀ W, Good W → Calls Tryd.prog 19 #[.int .i64 k, .agg #[.int .i64 v, .int .i64 s, .bool d], .agg #[.int .i64 v', .int .i64 s', .bool d']] W fun e w' => e = .returned (reckL (pairL k v s d v' s' d')) ∧ Below W.heap.size W w') := Lib.hid fun k k1 k4 W hW => reckoned_pair v s d v' s' d' W k k1 k4 hW hr hr' (by omega) p1 p2 (by omega) p1' p2'
  have HKR : Hid (∀ k : Nat, 1 ≤ k → k ≤ 4 → ∀ W, Calls Tryd.prog 20 #[.int .i64 k, .agg #[.int .i64 v, .int .i64 s, .bool d], .agg #[.int .i64 v', .int .i64 s', .bool d']] W fun e w' => e = .returned (NumL.ret (pairL k v s d v' s' d')) ∧ Below W.heap.size W w') := Lib.hid fun k k1 k4 W => rReckon_pair v s d v' s' d' W k k1 k4 (by omega) p1 p2 (by omega) p1' p2'
  have HN : Hid (∀ k : Nat, (pairL k v s d v' s' d').2 = false → pairL k v s d v' s' d' = (noNum, false)) := Lib.hid fun k h => pairL_no h
  have H1 := Lib.hid hr
  have H2 := Lib.hid hr'
  have A : C3 ((w.alloc (.cells #[.int .i64 v, .int .i64 s, .bool d] 23)).alloc (.cells #[.int .i64 v', .int .i64 s', .bool d'] 23)) w.heap.size (.int .i64 v) (.int .i64 s) (.bool d) := (C3.fresh w (.int .i64 v) (.int .i64 s) (.bool d) 23).alloc (.cells #[.int .i64 v', .int .i64 s', .bool d'] 23)
  have D : C3 ((w.alloc (.cells #[.int .i64 v, .int .i64 s, .bool d] 23)).alloc (.cells #[.int .i64 v', .int .i64 s', .bool d'] 23)) (w.heap.size + 1) (.int .i64 v') (.int .i64 s') (.bool d') := by
    have := C3.fresh (w.alloc (.cells #[.int .i64 v, .int .i64 s, .bool d] 23)) (.int .i64 v') (.int .i64 s') (.bool d') 23
    simpa using this
  have B := two_alloc w (.cells #[.int .i64 v, .int .i64 s, .bool d] 23) (.cells #[.int .i64 v', .int .i64 s', .bool d'] 23)
  have G := (hg.alloc (.cells #[.int .i64 v, .int .i64 s, .bool d] 23)).alloc (.cells #[.int .i64 v', .int .i64 s', .bool d'] 23)
  have A' := A; have D' := D; have G' := G; have B' := B
  clear hr hr' hg p1 p2 p3 p4 p1' p2' p3' p4' A D G B
  go_enter Tryd.func5, Tryd.ntmps5
  go_wp2
  go_loopw [5] (fun i wr => ∃ k : Nat, 1 ≤ k ∧ k ≤ 5 ∧ i = .int .i64 k ∧ C3 wr w.heap.size (.int .i64 v) (.int .i64 s) (.bool d) ∧ C3 wr (w.heap.size + 1) (.int .i64 v') (.int .i64 s') (.bool d') ∧ Good wr ∧ Below w.heap.size w wr) (fun i _ => 5 - (intOf i).toNat)
  case atStart => exact ⟨1, by omega, by omega, rfl, A', D', G', B'⟩
  case round =>
    clear A' D' G' B'
    obtain ⟨k, hk1, hk5, rfl, A, D, G, B⟩ := hrel
    by_cases hlt : k ≤ 4
    · have K := Lib.hid (HK.out k hk1 hlt)
      have KR := Lib.hid (HKR.out k hk1 hlt)
      have KN := HN.out k
      generalize pairL k v s d v' s' d' = p at K KR KN
      obtain ⟨⟨X, Y, Z⟩, ok⟩ := p
      cases ok with
      | true =>
        clear KN
        have A0 := A.c0; have A1 := A.c1; have A2 := A.c2; have A3 := A.lt
        have D0 := D.c0; have D1 := D.c1; have D2 := D.c2; have D3 := D.lt
        go_wp2_with fail
        refine (K.out _ G).mono ?_
        rintro e w1 ⟨rfl, hb⟩
        simp only [reckL, NumL.val, overZ, if_true]
        clear A0 A1 A2 A3 D0 D1 D2 D3
        replace A := (A).on hb
        replace D := (D).on hb
        replace G := (G).on hb
        replace B := bnext B hb
        clear hb
        have A0 := A.c0; have A1 := A.c1; have A2 := A.c2; have A3 := A.lt
        have D0 := D.c0; have D1 := D.c1; have D2 := D.c2; have D3 := D.lt
        go_wp2_with fail
        refine (rRight_calls _ _ _ _).mono ?_
        rintro e w2 ⟨rfl, hb⟩
        rw [H1.out]
        clear A0 A1 A2 A3 D0 D1 D2 D3
        replace A := (A.alloc _).on hb
        replace D := (D.alloc _).on hb
        replace G := (G.alloc _).on hb
        have E := (C3.fresh w1 _ _ _ _).on hb
        replace B := bbox B hb
        clear hb
        have A0 := A.c0; have A1 := A.c1; have A2 := A.c2; have A3 := A.lt
        have D0 := D.c0; have D1 := D.c1; have D2 := D.c2; have D3 := D.lt
        have E0 := E.c0; have E1 := E.c1; have E2 := E.c2; have E3 := E.lt
        go_wp2_with fail
        refine (rRight_calls _ _ _ _).mono ?_
        rintro e w3 ⟨rfl, hb⟩
        rw [H2.out]
        clear A0 A1 A2 A3 D0 D1 D2 D3 E0 E1 E2 E3
        replace A := (A).on hb
        replace D := (D).on hb
        replace E := (E).on hb
        replace G := (G).on hb
        replace B := bnext B hb
        clear hb
        have A0 := A.c0; have A1 := A.c1; have A2 := A.c2; have A3 := A.lt
        have D0 := D.c0; have D1 := D.c1; have D2 := D.c2; have D3 := D.lt
        have E0 := E.c0; have E1 := E.c1; have E2 := E.c2; have E3 := E.lt
        go_wp2_with fail
        refine (KR.out _).mono ?_
        rintro e w4 ⟨rfl, hb⟩
        simp only [NumL.ret, NumL.val]
        clear A0 A1 A2 A3 D0 D1 D2 D3 E0 E1 E2 E3
        replace A := (A).on hb
        replace D := (D).on hb
        replace E := (E).on hb
        replace G := (G).on hb
        replace B := bnext B hb
        clear hb
        have A0 := A.c0; have A1 := A.c1; have A2 := A.c2; have A3 := A.lt
        have D0 := D.c0; have D1 := D.c1; have D2 := D.c2; have D3 := D.lt
        have E0 := E.c0; have E1 := E.c1; have E2 := E.c2; have E3 := E.lt
        go_wp2_with fail
        refine (same_yes _ _ _ _ _).mono ?_
        rintro e w5 ⟨rfl, hb⟩
        clear A0 A1 A2 A3 D0 D1 D2 D3 E0 E1 E2 E3
        replace A := (A.alloc _).on hb
        replace D := (D.alloc _).on hb
        replace E := (E.alloc _).on hb
        replace G := (G.alloc _).on hb
        have F := (C3.fresh w4 _ _ _ _).on hb
        replace B := bbox B hb
        clear hb
        have A0 := A.c0; have A1 := A.c1; have A2 := A.c2; have A3 := A.lt
        have D0 := D.c0; have D1 := D.c1; have D2 := D.c2; have D3 := D.lt
        have E0 := E.c0; have E1 := E.c1; have E2 := E.c2; have E3 := E.lt
        have F0 := F.c0; have F1 := F.c1; have F2 := F.c2; have F3 := F.lt
        go_wp2
        go_roundw
        case rel => exact ⟨k + 1, by omega, by omega, by go_num, A, D, G, B⟩
        case measure => simp [intOf]; omega
      | false =>
        have e := KN rfl
        simp only [noNum, Prod.mk.injEq, NumL.mk.injEq, and_true] at e
        obtain ⟨rfl, rfl, rfl⟩ := e
        clear KN
        have A0 := A.c0; have A1 := A.c1; have A2 := A.c2; have A3 := A.lt
        have D0 := D.c0; have D1 := D.c1; have D2 := D.c2; have D3 := D.lt
        go_wp2_with fail
        refine (K.out _ G).mono ?_
        rintro e w1 ⟨rfl, hb⟩
        simp only [reckL, NumL.val, overZ, Bool.false_eq_true, if_false]
        clear A0 A1 A2 A3 D0 D1 D2 D3
        replace A := (A).on hb
        replace D := (D).on hb
        replace G := (G).on hb
        replace B := bnext B hb
        clear hb
        have A0 := A.c0; have A1 := A.c1; have A2 := A.c2; have A3 := A.lt
        have D0 := D.c0; have D1 := D.c1; have D2 := D.c2; have D3 := D.lt
        go_wp2_with fail
        refine (rRight_calls _ _ _ _).mono ?_
        rintro e w2 ⟨rfl, hb⟩
        rw [H1.out]
        clear A0 A1 A2 A3 D0 D1 D2 D3
        replace A := (A.alloc _).on hb
        replace D := (D.alloc _).on hb
        replace G := (G.alloc _).on hb
        have E := (C3.fresh w1 _ _ _ _).on hb
        replace B := bbox B hb
        clear hb
        have A0 := A.c0; have A1 := A.c1; have A2 := A.c2; have A3 := A.lt
        have D0 := D.c0; have D1 := D.c1; have D2 := D.c2; have D3 := D.lt
        have E0 := E.c0; have E1 := E.c1; have E2 := E.c2; have E3 := E.lt
        go_wp2_with fail
        refine (rRight_calls _ _ _ _).mono ?_
        rintro e w3 ⟨rfl, hb⟩
        rw [H2.out]
        clear A0 A1 A2 A3 D0 D1 D2 D3 E0 E1 E2 E3
        replace A := (A).on hb
        replace D := (D).on hb
        replace E := (E).on hb
        replace G := (G).on hb
        replace B := bnext B hb
        clear hb
        have A0 := A.c0; have A1 := A.c1; have A2 := A.c2; have A3 := A.lt
        have D0 := D.c0; have D1 := D.c1; have D2 := D.c2; have D3 := D.lt
        have E0 := E.c0; have E1 := E.c1; have E2 := E.c2; have E3 := E.lt
        go_wp2_with fail
        refine (KR.out _).mono ?_
        rintro e w4 ⟨rfl, hb⟩
        simp only [NumL.ret, NumL.val]
        clear A0 A1 A2 A3 D0 D1 D2 D3 E0 E1 E2 E3
        replace A := (A).on hb
        replace D := (D).on hb
        replace E := (E).on hb
        replace G := (G).on hb
        replace B := bnext B hb
        clear hb
        have A0 := A.c0; have A1 := A.c1; have A2 := A.c2; have A3 := A.lt
        have D0 := D.c0; have D1 := D.c1; have D2 := D.c2; have D3 := D.lt
        have E0 := E.c0; have E1 := E.c1; have E2 := E.c2; have E3 := E.lt
        go_wp2_with fail
        refine (same_no _ _).mono ?_
        rintro e w5 ⟨rfl, hb⟩
        clear A0 A1 A2 A3 D0 D1 D2 D3 E0 E1 E2 E3
        replace A := (A.alloc _).on hb
        replace D := (D.alloc _).on hb
        replace E := (E.alloc _).on hb
        replace G := (G.alloc _).on hb
        have F := (C3.fresh w4 _ _ _ _).on hb
        replace B := bbox B hb
        clear hb
        have A0 := A.c0; have A1 := A.c1; have A2 := A.c2; have A3 := A.lt
        have D0 := D.c0; have D1 := D.c1; have D2 := D.c2; have D3 := D.lt
        have E0 := E.c0; have E1 := E.c1; have E2 := E.c2; have E3 := E.lt
        have F0 := F.c0; have F1 := F.c1; have F2 := F.c2; have F3 := F.lt
        go_wp2
        go_roundw
        case rel => exact ⟨k + 1, by omega, by omega, by go_num, A, D, G, B⟩
        case measure => simp [intOf]; omega
    · obtain rfl : k = 5 := by omega
      clear HK HKR HN
      go_wp2_with fail
      refine (awake_calls _ G).mono ?_
      rintro e w1 ⟨rfl, hb⟩
      go_wp2
      go_ret
      exact ⟨rfl, bnext B hb⟩

set_option maxRecDepth 100000 in
set_option maxHeartbeats 2000000 in
theorem numberReckons_no (v s : Int) (d : Bool) (v' s' : Int) (d' : Bool) (w : World) (hg : Good w) (h : rightZ v s d = false ∨ (rightZ v s d = true ∧ rightZ v' s' d' = false)) :
    Calls Tryd.prog 5 #[.agg #[.int .i64 v, .int .i64 s, .bool d], .agg #[.int .i64 v', .int .i64 s', .bool d']] w fun e w' => e = .returned (.bool true) ∧ Below w.heap.size w w' := by
  have hw := wrong_of h
  have HK : Hid (∀ k : Nat, 1 ≤ k → k ≤ 4 → ∀ W, Good W → Calls Tryd.prog 19 #[.int .i64 k, .agg #[.int .i64 v, .int .i64 s, .bool d], .agg #[.int .i64 v', .int .i64 s', .bool d']] W fun e w' => e = .returned (.tuple #[.agg #[.int .i64 0, .int .i64 0, .bool false], .int .i64 2]) ∧ Below W.heap.size W w') := Lib.hid fun k k1 k4 W hW => by
    obtain rfl | rfl | rfl | rfl : k = 1 ∨ k = 2 ∨ k = 3 ∨ k = 4 := by omega
    · exact reckoned_Add v s d v' s' d' _ _ _ _ W hW fun W' _ => Add_wrong v s d v' s' d' W' hw
    · exact reckoned_Sub v s d v' s' d' _ _ _ _ W hW fun W' _ => Sub_wrong v s d v' s' d' W' hw
    · exact reckoned_Mul v s d v' s' d' _ _ _ _ W hW fun W' _ => Mul_wrong v s d v' s' d' W' hw
    · exact reckoned_Div v s d v' s' d' _ _ _ _ W hW fun W' _ => Div_wrong v s d v' s' d' W' hw
  have A : C3 ((w.alloc (.cells #[.int .i64 v, .int .i64 s, .bool d] 23)).alloc (.cells #[.int .i64 v', .int .i64 s', .bool d'] 23)) w.heap.size (.int .i64 v) (.int .i64 s) (.bool d) := (C3.fresh w (.int .i64 v) (.int .i64 s) (.bool d) 23).alloc (.cells #[.int .i64 v', .int .i64 s', .bool d'] 23)
  have D : C3 ((w.alloc (.cells #[.int .i64 v, .int .i64 s, .bool d] 23)).alloc (.cells #[.int .i64 v', .int .i64 s', .bool d'] 23)) (w.heap.size + 1) (.int .i64 v') (.int .i64 s') (.bool d') := by
    have := C3.fresh (w.alloc (.cells #[.int .i64 v, .int .i64 s, .bool d] 23)) (.int .i64 v') (.int .i64 s') (.bool d') 23
    simpa using this
  have B := two_alloc w (.cells #[.int .i64 v, .int .i64 s, .bool d] 23) (.cells #[.int .i64 v', .int .i64 s', .bool d'] 23)
  have G := (hg.alloc (.cells #[.int .i64 v, .int .i64 s, .bool d] 23)).alloc (.cells #[.int .i64 v', .int .i64 s', .bool d'] 23)
  have A' := A; have D' := D; have G' := G; have B' := B
  have hh := Lib.hid h
  clear h hw hg A D G B
  go_enter Tryd.func5, Tryd.ntmps5
  go_wp2
  go_loopw [5] (fun i wr => ∃ k : Nat, 1 ≤ k ∧ k ≤ 5 ∧ i = .int .i64 k ∧ C3 wr w.heap.size (.int .i64 v) (.int .i64 s) (.bool d) ∧ C3 wr (w.heap.size + 1) (.int .i64 v') (.int .i64 s') (.bool d') ∧ Good wr ∧ Below w.heap.size w wr) (fun i _ => 5 - (intOf i).toNat)
  case atStart => exact ⟨1, by omega, by omega, rfl, A', D', G', B'⟩
  case round =>
    clear A' D' G' B'
    obtain ⟨k, hk1, hk5, rfl, A, D, G, B⟩ := hrel
    by_cases hlt : k ≤ 4
    · have K := Lib.hid (HK.out k hk1 hlt)
      rcases hh.out with h | ⟨h, h'⟩
      · have H1 := Lib.hid h
        clear h
        have A0 := A.c0; have A1 := A.c1; have A2 := A.c2; have A3 := A.lt
        have D0 := D.c0; have D1 := D.c1; have D2 := D.c2; have D3 := D.lt
        go_wp2_with fail
        refine (K.out _ ?_).mono ?_
        · exact G
        rintro e w1 ⟨rfl, hb⟩
        clear A0 A1 A2 A3 D0 D1 D2 D3
        replace A := (A).on hb
        replace D := (D).on hb
        replace G := (G).on hb
        replace B := bnext B hb
        clear hb
        have A0 := A.c0; have A1 := A.c1; have A2 := A.c2; have A3 := A.lt
        have D0 := D.c0; have D1 := D.c1; have D2 := D.c2; have D3 := D.lt
        go_wp2_with fail
        refine (rRight_calls _ _ _ _).mono ?_
        rintro e w2 ⟨rfl, hb⟩
        rw [H1.out]
        clear A0 A1 A2 A3 D0 D1 D2 D3
        replace A := (A.alloc _).on hb
        replace D := (D.alloc _).on hb
        replace G := (G.alloc _).on hb
        have E := (C3.fresh w1 _ _ _ _).on hb
        replace B := bbox B hb
        clear hb
        have A0 := A.c0; have A1 := A.c1; have A2 := A.c2; have A3 := A.lt
        have D0 := D.c0; have D1 := D.c1; have D2 := D.c2; have D3 := D.lt
        have E0 := E.c0; have E1 := E.c1; have E2 := E.c2; have E3 := E.lt
        go_wp2
        go_roundw
        case rel => exact ⟨k + 1, by omega, by omega, by go_num, A, D, G, B⟩
        case measure => simp [intOf]; omega
      · have H1 := Lib.hid h
        have H2 := Lib.hid h'
        clear h h'
        have A0 := A.c0; have A1 := A.c1; have A2 := A.c2; have A3 := A.lt
        have D0 := D.c0; have D1 := D.c1; have D2 := D.c2; have D3 := D.lt
        go_wp2_with fail
        refine (K.out _ ?_).mono ?_
        · exact G
        rintro e w1 ⟨rfl, hb⟩
        clear A0 A1 A2 A3 D0 D1 D2 D3
        replace A := (A).on hb
        replace D := (D).on hb
        replace G := (G).on hb
        replace B := bnext B hb
        clear hb
        have A0 := A.c0; have A1 := A.c1; have A2 := A.c2; have A3 := A.lt
        have D0 := D.c0; have D1 := D.c1; have D2 := D.c2; have D3 := D.lt
        go_wp2_with fail
        refine (rRight_calls _ _ _ _).mono ?_
        rintro e w2 ⟨rfl, hb⟩
        rw [H1.out]
        clear A0 A1 A2 A3 D0 D1 D2 D3
        replace A := (A.alloc _).on hb
        replace D := (D.alloc _).on hb
        replace G := (G.alloc _).on hb
        have E := (C3.fresh w1 _ _ _ _).on hb
        replace B := bbox B hb
        clear hb
        have A0 := A.c0; have A1 := A.c1; have A2 := A.c2; have A3 := A.lt
        have D0 := D.c0; have D1 := D.c1; have D2 := D.c2; have D3 := D.lt
        have E0 := E.c0; have E1 := E.c1; have E2 := E.c2; have E3 := E.lt
        go_wp2_with fail
        refine (rRight_calls _ _ _ _).mono ?_
        rintro e w3 ⟨rfl, hb⟩
        rw [H2.out]
        clear A0 A1 A2 A3 D0 D1 D2 D3 E0 E1 E2 E3
        replace A := (A).on hb
        replace D := (D).on hb
        replace E := (E).on hb
        replace G := (G).on hb
        replace B := bnext B hb
        clear hb
        have A0 := A.c0; have A1 := A.c1; have A2 := A.c2; have A3 := A.lt
        have D0 := D.c0; have D1 := D.c1; have D2 := D.c2; have D3 := D.lt
        have E0 := E.c0; have E1 := E.c1; have E2 := E.c2; have E3 := E.lt
        go_wp2
        go_roundw
        case rel => exact ⟨k + 1, by omega, by omega, by go_num, A, D, G, B⟩
        case measure => simp [intOf]; omega
    · obtain rfl : k = 5 := by omega
      clear HK hh
      go_wp2_with fail
      refine (awake_calls _ G).mono ?_
      rintro e w1 ⟨rfl, hb⟩
      go_wp2
      go_ret
      exact ⟨rfl, bnext B hb⟩

theorem numberReckons_calls (v s : Int) (d : Bool) (v' s' : Int) (d' : Bool) (w : World) (hg : Good w) :
    Calls Tryd.prog 5 #[.agg #[.int .i64 v, .int .i64 s, .bool d], .agg #[.int .i64 v', .int .i64 s', .bool d']] w fun e w' => e = .returned (.bool true) ∧ Below w.heap.size w w' := by
  rcases right_two v s d v' s' d' with h | ⟨h, h'⟩
  · exact numberReckons_no v s d v' s' d' w hg h
  · have k := ((rightZ_iff _ _ _).1 h).2.1.1
    have k' := ((rightZ_iff _ _ _).1 h').2.1.1
    obtain ⟨s, rfl⟩ := Int.eq_ofNat_of_zero_le k
    obtain ⟨s', rfl⟩ := Int.eq_ofNat_of_zero_le k'
    exact numberReckons_yes v s d v' s' d' w hg h h'

end Go.Proofs.YtdoagbengfdcgaaDoor
