/- A number, as text and read, is as it was; a text that is read is the number's, but for needless signs and noughts: the walk of the statement's function. -/
import Derived.Test.YtdoagbengfdcgaaDoorNumHelp
import Derived.Test.YtdoagbengfdcgaaDoorNumBackPlain
namespace Go.Proofs.YtdoagbengfdcgaaDoor
open Go.RowKit

set_option maxRecDepth 100000 in
set_option maxHeartbeats 4000000 in
theorem numberBack_rr (v : Int) (c : Int) (d : Bool) (s : ByteArray) (dec : Bool) (w : World) (hg : Good w) (hs : s.size ≤ 200000000000000)
    (sa : ByteArray) (hT : ∀ W, Good W → Calls Tryd.prog 9 #[.agg #[.int .i64 v, .int .i64 c, .bool d]] W fun e w' => e = .returned (.tuple #[.string sa, .int .i64 0]) ∧ Below W.heap.size W w')
    (hRa : ∀ W, Good W → Calls Tryd.prog 16 #[.string sa, .bool d] W fun e w' => e = .returned (.tuple #[.agg #[.int .i64 v, .int .i64 c, .bool d], .int .i64 0]) ∧ Below W.heap.size W w')
    (y j : Int) (sb : ByteArray) (hsb : sb.size ≤ s.size + 2)
    (hRs : ∀ W, Good W → Calls Tryd.prog 16 #[.string s, .bool dec] W fun e w' => e = .returned (.tuple #[.agg #[.int .i64 y, .int .i64 j, .bool dec], .int .i64 0]) ∧ Below W.heap.size W w')
    (hTm : ∀ W, Good W → Calls Tryd.prog 9 #[.agg #[.int .i64 y, .int .i64 j, .bool dec]] W fun e w' => e = .returned (.tuple #[.string sb, .int .i64 0]) ∧ Below W.heap.size W w')
    (hRb : ∀ W, Good W → Calls Tryd.prog 16 #[.string sb, .bool dec] W fun e w' => e = .returned (.tuple #[.agg #[.int .i64 y, .int .i64 j, .bool dec], .int .i64 0]) ∧ Below W.heap.size W w') :
    Calls Tryd.prog 7 #[.agg #[.int .i64 v, .int .i64 c, .bool d], .string s, .bool dec] w fun e w' => e = .returned (.bool true) ∧ Below w.heap.size w w' := by
  have HT := Lib.hid hT
  have HRs := Lib.hid hRs
  have HRa := Lib.hid hRa
  have HTm := Lib.hid hTm
  have HRb := Lib.hid hRb
  have g0 : ¬ (s.size : Int) + 2 < (sb.size : Int) := by omega
  have A : C3 (w.alloc (.cells #[.int .i64 v, .int .i64 c, .bool d] 23)) w.heap.size (.int .i64 v) (.int .i64 c) (.bool d) := C3.fresh w _ _ _ _
  have B := box_below w (.cells #[.int .i64 v, .int .i64 c, .bool d] 23)
  have G := hg.alloc (.cells #[.int .i64 v, .int .i64 c, .bool d] 23)
  clear hT hRs hg hRa hTm hRb hsb
  go_enter Tryd.func7, Tryd.ntmps7
  have A0 := A.c0; have A1 := A.c1; have A2 := A.c2; have A3 := A.lt
  go_wp2_with fail
  refine (HT.out _ ?_).mono ?_
  · exact G
  rintro e w1 ⟨rfl, hb⟩
  clear A0 A1 A2 A3
  replace A := (A).on hb
  replace G := (G).on hb
  replace B := bnext B hb
  clear hb
  have A0 := A.c0; have A1 := A.c1; have A2 := A.c2; have A3 := A.lt
  go_wp2_with fail
  refine (HRa.out _ ?_).mono ?_
  · exact G
  rintro e w2 ⟨rfl, hb⟩
  clear A0 A1 A2 A3
  replace A := (A).on hb
  replace G := (G).on hb
  replace B := bnext B hb
  clear hb
  have A0 := A.c0; have A1 := A.c1; have A2 := A.c2; have A3 := A.lt
  go_wp2_with fail
  refine (HRs.out _ ?_).mono ?_
  · exact (G.alloc _)
  rintro e w3 ⟨rfl, hb⟩
  clear A0 A1 A2 A3
  replace A := (A.alloc _).on hb
  replace G := (G.alloc _).on hb
  have E := (C3.fresh w2 _ _ _ _).on hb
  replace B := bbox B hb
  clear hb
  have A0 := A.c0; have A1 := A.c1; have A2 := A.c2; have A3 := A.lt
  have E0 := E.c0; have E1 := E.c1; have E2 := E.c2; have E3 := E.lt
  go_wp2_with fail
  refine (HTm.out _ ?_).mono ?_
  · exact (G.alloc _)
  rintro e w4 ⟨rfl, hb⟩
  clear A0 A1 A2 A3 E0 E1 E2 E3
  replace A := (A.alloc _).on hb
  replace E := (E.alloc _).on hb
  replace G := (G.alloc _).on hb
  have F := (C3.fresh w3 _ _ _ _).on hb
  replace B := bbox B hb
  clear hb
  have A0 := A.c0; have A1 := A.c1; have A2 := A.c2; have A3 := A.lt
  have E0 := E.c0; have E1 := E.c1; have E2 := E.c2; have E3 := E.lt
  have F0 := F.c0; have F1 := F.c1; have F2 := F.c2; have F3 := F.lt
  go_wp2_with fail
  refine (HRb.out _ ?_).mono ?_
  · exact G
  rintro e w5 ⟨rfl, hb⟩
  clear A0 A1 A2 A3 E0 E1 E2 E3 F0 F1 F2 F3
  replace A := (A).on hb
  replace E := (E).on hb
  replace F := (F).on hb
  replace G := (G).on hb
  replace B := bnext B hb
  clear hb
  have A0 := A.c0; have A1 := A.c1; have A2 := A.c2; have A3 := A.lt
  have E0 := E.c0; have E1 := E.c1; have E2 := E.c2; have E3 := E.lt
  have F0 := F.c0; have F1 := F.c1; have F2 := F.c2; have F3 := F.lt
  go_wp2_with fail
  refine (awake_calls _ ?_).mono ?_
  · exact (G.alloc _)
  rintro e w6 ⟨rfl, hb⟩
  clear A0 A1 A2 A3 E0 E1 E2 E3 F0 F1 F2 F3
  replace A := (A.alloc _).on hb
  replace E := (E.alloc _).on hb
  replace F := (F.alloc _).on hb
  replace G := (G.alloc _).on hb
  have K := (C3.fresh w5 _ _ _ _).on hb
  replace B := bbox B hb
  clear hb
  have A0 := A.c0; have A1 := A.c1; have A2 := A.c2; have A3 := A.lt
  have E0 := E.c0; have E1 := E.c1; have E2 := E.c2; have E3 := E.lt
  have F0 := F.c0; have F1 := F.c1; have F2 := F.c2; have F3 := F.lt
  have K0 := K.c0; have K1 := K.c1; have K2 := K.c2; have K3 := K.lt
  go_wp2
  go_ret
  exact ⟨rfl, B⟩

set_option maxRecDepth 100000 in
set_option maxHeartbeats 4000000 in
theorem numberBack_rn (v : Int) (c : Int) (d : Bool) (s : ByteArray) (dec : Bool) (w : World) (hg : Good w) (_hs : s.size ≤ 200000000000000)
    (sa : ByteArray) (hT : ∀ W, Good W → Calls Tryd.prog 9 #[.agg #[.int .i64 v, .int .i64 c, .bool d]] W fun e w' => e = .returned (.tuple #[.string sa, .int .i64 0]) ∧ Below W.heap.size W w')
    (hRa : ∀ W, Good W → Calls Tryd.prog 16 #[.string sa, .bool d] W fun e w' => e = .returned (.tuple #[.agg #[.int .i64 v, .int .i64 c, .bool d], .int .i64 0]) ∧ Below W.heap.size W w')
    (hRs : ∀ W, Good W → Calls Tryd.prog 16 #[.string s, .bool dec] W fun e w' => e = .returned (.tuple #[.agg #[.int .i64 0, .int .i64 0, .bool false], .int .i64 2]) ∧ Below W.heap.size W w') :
    Calls Tryd.prog 7 #[.agg #[.int .i64 v, .int .i64 c, .bool d], .string s, .bool dec] w fun e w' => e = .returned (.bool true) ∧ Below w.heap.size w w' := by
  have HT := Lib.hid hT
  have HRs := Lib.hid hRs
  have HRa := Lib.hid hRa
  have A : C3 (w.alloc (.cells #[.int .i64 v, .int .i64 c, .bool d] 23)) w.heap.size (.int .i64 v) (.int .i64 c) (.bool d) := C3.fresh w _ _ _ _
  have B := box_below w (.cells #[.int .i64 v, .int .i64 c, .bool d] 23)
  have G := hg.alloc (.cells #[.int .i64 v, .int .i64 c, .bool d] 23)
  clear hT hRs hg hRa
  go_enter Tryd.func7, Tryd.ntmps7
  have A0 := A.c0; have A1 := A.c1; have A2 := A.c2; have A3 := A.lt
  go_wp2_with fail
  refine (HT.out _ ?_).mono ?_
  · exact G
  rintro e w1 ⟨rfl, hb⟩
  clear A0 A1 A2 A3
  replace A := (A).on hb
  replace G := (G).on hb
  replace B := bnext B hb
  clear hb
  have A0 := A.c0; have A1 := A.c1; have A2 := A.c2; have A3 := A.lt
  go_wp2_with fail
  refine (HRa.out _ ?_).mono ?_
  · exact G
  rintro e w2 ⟨rfl, hb⟩
  clear A0 A1 A2 A3
  replace A := (A).on hb
  replace G := (G).on hb
  replace B := bnext B hb
  clear hb
  have A0 := A.c0; have A1 := A.c1; have A2 := A.c2; have A3 := A.lt
  go_wp2_with fail
  refine (HRs.out _ ?_).mono ?_
  · exact (G.alloc _)
  rintro e w3 ⟨rfl, hb⟩
  clear A0 A1 A2 A3
  replace A := (A.alloc _).on hb
  replace G := (G.alloc _).on hb
  have E := (C3.fresh w2 _ _ _ _).on hb
  replace B := bbox B hb
  clear hb
  have A0 := A.c0; have A1 := A.c1; have A2 := A.c2; have A3 := A.lt
  have E0 := E.c0; have E1 := E.c1; have E2 := E.c2; have E3 := E.lt
  go_wp2_with fail
  refine (awake_calls _ ?_).mono ?_
  · exact (G.alloc _)
  rintro e w4 ⟨rfl, hb⟩
  clear A0 A1 A2 A3 E0 E1 E2 E3
  replace A := (A.alloc _).on hb
  replace E := (E.alloc _).on hb
  replace G := (G.alloc _).on hb
  have F := (C3.fresh w3 _ _ _ _).on hb
  replace B := bbox B hb
  clear hb
  have A0 := A.c0; have A1 := A.c1; have A2 := A.c2; have A3 := A.lt
  have E0 := E.c0; have E1 := E.c1; have E2 := E.c2; have E3 := E.lt
  have F0 := F.c0; have F1 := F.c1; have F2 := F.c2; have F3 := F.lt
  go_wp2
  go_ret
  exact ⟨rfl, B⟩

set_option maxRecDepth 100000 in
set_option maxHeartbeats 4000000 in
theorem numberBack_wr (v : Int) (c : Int) (d : Bool) (s : ByteArray) (dec : Bool) (w : World) (hg : Good w) (hs : s.size ≤ 200000000000000)
    (hT : ∀ W, Good W → Calls Tryd.prog 9 #[.agg #[.int .i64 v, .int .i64 c, .bool d]] W fun e w' => e = .returned (.tuple #[.string ⟨#[]⟩, .int .i64 2]) ∧ Below W.heap.size W w')
    (y j : Int) (sb : ByteArray) (hsb : sb.size ≤ s.size + 2)
    (hRs : ∀ W, Good W → Calls Tryd.prog 16 #[.string s, .bool dec] W fun e w' => e = .returned (.tuple #[.agg #[.int .i64 y, .int .i64 j, .bool dec], .int .i64 0]) ∧ Below W.heap.size W w')
    (hTm : ∀ W, Good W → Calls Tryd.prog 9 #[.agg #[.int .i64 y, .int .i64 j, .bool dec]] W fun e w' => e = .returned (.tuple #[.string sb, .int .i64 0]) ∧ Below W.heap.size W w')
    (hRb : ∀ W, Good W → Calls Tryd.prog 16 #[.string sb, .bool dec] W fun e w' => e = .returned (.tuple #[.agg #[.int .i64 y, .int .i64 j, .bool dec], .int .i64 0]) ∧ Below W.heap.size W w') :
    Calls Tryd.prog 7 #[.agg #[.int .i64 v, .int .i64 c, .bool d], .string s, .bool dec] w fun e w' => e = .returned (.bool true) ∧ Below w.heap.size w w' := by
  have HT := Lib.hid hT
  have HRs := Lib.hid hRs
  have HTm := Lib.hid hTm
  have HRb := Lib.hid hRb
  have g0 : ¬ (s.size : Int) + 2 < (sb.size : Int) := by omega
  have A : C3 (w.alloc (.cells #[.int .i64 v, .int .i64 c, .bool d] 23)) w.heap.size (.int .i64 v) (.int .i64 c) (.bool d) := C3.fresh w _ _ _ _
  have B := box_below w (.cells #[.int .i64 v, .int .i64 c, .bool d] 23)
  have G := hg.alloc (.cells #[.int .i64 v, .int .i64 c, .bool d] 23)
  clear hT hRs hg hTm hRb hsb
  go_enter Tryd.func7, Tryd.ntmps7
  have A0 := A.c0; have A1 := A.c1; have A2 := A.c2; have A3 := A.lt
  go_wp2_with fail
  refine (HT.out _ ?_).mono ?_
  · exact G
  rintro e w1 ⟨rfl, hb⟩
  clear A0 A1 A2 A3
  replace A := (A).on hb
  replace G := (G).on hb
  replace B := bnext B hb
  clear hb
  have A0 := A.c0; have A1 := A.c1; have A2 := A.c2; have A3 := A.lt
  go_wp2_with fail
  refine (HRs.out _ ?_).mono ?_
  · exact G
  rintro e w2 ⟨rfl, hb⟩
  clear A0 A1 A2 A3
  replace A := (A).on hb
  replace G := (G).on hb
  replace B := bnext B hb
  clear hb
  have A0 := A.c0; have A1 := A.c1; have A2 := A.c2; have A3 := A.lt
  go_wp2_with fail
  refine (HTm.out _ ?_).mono ?_
  · exact (G.alloc _)
  rintro e w3 ⟨rfl, hb⟩
  clear A0 A1 A2 A3
  replace A := (A.alloc _).on hb
  replace G := (G.alloc _).on hb
  have F := (C3.fresh w2 _ _ _ _).on hb
  replace B := bbox B hb
  clear hb
  have A0 := A.c0; have A1 := A.c1; have A2 := A.c2; have A3 := A.lt
  have F0 := F.c0; have F1 := F.c1; have F2 := F.c2; have F3 := F.lt
  go_wp2_with fail
  refine (HRb.out _ ?_).mono ?_
  · exact G
  rintro e w4 ⟨rfl, hb⟩
  clear A0 A1 A2 A3 F0 F1 F2 F3
  replace A := (A).on hb
  replace F := (F).on hb
  replace G := (G).on hb
  replace B := bnext B hb
  clear hb
  have A0 := A.c0; have A1 := A.c1; have A2 := A.c2; have A3 := A.lt
  have F0 := F.c0; have F1 := F.c1; have F2 := F.c2; have F3 := F.lt
  go_wp2_with fail
  refine (awake_calls _ ?_).mono ?_
  · exact (G.alloc _)
  rintro e w5 ⟨rfl, hb⟩
  clear A0 A1 A2 A3 F0 F1 F2 F3
  replace A := (A.alloc _).on hb
  replace F := (F.alloc _).on hb
  replace G := (G.alloc _).on hb
  have K := (C3.fresh w4 _ _ _ _).on hb
  replace B := bbox B hb
  clear hb
  have A0 := A.c0; have A1 := A.c1; have A2 := A.c2; have A3 := A.lt
  have F0 := F.c0; have F1 := F.c1; have F2 := F.c2; have F3 := F.lt
  have K0 := K.c0; have K1 := K.c1; have K2 := K.c2; have K3 := K.lt
  go_wp2
  go_ret
  exact ⟨rfl, B⟩

set_option maxRecDepth 100000 in
set_option maxHeartbeats 4000000 in
theorem numberBack_wn (v : Int) (c : Int) (d : Bool) (s : ByteArray) (dec : Bool) (w : World) (hg : Good w) (_hs : s.size ≤ 200000000000000)
    (hT : ∀ W, Good W → Calls Tryd.prog 9 #[.agg #[.int .i64 v, .int .i64 c, .bool d]] W fun e w' => e = .returned (.tuple #[.string ⟨#[]⟩, .int .i64 2]) ∧ Below W.heap.size W w')
    (hRs : ∀ W, Good W → Calls Tryd.prog 16 #[.string s, .bool dec] W fun e w' => e = .returned (.tuple #[.agg #[.int .i64 0, .int .i64 0, .bool false], .int .i64 2]) ∧ Below W.heap.size W w') :
    Calls Tryd.prog 7 #[.agg #[.int .i64 v, .int .i64 c, .bool d], .string s, .bool dec] w fun e w' => e = .returned (.bool true) ∧ Below w.heap.size w w' := by
  have HT := Lib.hid hT
  have HRs := Lib.hid hRs
  have A : C3 (w.alloc (.cells #[.int .i64 v, .int .i64 c, .bool d] 23)) w.heap.size (.int .i64 v) (.int .i64 c) (.bool d) := C3.fresh w _ _ _ _
  have B := box_below w (.cells #[.int .i64 v, .int .i64 c, .bool d] 23)
  have G := hg.alloc (.cells #[.int .i64 v, .int .i64 c, .bool d] 23)
  clear hT hRs hg
  go_enter Tryd.func7, Tryd.ntmps7
  have A0 := A.c0; have A1 := A.c1; have A2 := A.c2; have A3 := A.lt
  go_wp2_with fail
  refine (HT.out _ ?_).mono ?_
  · exact G
  rintro e w1 ⟨rfl, hb⟩
  clear A0 A1 A2 A3
  replace A := (A).on hb
  replace G := (G).on hb
  replace B := bnext B hb
  clear hb
  have A0 := A.c0; have A1 := A.c1; have A2 := A.c2; have A3 := A.lt
  go_wp2_with fail
  refine (HRs.out _ ?_).mono ?_
  · exact G
  rintro e w2 ⟨rfl, hb⟩
  clear A0 A1 A2 A3
  replace A := (A).on hb
  replace G := (G).on hb
  replace B := bnext B hb
  clear hb
  have A0 := A.c0; have A1 := A.c1; have A2 := A.c2; have A3 := A.lt
  go_wp2_with fail
  refine (awake_calls _ ?_).mono ?_
  · exact (G.alloc _)
  rintro e w3 ⟨rfl, hb⟩
  clear A0 A1 A2 A3
  replace A := (A.alloc _).on hb
  replace G := (G.alloc _).on hb
  have F := (C3.fresh w2 _ _ _ _).on hb
  replace B := bbox B hb
  clear hb
  have A0 := A.c0; have A1 := A.c1; have A2 := A.c2; have A3 := A.lt
  have F0 := F.c0; have F1 := F.c1; have F2 := F.c2; have F3 := F.lt
  go_wp2
  go_ret
  exact ⟨rfl, B⟩

theorem numberBack_calls (v c : Int) (d : Bool) (s : ByteArray) (dec : Bool) (w : World) (hg : Good w) (hs : s.size ≤ 200000000000000) :
    Calls Tryd.prog 7 #[.agg #[.int .i64 v, .int .i64 c, .bool d], .string s, .bool dec] w fun e w' => e = .returned (.bool true) ∧ Below w.heap.size w w' := by
  have hRd : ∀ (x : ByteArray) (b : Bool), x.size ≤ 300000000000000 → ∀ W, Good W → Calls Tryd.prog 16 #[.string x, .bool b] W fun e w' => e = .returned (readRet (readL x.data.toList b)) ∧ Below W.heap.size W w' := fun x b hx W hW => Read_calls x b W hW (by unfold maxLen; omega)
  have hTx : ∀ (y : Int) (j : Nat) (b : Bool), rightZ y j b = true → ∀ W, Good W → Calls Tryd.prog 9 #[.agg #[.int .i64 y, .int .i64 j, .bool b]] W fun e w' => e = .returned (.tuple #[.string (bs (textL y j b)), .int .i64 0]) ∧ Below W.heap.size W w' := fun y j b hr W hW => by
    obtain ⟨⟨p1, p2⟩, ⟨p3, p4⟩, _⟩ := (rightZ_iff _ _ _).1 hr
    exact Text_right y j b W hW hr (by omega) p1 p2
  have hRt : ∀ (y : Int) (j : Nat) (b : Bool), rightZ y j b = true → ∀ W, Good W → Calls Tryd.prog 16 #[.string (bs (textL y j b)), .bool b] W fun e w' => e = .returned (.tuple #[.agg #[.int .i64 y, .int .i64 j, .bool b], .int .i64 0]) ∧ Below W.heap.size W w' := fun y j b hr W hW => by
    obtain ⟨⟨p1, p2⟩, ⟨p3, p4⟩, _⟩ := (rightZ_iff _ _ _).1 hr
    have := hRd (bs (textL y j b)) b (by
      have h1 := decimal_size y.natAbs j (by omega) (by omega)
      have h2 := dec_size9 y.natAbs (by omega)
      rw [bs_size] at h1 h2 ⊢
      unfold textL
      rw [List.length_append]
      have h3 : (if y < 0 then [45] else ([] : List UInt8)).length ≤ 1 := by split <;> simp
      cases b <;> simp <;> omega) W hW
    rw [bs_data, read_text hr] at this
    exact this
  have hno : (readL s.data.toList dec).2 = false → ∀ W, Good W → Calls Tryd.prog 16 #[.string s, .bool dec] W fun e w' => e = .returned (.tuple #[.agg #[.int .i64 0, .int .i64 0, .bool false], .int .i64 2]) ∧ Below W.heap.size W w' := fun h W hW => by
    have := hRd s dec (by omega) W hW
    have e : readL s.data.toList dec = (noNum, false) := readB_none h
    rw [e] at this
    exact this
  cases hp : (readL s.data.toList dec).2 with
  | true =>
    obtain ⟨y, j, e, hrj, hlen⟩ := read_right hp
    have hRs : ∀ W, Good W → Calls Tryd.prog 16 #[.string s, .bool dec] W fun e w' => e = .returned (.tuple #[.agg #[.int .i64 y, .int .i64 j, .bool dec], .int .i64 0]) ∧ Below W.heap.size W w' := fun W hW => by
      have := hRd s dec (by omega) W hW
      rw [e] at this
      exact this
    have hsb : (bs (textL y j dec)).size ≤ s.size + 2 := by rw [bs_size, Lib.size_eq]; exact hlen
    cases hr : rightZ v c d with
    | true =>
      obtain ⟨k, rfl⟩ := Int.eq_ofNat_of_zero_le ((rightZ_iff _ _ _).1 hr).2.1.1
      exact numberBack_rr v k d s dec w hg hs _ (hTx v k d hr) (hRt v k d hr) y j _ hsb hRs (hTx y j dec hrj) (hRt y j dec hrj)
    | false => exact numberBack_wr v c d s dec w hg hs (fun W _ => Text_wrong v c d W hr) y j _ hsb hRs (hTx y j dec hrj) (hRt y j dec hrj)
  | false =>
    cases hr : rightZ v c d with
    | true =>
      obtain ⟨k, rfl⟩ := Int.eq_ofNat_of_zero_le ((rightZ_iff _ _ _).1 hr).2.1.1
      exact numberBack_rn v k d s dec w hg hs _ (hTx v k d hr) (hRt v k d hr) (hno hp)
    | false => exact numberBack_wn v c d s dec w hg hs (fun W _ => Text_wrong v c d W hr) (hno hp)

end Go.Proofs.YtdoagbengfdcgaaDoor
