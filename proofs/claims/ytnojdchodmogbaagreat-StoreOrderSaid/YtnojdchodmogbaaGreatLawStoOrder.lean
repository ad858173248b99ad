/- The law StoreOrder: it is true of any triples and any number. -/
import Derived.Test.YtnojdchodmogbaaGreatStoLawPlain
import Derived.Test.YtnojdchodmogbaaGreatStoRows
import Derived.Test.YtnojdchodmogbaaGreatRefPuts
import Derived.Test.YtnojdchodmogbaaGreatRefSame
import Derived.Test.YtnojdchodmogbaaGreatStoAwake
import Derived.Laws.Bits64
namespace Go.Proofs.YtnojdchodmogbaaGreat
open Go.RowKit

/- the first ones of a slice that is an argument -/
theorem arg_cut {w : World} {a : Option Addr} {n c : Nat} {L : List TripL} {m : Nat} (h : ArgT w (.slice a n c) L) (hm : m ≤ n) : ArgT w (.slice a m c) (L.take m) := by
  obtain ⟨a', c', he, hf⟩ := h
  injection he with e1 e2 e3
  subst e1; subst e3; subst e2
  have hl : (L.take m).length = m := by rw [List.length_take]; omega
  refine ⟨a, c, by rw [hl], fun h0 => ?_⟩
  obtain ⟨g, o, h1, h2, h3⟩ := hf (by omega)
  refine ⟨g, o, h1, h2, fun j hj => ?_⟩
  rw [List.getElem_take]
  exact h3 j (by omega)
theorem arg_open {w : World} {a : Option Addr} {n c : Nat} {L : List TripL} (h : ArgT w (.slice a n c) L) : L.length = n ∧ (0 < n → ∃ g o, a = some ⟨g, o, none⟩ ∧ g < w.heap.size ∧ ∀ j (h : j < L.length), CellsAt w g (o + j * 12) L[j]) := by
  obtain ⟨a', c', he, hf⟩ := h
  injection he with e1 e2 e3
  subst e1; subst e2
  exact ⟨rfl, hf⟩
theorem turn_by (x : Int) (N : Nat) (h : 0 < N) : ∃ r : Nat, r < N ∧ (IntKind.u64.wrap x).tmod (N : Int) = (r : Int) := by
  rw [IntKind.wrap_u64]
  have h1 : 0 ≤ x % 18446744073709551616 := Int.emod_nonneg _ (by omega)
  rw [Int.tmod_eq_emod_of_nonneg h1]
  have h2 := Int.emod_nonneg (x % 18446744073709551616) (show (N : Int) ≠ 0 by omega)
  have h3 := Int.emod_lt_of_pos (x % 18446744073709551616) (show (0 : Int) < (N : Int) by omega)
  exact ⟨(x % 18446744073709551616 % (N : Int)).toNat, by omega, by omega⟩

theorem wrap_one (r : Nat) (h : r < 1000) : wrap64 (r : Int) = (r : Int) := by unfold wrap64; omega
theorem wrap_two (k r : Nat) (hk : k < 1000) (h : r < 1000) : wrap64 ((k : Int) + (r : Int)) = (k : Int) + (r : Int) := by unfold wrap64; omega
theorem tmod_at (k r N j : Nat) (hj : (k + r) % N = j) : ((k : Int) + (r : Int)).tmod (N : Int) = (j : Int) := by
  rw [Int.tmod_eq_emod_of_nonneg (by omega), ← hj]; exact (Int.natCast_emod _ _).symm
theorem emod_at (k r N j : Nat) (hj : (k + r) % N = j) : ((k : Int) + (r : Int)) % (N : Int) = (j : Int) := by
  rw [← hj]; exact (Int.natCast_emod _ _).symm

/- what the rounds keep -/
def TurnR (w : World) (L : List TripL) (r N : Nat) (v i : Value) (wr : World) : Prop :=
  ∃ k : Nat, k ≤ N ∧ i = .int .i64 k ∧ Own wr w.heap.size v (turnL L r k) ∧ Below w.heap.size w wr

set_option maxRecDepth 100000 in
set_option maxHeartbeats 8000000 in
theorem storeOrder_short (L : List TripL) (fa : Option Addr) (fc : Nat) (x : Int) (w : World) (N : Nat) (h60 : N ≤ 60) (hv : ArgT w (.slice fa N fc) L) (hok : ∀ t ∈ L, t.ok) :
    Calls Tryz.prog 6 #[.slice fa N fc, .int .i64 x] w fun e w' => e = .returned (.bool true) ∧ Below w.heap.size w w' := by
  have hmadeL := Lib.hid (fun (W : World) (h : ArgT W (.slice fa N fc) L) => made_calls L (.slice fa N fc) W h hok)
  obtain ⟨hN, hf⟩ := arg_open hv
  have HV := Lib.hid hv
  have HF := Lib.hid hf
  have HN := Lib.hid hN
  obtain ⟨r, hr⟩ : ∃ r : Nat, 0 < N → r < N ∧ (IntKind.u64.wrap x).tmod (N : Int) = (r : Int) := by
    by_cases h : 0 < N
    · obtain ⟨r, h1, h2⟩ := turn_by x N h
      exact ⟨r, fun _ => ⟨h1, h2⟩⟩
    · exact ⟨0, fun c => absurd c h⟩
  have HR := Lib.hid hr
  have hLt : turnL L r 0 = [] := rfl
  have htok := Lib.hid (show ∀ t ∈ turnL L r N, t.ok from fun t ht => by
    by_cases h : 0 < N
    · rw [← hN] at ht hr h
      exact hok t ((mem_turnL L r (hr h).1 t).1 ht)
    · rw [show N = 0 by omega, hLt] at ht
      exact absurd ht List.not_mem_nil)
  have heq := Lib.hid (show madeL (turnL L r N) = madeL L by
    by_cases h : 0 < N
    · rw [← hN] at hr h
      rw [← hN]
      exact made_turn L r (hr h).1 (by omega)
    · have h0 : L = [] := List.eq_nil_of_length_eq_zero (by omega)
      rw [show N = 0 by omega, hLt, h0])
  have hmadeT := Lib.hid (fun (v : Value) (W : World) (h : ArgT W v (turnL L r N)) => made_calls (turnL L r N) v W h htok.out)
  have hml := Lib.hid (madeL_length L)
  obtain ⟨R, hRe⟩ : ∃ R, madeL L = R := ⟨_, rfl⟩
  have HRE := Lib.hid hRe
  rw [hRe] at hml
  have HE2 := Lib.hid (show madeL (turnL L r N) = R by rw [← hRe]; exact heq.out)
  have hst := Lib.hid (show Own (w.alloc (.cells #[] 29)) w.heap.size (.slice (some ⟨w.heap.size, 0, none⟩) 0 0) [] from ⟨rfl, .inr ⟨w.heap.size, 0, #[], rfl, Nat.le_refl _, blk_new _ _ _, Nat.le_refl _, Nat.zero_le _, rfl, rfl⟩⟩)
  obtain ⟨i0, hi, hz0, hz1, hz2⟩ := info_parts info_triple
  clear hv hf hN hr hok hRe heq hLt
  have g0 : ¬ (60 : Int) < (N : Int) := by omega
  go_enter Tryz.func6, Tryz.ntmps6
  go_wp2
  go_loopw [5, 6] (fun v i wr => TurnR w L r N v i wr) (fun _ i _ => N - (intOf i).toNat)
  case atStart => exact ⟨0, Nat.zero_le _, rfl, hst.out, box_below _ _⟩
  case round =>
    obtain ⟨k, hk, rfl, hown, hbw⟩ := hrel
    have g1 : (0 : Int) ≤ (k : Int) := by omega
    have HOWN := Lib.hid hown
    have HBW := Lib.hid hbw
    clear hown hbw
    by_cases hlt : k < N
    · have g2 : (k : Int) < (N : Int) := by omega
      have g3 : ¬ (N : Int) = 0 := by omega
      have hrN := (HR.out (by omega)).1
      have hkN : k < 1000 := by omega
      have hrK : r < 1000 := by omega
      obtain ⟨g, o, rfl, hg, hrow⟩ := HF.out (by omega)
      obtain ⟨j, hj⟩ : ∃ j, (k + r) % N = j := ⟨_, rfl⟩
      have hjN : j < N := by rw [← hj]; exact Nat.mod_lt _ (by omega)
      have e2 := wrap_one r hrK
      have e3 := wrap_two k r hkN hrK
      have e4 := tmod_at k r N j hj
      have e4b := emod_at k r N j hj
      have g4 : (0 : Int) ≤ (j : Int) := by omega
      have g5 : (j : Int) < (N : Int) := by omega
      have hjL : j < L.length := by rw [HN.out]; exact hjN
      have hgr : g < wr.heap.size := Nat.lt_of_lt_of_le hg HBW.out.size
      have HM := Lib.hid (show turnL L r (k + 1) = turnL L r k ++ [L[j]] by
        rw [turnL_more, HN.out, hj, List.getD_eq_getElem?_getD, List.getElem?_eq_getElem hjL]; rfl)
      have cm := Lib.hid (cellsAt_on (hrow j hjL) HBW.out hg)
      have hkl := Lib.hid (turnL_length L r k)
      clear hrow hj hrN
      generalize L[j] = y at HM cm
      obtain ⟨F, hF⟩ : ∃ F, turnL L r k = F := ⟨_, rfl⟩
      rw [hF] at HOWN HM hkl
      clear hF
      obtain ⟨⟨c0, c1, c2, c3⟩, ⟨c4, c5, c6, c7⟩, ⟨c8, c9, c10, c11⟩⟩ := cm.out
      have er := (HR.out (by omega)).2
      go_wp2_with (at_builtin; go_must (clear er e2 e3 e4 e4b; refine wpList_append_own_at _ rfl (.tmp 23) (.tmp 39) 25 rfl w.heap.size 29 i0 noTrip.v 12 168 Tryz.underlying25 hi hz0 hz1 hz2 rfl (by decide) _ _ _ rfl (HOWN.out.alloc _) ⟨wr.heap.size, 0, none⟩ 1 1 [.int .i64 y.s.k, .string (bs y.s.x), .string (bs y.s.y), .string (bs y.s.z), .int .i64 y.p.k, .string (bs y.p.x), .string (bs y.p.y), .string (bs y.p.z), .int .i64 y.o.k, .string (bs y.o.x), .string (bs y.o.y), .string (bs y.o.z)] rfl rfl (news12b _ _ _ _ _ _ _ _ _ _ _ _ _ _ rfl) (by intro u hu; simp at hu; rcases hu with rfl | rfl | rfl | rfl | rfl | rfl | rfl | rfl | rfl | rfl | rfl | rfl <;> rfl) (by have := hkl.out; unfold maxLen; omega) (by have := hkl.out; omega) (by have := HBW.out.size; simp; omega) ?_; intro v4 w4 hO4 hG4 hN4 hA4; have HO4 := Lib.hid hO4; clear hO4 hN4; have HG4 := Lib.hid hG4; clear hG4; clear hA4))
      have HP4 := Lib.hid (own_push HO4.out)
      have HB4 := Lib.hid ((HBW.out.alloc HBW.out.size _).grown HG4.out (by have := HBW.out.size; simp; omega) (fun z hz => own_blk HOWN.out z hz))
      clear HO4 HG4 c0 c1 c2 c3 c4 c5 c6 c7 c8 c9 c10 c11
      go_wp2
      go_roundw
      case rel => exact ⟨k + 1, by omega, by go_num, by rw [HM.out]; exact HP4.out, by first | exact HB4.out | exact HB4.out.drew⟩
      case measure => simp [intOf]; omega
    · have g2 : ¬ ((k : Int) < (N : Int)) := by omega
      obtain rfl : k = N := by omega
      clear HF HR
      go_wp2_with fail
      refine (hmadeL.out _ (HV.out.on HBW.out)).mono ?_
      rintro e w1 ⟨b, v', rfl, v0, v1, v2, l1, l2, hs, _, _, hb1⟩
      rw [HRE.out] at hs
      have HS1 := Lib.hid hs
      have HB1 := Lib.hid (first_below HBW.out hb1)
      have HO1 := Lib.hid (own_on HOWN.out hb1 (Nat.le_refl _))
      clear hs hb1 HOWN HBW
      go_wp2_with fail
      refine (hmadeT.out _ _ (arg_of (reads_of HO1.out))).mono ?_
      rintro e w2 ⟨b', v'', rfl, u0, u1, u2, m1, m2, ht, _, _, hb2⟩
      rw [HE2.out] at ht
      have HT2 := Lib.hid ht
      have HS2 := Lib.hid (sto_on HS1.out hb2 (Nat.le_refl _))
      have HB2 := Lib.hid (first_below HB1.out hb2)
      clear ht hb2 HS1 HB1 HO1
      go_wp2_with fail
      refine (all_calls _ b v0 v1 v2 R l1 l2 _ HS2.out).mono ?_
      rintro e w3 ⟨va, rfl, howna, hb3⟩
      have HT3 := Lib.hid (sto_on HT2.out hb3 (Nat.le_refl _))
      have HA3 := Lib.hid howna
      have HB3 := Lib.hid (first_below HB2.out hb3)
      clear howna hb3 HS2 HT2 HB2
      go_wp2_with fail
      refine (all_calls _ b' u0 u1 u2 R m1 m2 _ HT3.out).mono ?_
      rintro e w4 ⟨vb, rfl, hownb, hb4⟩
      have HA4 := Lib.hid (own_on HA3.out hb4 (Nat.le_refl _))
      have HC4 := Lib.hid hownb
      have HB4 := Lib.hid (first_below HB3.out hb4)
      clear hownb hb4 HT3 HB3 HA3
      go_wp2_with fail
      refine (Same_calls R va vb _ (by have := hml.out; omega) (reads_of HA4.out) (reads_of HC4.out)).mono ?_
      rintro e w5 ⟨rfl, n, hw5⟩
      have HB5 := Lib.hid (show Below w.heap.size w w5 by rw [hw5]; exact drewN_below HB4.out n)
      clear hw5 HB4 HA4 HC4
      go_wp2_with fail
      refine (awake_calls _).mono ?_
      rintro e w6 ⟨rfl, hb6⟩
      have HB6 := Lib.hid (first_below HB5.out hb6)
      clear hb6
      go_wp2
      go_ret
      exact ⟨rfl, by first | exact HB6.out | exact HB6.out.drew⟩

set_option maxRecDepth 100000 in
set_option maxHeartbeats 8000000 in
theorem storeOrder_long (L : List TripL) (fa : Option Addr) (fc : Nat) (x : Int) (w : World) (N0 N : Nat) (h6 : N = 60) (h0 : N < N0) (hcap : N0 ≤ fc) (hv : ArgT w (.slice fa N fc) L) (hok : ∀ t ∈ L, t.ok) :
    Calls Tryz.prog 6 #[.slice fa N0 fc, .int .i64 x] w fun e w' => e = .returned (.bool true) ∧ Below w.heap.size w w' := by
  have h60 : N ≤ 60 := by omega
  have g0 : (60 : Int) < (N0 : Int) := by omega
  have g00 : 60 ≤ fc := by omega
  have g01 : (60 : Int) ≤ (fc : Int) := by omega
  have e60 := Lib.hid (show (Value.slice fa 60 fc) = .slice fa N fc by rw [h6])
  clear h6 h0 hcap
  have hmadeL := Lib.hid (fun (W : World) (h : ArgT W (.slice fa N fc) L) => made_calls L (.slice fa N fc) W h hok)
  obtain ⟨hN, hf⟩ := arg_open hv
  have HV := Lib.hid hv
  have HF := Lib.hid hf
  have HN := Lib.hid hN
  obtain ⟨r, hr⟩ : ∃ r : Nat, 0 < N → r < N ∧ (IntKind.u64.wrap x).tmod (N : Int) = (r : Int) := by
    by_cases h : 0 < N
    · obtain ⟨r, h1, h2⟩ := turn_by x N h
      exact ⟨r, fun _ => ⟨h1, h2⟩⟩
    · exact ⟨0, fun c => absurd c h⟩
  have HR := Lib.hid hr
  have hLt : turnL L r 0 = [] := rfl
  have htok := Lib.hid (show ∀ t ∈ turnL L r N, t.ok from fun t ht => by
    by_cases h : 0 < N
    · rw [← hN] at ht hr h
      exact hok t ((mem_turnL L r (hr h).1 t).1 ht)
    · rw [show N = 0 by omega, hLt] at ht
      exact absurd ht List.not_mem_nil)
  have heq := Lib.hid (show madeL (turnL L r N) = madeL L by
    by_cases h : 0 < N
    · rw [← hN] at hr h
      rw [← hN]
      exact made_turn L r (hr h).1 (by omega)
    · have h0 : L = [] := List.eq_nil_of_length_eq_zero (by omega)
      rw [show N = 0 by omega, hLt, h0])
  have hmadeT := Lib.hid (fun (v : Value) (W : World) (h : ArgT W v (turnL L r N)) => made_calls (turnL L r N) v W h htok.out)
  have hml := Lib.hid (madeL_length L)
  obtain ⟨R, hRe⟩ : ∃ R, madeL L = R := ⟨_, rfl⟩
  have HRE := Lib.hid hRe
  rw [hRe] at hml
  have HE2 := Lib.hid (show madeL (turnL L r N) = R by rw [← hRe]; exact heq.out)
  have hst := Lib.hid (show Own (w.alloc (.cells #[] 29)) w.heap.size (.slice (some ⟨w.heap.size, 0, none⟩) 0 0) [] from ⟨rfl, .inr ⟨w.heap.size, 0, #[], rfl, Nat.le_refl _, blk_new _ _ _, Nat.le_refl _, Nat.zero_le _, rfl, rfl⟩⟩)
  obtain ⟨i0, hi, hz0, hz1, hz2⟩ := info_parts info_triple
  clear hv hf hN hr hok hRe heq hLt
  go_enter Tryz.func6, Tryz.ntmps6
  go_wp2
  rw [e60.out]
  clear e60 g0 g00 g01
  go_loopw [5, 6] (fun v i wr => TurnR w L r N v i wr) (fun _ i _ => N - (intOf i).toNat)
  case atStart => exact ⟨0, Nat.zero_le _, rfl, hst.out, box_below _ _⟩
  case round =>
    obtain ⟨k, hk, rfl, hown, hbw⟩ := hrel
    have g1 : (0 : Int) ≤ (k : Int) := by omega
    have HOWN := Lib.hid hown
    have HBW := Lib.hid hbw
    clear hown hbw
    by_cases hlt : k < N
    · have g2 : (k : Int) < (N : Int) := by omega
      have g3 : ¬ (N : Int) = 0 := by omega
      have hrN := (HR.out (by omega)).1
      have hkN : k < 1000 := by omega
      have hrK : r < 1000 := by omega
      obtain ⟨g, o, rfl, hg, hrow⟩ := HF.out (by omega)
      obtain ⟨j, hj⟩ : ∃ j, (k + r) % N = j := ⟨_, rfl⟩
      have hjN : j < N := by rw [← hj]; exact Nat.mod_lt _ (by omega)
      have e2 := wrap_one r hrK
      have e3 := wrap_two k r hkN hrK
      have e4 := tmod_at k r N j hj
      have e4b := emod_at k r N j hj
      have g4 : (0 : Int) ≤ (j : Int) := by omega
      have g5 : (j : Int) < (N : Int) := by omega
      have hjL : j < L.length := by rw [HN.out]; exact hjN
      have hgr : g < wr.heap.size := Nat.lt_of_lt_of_le hg HBW.out.size
      have HM := Lib.hid (show turnL L r (k + 1) = turnL L r k ++ [L[j]] by
        rw [turnL_more, HN.out, hj, List.getD_eq_getElem?_getD, List.getElem?_eq_getElem hjL]; rfl)
      have cm := Lib.hid (cellsAt_on (hrow j hjL) HBW.out hg)
      have hkl := Lib.hid (turnL_length L r k)
      clear hrow hj hrN
      generalize L[j] = y at HM cm
      obtain ⟨F, hF⟩ : ∃ F, turnL L r k = F := ⟨_, rfl⟩
      rw [hF] at HOWN HM hkl
      clear hF
      obtain ⟨⟨c0, c1, c2, c3⟩, ⟨c4, c5, c6, c7⟩, ⟨c8, c9, c10, c11⟩⟩ := cm.out
      have er := (HR.out (by omega)).2
      go_wp2_with (at_builtin; go_must (clear er e2 e3 e4 e4b; refine wpList_append_own_at _ rfl (.tmp 23) (.tmp 39) 25 rfl w.heap.size 29 i0 noTrip.v 12 168 Tryz.underlying25 hi hz0 hz1 hz2 rfl (by decide) _ _ _ rfl (HOWN.out.alloc _) ⟨wr.heap.size, 0, none⟩ 1 1 [.int .i64 y.s.k, .string (bs y.s.x), .string (bs y.s.y), .string (bs y.s.z), .int .i64 y.p.k, .string (bs y.p.x), .string (bs y.p.y), .string (bs y.p.z), .int .i64 y.o.k, .string (bs y.o.x), .string (bs y.o.y), .string (bs y.o.z)] rfl rfl (news12b _ _ _ _ _ _ _ _ _ _ _ _ _ _ rfl) (by intro u hu; simp at hu; rcases hu with rfl | rfl | rfl | rfl | rfl | rfl | rfl | rfl | rfl | rfl | rfl | rfl <;> rfl) (by have := hkl.out; unfold maxLen; omega) (by have := hkl.out; omega) (by have := HBW.out.size; simp; omega) ?_; intro v4 w4 hO4 hG4 hN4 hA4; have HO4 := Lib.hid hO4; clear hO4 hN4; have HG4 := Lib.hid hG4; clear hG4; clear hA4))
      have HP4 := Lib.hid (own_push HO4.out)
      have HB4 := Lib.hid ((HBW.out.alloc HBW.out.size _).grown HG4.out (by have := HBW.out.size; simp; omega) (fun z hz => own_blk HOWN.out z hz))
      clear HO4 HG4 c0 c1 c2 c3 c4 c5 c6 c7 c8 c9 c10 c11
      go_wp2
      go_roundw
      case rel => exact ⟨k + 1, by omega, by go_num, by rw [HM.out]; exact HP4.out, by first | exact HB4.out | exact HB4.out.drew⟩
      case measure => simp [intOf]; omega
    · have g2 : ¬ ((k : Int) < (N : Int)) := by omega
      obtain rfl : k = N := by omega
      clear HF HR
      go_wp2_with fail
      refine (hmadeL.out _ (HV.out.on HBW.out)).mono ?_
      rintro e w1 ⟨b, v', rfl, v0, v1, v2, l1, l2, hs, _, _, hb1⟩
      rw [HRE.out] at hs
      have HS1 := Lib.hid hs
      have HB1 := Lib.hid (first_below HBW.out hb1)
      have HO1 := Lib.hid (own_on HOWN.out hb1 (Nat.le_refl _))
      clear hs hb1 HOWN HBW
      go_wp2_with fail
      refine (hmadeT.out _ _ (arg_of (reads_of HO1.out))).mono ?_
      rintro e w2 ⟨b', v'', rfl, u0, u1, u2, m1, m2, ht, _, _, hb2⟩
      rw [HE2.out] at ht
      have HT2 := Lib.hid ht
      have HS2 := Lib.hid (sto_on HS1.out hb2 (Nat.le_refl _))
      have HB2 := Lib.hid (first_below HB1.out hb2)
      clear ht hb2 HS1 HB1 HO1
      go_wp2_with fail
      refine (all_calls _ b v0 v1 v2 R l1 l2 _ HS2.out).mono ?_
      rintro e w3 ⟨va, rfl, howna, hb3⟩
      have HT3 := Lib.hid (sto_on HT2.out hb3 (Nat.le_refl _))
      have HA3 := Lib.hid howna
      have HB3 := Lib.hid (first_below HB2.out hb3)
      clear howna hb3 HS2 HT2 HB2
      go_wp2_with fail
      refine (all_calls _ b' u0 u1 u2 R m1 m2 _ HT3.out).mono ?_
      rintro e w4 ⟨vb, rfl, hownb, hb4⟩
      have HA4 := Lib.hid (own_on HA3.out hb4 (Nat.le_refl _))
      have HC4 := Lib.hid hownb
      have HB4 := Lib.hid (first_below HB3.out hb4)
      clear hownb hb4 HT3 HB3 HA3
      go_wp2_with fail
      refine (Same_calls R va vb _ (by have := hml.out; omega) (reads_of HA4.out) (reads_of HC4.out)).mono ?_
      rintro e w5 ⟨rfl, n, hw5⟩
      have HB5 := Lib.hid (show Below w.heap.size w w5 by rw [hw5]; exact drewN_below HB4.out n)
      clear hw5 HB4 HA4 HC4
      go_wp2_with fail
      refine (awake_calls _).mono ?_
      rintro e w6 ⟨rfl, hb6⟩
      have HB6 := Lib.hid (first_below HB5.out hb6)
      clear hb6
      go_wp2
      go_ret
      exact ⟨rfl, by first | exact HB6.out | exact HB6.out.drew⟩

theorem storeOrder_calls (L : List TripL) (v : Value) (x : Int) (w : World) (hv : ArgT w v L) (hok : ∀ t ∈ L, t.ok) (hcap : ∀ a n c, v = .slice a n c → n ≤ c) :
    Calls Tryz.prog 6 #[v, .int .i64 x] w fun e w' => e = .returned (.bool true) ∧ Below w.heap.size w w' := by
  obtain ⟨fa, fc, rfl, _⟩ := id hv
  by_cases h : L.length ≤ 60
  · exact storeOrder_short L fa fc x w L.length h hv hok
  · exact storeOrder_long (L.take 60) fa fc x w L.length 60 rfl (by omega) (hcap _ _ _ rfl) (arg_cut hv (by omega)) (fun t ht => hok t (List.mem_of_mem_take ht))

end Go.Proofs.YtnojdchodmogbaaGreat
