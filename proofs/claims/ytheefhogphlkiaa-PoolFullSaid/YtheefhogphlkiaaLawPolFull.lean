/- The law PoolFull: it is true of any message and any number. -/
import Derived.Test.YtheefhogphlkiaaPolStep
import Derived.Test.YtheefhogphlkiaaPolAwake
namespace Go.Proofs.Ytheefhogphlkiaa
open Go.RowKit

/- a pool behind k sends of one message -/
def fillL (m : MsgL) (k : Nat) : List MsgL := if rightM m = true then List.replicate (min k 256) m else []
theorem fill_send (m : MsgL) (k : Nat) : sendL (fillL m k) m = fillL m (k + 1) := by
  unfold sendL fillL
  by_cases h : rightM m = true
  · simp only [if_pos h, List.length_replicate]
    by_cases hk : 256 ≤ k
    · rw [if_pos (by omega), show min k 256 = 256 by omega, show min (k + 1) 256 = 256 by omega]
    · rw [if_neg (by omega), show min k 256 = k by omega, show min (k + 1) 256 = k + 1 by omega, List.replicate_succ']
  · simp only [if_neg h]
theorem fill_err (m : MsgL) (k : Nat) : sendE (fillL m k) m = if rightM m = true then (if 256 ≤ k then 3 else 0) else 2 := by
  unfold sendE fillL
  by_cases h : rightM m = true
  · simp only [if_pos h, List.length_replicate]
    by_cases hk : 256 ≤ k
    · rw [if_pos (by omega), if_pos hk]
    · rw [if_neg (by omega), if_neg hk]
  · simp only [if_neg h]
theorem fill_dbl (m : MsgL) (k : Nat) (h : rightM m = true) (hk : 256 ≤ k) : dblE (fillL m k) 0 = 3 := by
  have hl : (fillL m k).length = 256 := by unfold fillL; rw [if_pos h, List.length_replicate]; omega
  unfold dblE
  rw [hl]
  rfl
theorem full_num (n : Int) : ∃ N : Nat, wrap64 ((IntKind.u64.wrap n).tmod 270) = (N : Int) ∧ N < 270 := by
  have h0 : 0 ≤ IntKind.u64.wrap n := by simp [IntKind.wrap, IntKind.bits, IntKind.signed]; omega
  generalize IntKind.u64.wrap n = u at h0
  have h1 : 0 ≤ u.tmod 270 := Int.tmod_nonneg 270 h0
  have h2 : u.tmod 270 < 270 := Int.tmod_lt_of_pos u (by omega)
  generalize u.tmod 270 = c at h1 h2
  refine ⟨c.toNat, ?_, by omega⟩
  unfold wrap64
  omega
def FullR (W1 : World) (m : MsgL) (P N : Nat) (i : Value) (wr : World) : Prop := ∃ k : Nat, k ≤ N ∧ i = .int .i64 k ∧ ∃ v, PoolT wr P P v (fillL m k) ∧ Below P W1 wr

set_option maxRecDepth 100000 in
set_option maxHeartbeats 4000000 in
theorem poolFull_calls (m : MsgL) (n : Int) (w : World) :
    Calls Try.prog 4 #[.agg #[.int .i64 m.f, .int .i64 m.t, .string m.b], .int .i64 n] w fun e w' => e = .returned (.bool true) ∧ Below w.heap.size w w' := by
  obtain ⟨X, hX⟩ : ∃ X, w.heap.size = X := ⟨_, rfl⟩
  obtain ⟨W1, hW1⟩ : ∃ W1, w.alloc (.cells #[.int .i64 m.f, .int .i64 m.t, .string m.b] 29) = W1 := ⟨_, rfl⟩
  obtain ⟨P, hP⟩ : ∃ P, W1.heap.size = P := ⟨_, rfl⟩
  obtain ⟨W2, hW2⟩ : ∃ W2, W1.alloc (.cells #[.slice none 0 0] 55) = W2 := ⟨_, rfl⟩
  have HB1 := Lib.hid (show Below w.heap.size w W1 by rw [← hW1]; exact box_below _ _)
  have HK := Lib.hid (show Blk W1 X 29 #[.int .i64 m.f, .int .i64 m.t, .string m.b] by rw [← hW1, ← hX]; exact blk_new _ _ _)
  have HP2 := Lib.hid (show PoolT W2 P P (.slice none 0 0) [] by rw [← hW2, ← hP]; exact new_pool W1 _ (Nat.le_refl _))
  have HB2 := Lib.hid (show Below P W1 W2 by rw [← hW2, ← hP]; exact box_below _ _)
  have HXP := Lib.hid (show X < P by rw [← hP, ← hW1, ← hX]; simp)
  have HWP := Lib.hid (show w.heap.size ≤ P by rw [← hP]; exact HB1.out.size)
  have HW1 := Lib.hid hW1
  have HW2 := Lib.hid hW2
  have HX := Lib.hid hX
  have HPE := Lib.hid hP
  clear hX hW1 hP hW2
  go_enter Try.func4, Try.ntmps4
  go_wp2_with fail
  rw [HW1.out]
  refine (new_calls _).mono ?_
  rintro e w1 ⟨rfl, rfl⟩
  rw [HW2.out, HPE.out, HX.out]
  go_wp2
  obtain ⟨N, hN, hN2⟩ := full_num n
  rw [hN]
  clear hN
  have HN2 := Lib.hid hN2
  have HRR := Lib.hid (fun W => rRight_calls m.f m.t m.b W)
  have HSE := Lib.hid (fun k v W (hW : PoolT W P P v (fillL m k)) => (show Calls Try.prog 17 #[.pointer (some ⟨P, 0, none⟩), .agg #[.int .i64 m.f, .int .i64 m.t, .string m.b]] W (PutT P P v (if rightM m = true then (if 256 ≤ k then 3 else 0) else 2) (fillL m (k + 1)) W) from by
    have := send_calls P P v (fillL m k) m W hW
    rw [fill_send, fill_err] at this
    exact this))
  have HDB := Lib.hid (fun k v W (hW : PoolT W P P v (fillL m k)) => double_calls P P v (fillL m k) 0 W hW)
  have HFD := Lib.hid (fun k => fill_dbl m k)
  obtain ⟨r, hr⟩ : ∃ r, rightM m = r := ⟨_, rfl⟩
  have HST := Lib.hid (show FullR W1 m P N (.int .i64 0) W2 from ⟨0, Nat.zero_le _, rfl, _, by
    have e : fillL m 0 = [] := by unfold fillL; split <;> rfl
    rw [e]; exact HP2.out, HB2.out⟩)
  rw [hr] at HSE HFD
  change Hid (∀ W, Calls Try.prog _ _ W fun e w' => e = .returned (.bool (rightM m)) ∧ _) at HRR
  rw [hr] at HRR
  clear hr
  go_loopw [6] (fun i wr => FullR W1 m P N i wr) (fun i _ => N - (intOf i).toNat)
  case atStart => exact HST.out
  case round =>
    clear HST
    obtain ⟨k, hk, rfl, v, hpool, hbw⟩ := hrel
    have g1 : (0 : Int) ≤ (k : Int) := by omega
    have HPO := Lib.hid hpool
    have HB := Lib.hid hbw
    have c0 : wr.cell? ⟨X, 0, none⟩ = some (.int .i64 m.f) := keptC ((blk_cell HK.out 0).trans rfl) hbw HXP.out
    have c1 : wr.cell? ⟨X, 1, none⟩ = some (.int .i64 m.t) := keptC ((blk_cell HK.out 1).trans rfl) hbw HXP.out
    have c2 : wr.cell? ⟨X, 2, none⟩ = some (.string m.b) := keptC ((blk_cell HK.out 2).trans rfl) hbw HXP.out
    clear hpool hbw
    by_cases hlt : k < N
    · have g2 : (k : Int) < (N : Int) := by omega
      go_wp2_with fail
      refine (HRR.out _).mono ?_
      rintro e W3 ⟨rfl, hb⟩
      have HP3 := Lib.hid (pool_on HPO.out hb)
      have HB3 := Lib.hid (fb2 HB.out hb (by rw [HPE.out]; exact Nat.le_refl _))
      clear hb c0 c1 c2
      have c0 : W3.cell? ⟨X, 0, none⟩ = some (.int .i64 m.f) := keptC ((blk_cell HK.out 0).trans rfl) HB3.out HXP.out
      have c1 : W3.cell? ⟨X, 1, none⟩ = some (.int .i64 m.t) := keptC ((blk_cell HK.out 1).trans rfl) HB3.out HXP.out
      have c2 : W3.cell? ⟨X, 2, none⟩ = some (.string m.b) := keptC ((blk_cell HK.out 2).trans rfl) HB3.out HXP.out
      have HS := Lib.hid (HSE.out k v W3 HP3.out)
      cases r with
      | true =>
        by_cases hf : 256 ≤ k
        · have g3 : (256 : Int) ≤ (k : Int) := by omega
          rw [if_pos rfl, if_pos hf] at HS
          clear hf
          go_wp2_with fail
          refine HS.out.mono ?_
          rintro e W4 ⟨rfl, v', hp, hm⟩
          have HP4 := Lib.hid hp
          have HB4 := Lib.hid (HB3.out.trans (moved_below HP3.out hm))
          clear hp hm c0 c1 c2 HS
          go_wp2
          go_roundw
          case rel => exact ⟨k + 1, by omega, by go_num, v', HP4.out, HB4.out⟩
          case measure => simp [intOf]; omega
        · have g3 : ¬ (256 : Int) ≤ (k : Int) := by omega
          rw [if_pos rfl, if_neg hf] at HS
          clear hf
          go_wp2_with fail
          refine HS.out.mono ?_
          rintro e W4 ⟨rfl, v', hp, hm⟩
          have HP4 := Lib.hid hp
          have HB4 := Lib.hid (HB3.out.trans (moved_below HP3.out hm))
          clear hp hm c0 c1 c2 HS
          go_wp2
          go_roundw
          case rel => exact ⟨k + 1, by omega, by go_num, v', HP4.out, HB4.out⟩
          case measure => simp [intOf]; omega
      | false =>
        rw [if_neg (by decide)] at HS
        go_wp2_with fail
        refine HS.out.mono ?_
        rintro e W4 ⟨rfl, v', hp, hm⟩
        have HP4 := Lib.hid hp
        have HB4 := Lib.hid (HB3.out.trans (moved_below HP3.out hm))
        clear hp hm c0 c1 c2 HS
        go_wp2
        go_roundw
        case rel => exact ⟨k + 1, by omega, by go_num, v', HP4.out, HB4.out⟩
        case measure => simp [intOf]; omega
    · have g2 : ¬ (k : Int) < (N : Int) := by omega
      have hkN : k = N := by omega
      rw [hkN] at HPO
      clear hk hkN hlt g1
      by_cases hf : 256 < N
      · have g3 : (256 : Int) < (N : Int) := by omega
        go_wp2_with fail
        refine (HRR.out _).mono ?_
        rintro e W3 ⟨rfl, hb⟩
        have HP3 := Lib.hid (pool_on HPO.out hb)
        have HB3 := Lib.hid (fb2 HB.out hb (by rw [HPE.out]; exact Nat.le_refl _))
        clear hb c0 c1 c2
        cases r with
        | true =>
          have HD := Lib.hid (HDB.out N v W3 HP3.out)
          rw [HFD.out N rfl (by omega)] at HD
          clear hf
          go_wp2_with fail
          refine HD.out.mono ?_
          rintro e W4 ⟨rfl, v', hp, hm⟩
          have HB4 := Lib.hid (HB3.out.trans (moved_below HP3.out hm))
          clear hp hm
          go_wp2_with fail
          refine (awake_calls _).mono ?_
          rintro e W5 ⟨rfl, hb⟩
          have HB5 := Lib.hid (fb2 HB4.out hb (by rw [HPE.out]; exact Nat.le_refl _))
          clear hb
          go_wp2
          go_ret
          exact ⟨rfl, HB1.out.trans (HB5.out.mono HWP.out)⟩
        | false =>
          clear hf
          go_wp2_with fail
          refine (awake_calls _).mono ?_
          rintro e W5 ⟨rfl, hb⟩
          have HB5 := Lib.hid (fb2 HB3.out hb (by rw [HPE.out]; exact Nat.le_refl _))
          clear hb
          go_wp2
          go_ret
          exact ⟨rfl, HB1.out.trans (HB5.out.mono HWP.out)⟩
      · have g3 : ¬ (256 : Int) < (N : Int) := by omega
        clear hf
        go_wp2_with fail
        refine (awake_calls _).mono ?_
        rintro e W5 ⟨rfl, hb⟩
        have HB5 := Lib.hid (fb2 HB.out hb (by rw [HPE.out]; exact Nat.le_refl _))
        clear hb
        go_wp2
        go_ret
        exact ⟨rfl, HB1.out.trans (HB5.out.mono HWP.out)⟩

end Go.Proofs.Ytheefhogphlkiaa
