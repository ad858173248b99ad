/- Package request's Put: any request's bytes. -/
import Derived.Test.YtnfmjkinahbilaaDoorRqPaired
import Derived.Test.YtnfmjkinahbilaaDoorRqCheck
import Derived.Test.YtnfmjkinahbilaaDoorPctWrite
namespace Go.Proofs.YtnfmjkinahbilaaDoor
open Go.RowKit

theorem put_wrong {r : ReqL} (h : chkR r ≠ 0) : putR r = ([], chkR r) := by unfold putR; rw [if_neg h]
theorem put_right {r : ReqL} (h : chkR r = 0) : putR r = (wrS (twoL r), 0) := by unfold putR; rw [if_pos h]
theorem itoa_short (i : Int) (h0 : 0 ≤ i) (h1 : i < 4096) : (Lib.itoa i).length ≤ 4 := by
  obtain ⟨u, rfl⟩ : ∃ u : Nat, i = u := ⟨i.toNat, by omega⟩
  rw [Lib.itoa_nonneg]; exact digits_len u (by omega)

set_option maxRecDepth 100000 in
set_option maxHeartbeats 2000000 in
theorem put_calls (i : Int) (s : ByteArray) (w : World) (hg : Good w) :
    Calls Tryd.prog 6 #[.agg #[.int .i64 i, .string s]] w fun e w' => e = .returned (.tuple #[.string (bs (putR ⟨i, s.data.toList⟩).1), .int .i64 (putR ⟨i, s.data.toList⟩).2]) ∧ Below w.heap.size w w' := by
  obtain ⟨X, hX⟩ : ∃ X, w.heap.size = X := ⟨_, rfl⟩
  obtain ⟨W1, hW1⟩ : ∃ W1, w.alloc (.cells #[.int .i64 i, .string s] 23) = W1 := ⟨_, rfl⟩
  have HK := Lib.hid (show Blk W1 X 23 #[.int .i64 i, .string s] by rw [← hW1, ← hX]; exact blk_new _ _ _)
  have HB := Lib.hid (show Below w.heap.size w W1 by rw [← hW1]; exact box_below _ _)
  have c0 : W1.cell? ⟨X, 0, none⟩ = some (.int .i64 i) := (blk_cell HK.out 0).trans rfl
  have c1 : W1.cell? ⟨X, 1, none⟩ = some (.string s) := (blk_cell HK.out 1).trans rfl
  have HG := Lib.hid (hg.on HB.out)
  have HX := Lib.hid hX
  have HW1 := Lib.hid hW1
  clear hX hW1 hg
  have hc0 := fun W => check_calls i s W
  by_cases h : chkR ⟨i, s.data.toList⟩ = 0
  · rw [put_right h]
    rw [h] at hc0
    have HC := Lib.hid hc0
    obtain ⟨h0, h1, h2⟩ := chk_ok h
    dsimp only at h0 h1 h2
    have hi := itoa_short i h0 h1
    obtain ⟨T, hT⟩ : ∃ T, bs (Lib.itoa i) = T := ⟨_, rfl⟩
    have HP := Lib.hid (fun W hW => paired_calls i s (by omega) (by omega) T hT W hW)
    have HT := Lib.hid hT
    have HM := Lib.hid (show ∀ p ∈ twoL ⟨i, s.data.toList⟩, p.k.length ≤ 1048576 ∧ p.v.length ≤ 1048576 by
      intro p hp
      simp only [twoL, List.mem_cons, List.not_mem_nil, or_false] at hp
      rcases hp with rfl | rfl
      · exact ⟨by show 2 ≤ _; omega, by dsimp only; omega⟩
      · exact ⟨by show 5 ≤ _; omega, by dsimp only; omega⟩)
    clear h h0 h1 h2 hi hT hc0
    go_enter Tryd.func6, Tryd.ntmps6
    go_wp2_with fail
    rw [HW1.out, HX.out]
    refine (HC.out _).mono ?_
    rintro e W2 ⟨rfl, hb⟩
    replace c0 := keptC c0 hb (blk_lt HK.out)
    replace c1 := keptC c1 hb (blk_lt HK.out)
    have HB2 := Lib.hid (fb2 HB.out hb (Nat.le_refl _))
    have HG2 := Lib.hid (HG.out.on hb)
    clear hb
    go_wp2_with fail
    refine (HP.out _ HG2.out).mono ?_
    rintro e W3 ⟨rfl, hb⟩
    have HB3 := Lib.hid (fb2 HB2.out hb (Nat.le_refl _))
    clear hb c0 c1
    obtain ⟨W4, hW4⟩ : ∃ W4, W3.alloc (.cells #[.string ⟨#[105, 100]⟩, .string T, .string ⟨#[113, 117, 101, 114, 121]⟩, .string s] 40) = W4 := ⟨_, rfl⟩
    obtain ⟨Z, hZ⟩ : ∃ Z, W3.heap.size = Z := ⟨_, rfl⟩
    have HZ := Lib.hid (show Blk W4 Z 40 #[.string ⟨#[105, 100]⟩, .string T, .string ⟨#[113, 117, 101, 114, 121]⟩, .string s] by rw [← hW4, ← hZ]; exact blk_new _ _ _)
    have HB4 := Lib.hid (show Below w.heap.size w W4 by rw [← hW4]; exact HB3.out.alloc HB3.out.size _)
    have HPA := Lib.hid (show PrA W4 (some ⟨Z, 0, none⟩) 2 2 (twoL ⟨i, s.data.toList⟩) from ⟨rfl, Nat.le_refl _, by unfold maxLen; omega, fun _ => ⟨Z, 0, rfl, blk_lt HZ.out, fun j hj => by
      have hj' : j < 2 := hj
      match j, hj' with
      | 0, _ => exact ⟨(blk_cell HZ.out 0).trans rfl, (blk_cell HZ.out 1).trans (by rw [← HT.out]; rfl)⟩
      | 1, _ => exact ⟨(blk_cell HZ.out 2).trans rfl, (blk_cell HZ.out 3).trans rfl⟩⟩⟩)
    have HWR := Lib.hid (pWrite_calls (twoL ⟨i, s.data.toList⟩) (some ⟨Z, 0, none⟩) 2 2 W4 HPA.out HM.out (by omega))
    have HW4 := Lib.hid hW4
    have HZE := Lib.hid hZ
    clear hW4 hZ
    go_wp2_with fail
    rw [HW4.out, HZE.out]
    refine HWR.out.mono ?_
    rintro e W5 ⟨rfl, hb⟩
    have HB5 := Lib.hid (fb2 HB4.out hb (Nat.le_refl _))
    clear hb
    go_wp2
    go_ret2
    exact ⟨rfl, HB5.out⟩
  · rw [put_wrong h]
    obtain ⟨C, hC⟩ : ∃ C, chkR ⟨i, s.data.toList⟩ = C := ⟨_, rfl⟩
    rw [hC] at h hc0 ⊢
    have HC := Lib.hid hc0
    have h1 : (C == 0) = false := beq_eq_false_iff_ne.2 h
    clear hC hc0
    go_enter Tryd.func6, Tryd.ntmps6
    go_wp2_with fail
    rw [HW1.out, HX.out]
    refine (HC.out _).mono ?_
    rintro e W2 ⟨rfl, hb⟩
    have HB2 := Lib.hid (fb2 HB.out hb (Nat.le_refl _))
    clear hb
    go_wp2
    go_ret2
    exact ⟨rfl, HB2.out⟩

end Go.Proofs.YtnfmjkinahbilaaDoor
