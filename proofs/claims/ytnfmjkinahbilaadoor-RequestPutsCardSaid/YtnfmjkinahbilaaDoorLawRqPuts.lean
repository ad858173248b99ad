/- The statement's function RequestPuts, walked: true (written by gen/mkreqlaw.py). -/
import Derived.Test.YtnfmjkinahbilaaDoorRqAwake
import Derived.Test.YtnfmjkinahbilaaDoorRqRPut
namespace Go.Proofs.YtnfmjkinahbilaaDoor
open Go.RowKit

set_option maxRecDepth 100000 in
set_option maxHeartbeats 4000000 in
theorem requestPuts_calls (i : Int) (s : ByteArray) (w : World) (hg : Good w) : Calls Tryd.prog 3 #[.agg #[.int .i64 i, .string s]] w fun e w' => e = .returned (.bool true) ∧ Below w.heap.size w w' := by
  obtain ⟨X, hX⟩ : ∃ X, w.heap.size = X := ⟨_, rfl⟩
  obtain ⟨W1, hW1⟩ : ∃ W1, w.alloc (.cells #[.int .i64 i, .string s] 23) = W1 := ⟨_, rfl⟩
  have HK := Lib.hid (show Blk W1 X 23 #[.int .i64 i, .string s] by rw [← hW1, ← hX]; exact blk_new _ _ _)
  have HB := Lib.hid (show Below w.heap.size w W1 by rw [← hW1]; exact box_below _ _)
  have c0 : W1.cell? ⟨X, 0, none⟩ = some (.int .i64 i) := (blk_cell HK.out 0).trans rfl
  have c1 : W1.cell? ⟨X, 1, none⟩ = some (.string s) := (blk_cell HK.out 1).trans rfl
  have HL := Lib.hid (blk_lt HK.out)
  have HG := Lib.hid (hg.on HB.out)
  have HX := Lib.hid hX
  have HW1 := Lib.hid hW1
  clear hX hW1 hg HK
  have hp := fun W hW => put_calls i s W hW
  have hc := fun W => check_calls i s W
  have hd := fun W => rCheck_calls i s W
  have HA := Lib.hid (fun W hW => awake_calls W hW)
  by_cases h : chkR ⟨i, s.data.toList⟩ = 0
  · obtain ⟨h0, h1, h2⟩ := chk_ok h
    dsimp only at h0 h1 h2
    have hl : s.data.toList.length = s.size := (Lib.size_eq s).symm
    obtain ⟨n, rfl⟩ : ∃ n : Nat, i = n := ⟨i.toNat, by omega⟩
    have hr := fun W => rPut_calls n s (by omega) (by omega) W
    rw [put_right h] at hp
    rw [h] at hc hd
    obtain ⟨S, hS⟩ : ∃ S, bs (wrS (twoL ⟨n, s.data.toList⟩)) = S := ⟨_, rfl⟩
    dsimp only at hp
    rw [hS] at hp hr
    have HP := Lib.hid hp
    have HC := Lib.hid hc
    have HD := Lib.hid hd
    have HR := Lib.hid hr
    clear h h0 h1 h2 hl hS hp hc hd hr
    go_enter Tryd.func3, Tryd.ntmps3
    go_wp2_with fail
    rw [HW1.out, HX.out]
    refine (HP.out _ HG.out).mono ?_
    rintro e W2 ⟨rfl, hb⟩
    replace c0 := keptC c0 hb HL.out
    replace c1 := keptC c1 hb HL.out
    replace HL := Lib.hid (Nat.lt_of_lt_of_le HL.out hb.size)
    replace HB := Lib.hid (fb2 HB.out hb (Nat.le_refl _))
    replace HG := Lib.hid (HG.out.on hb)
    clear hb
    go_wp2_with fail
    refine (HD.out _).mono ?_
    rintro e W3 ⟨rfl, hb⟩
    replace c0 := keptC c0 hb HL.out
    replace c1 := keptC c1 hb HL.out
    replace HL := Lib.hid (Nat.lt_of_lt_of_le HL.out hb.size)
    replace HB := Lib.hid (fb2 HB.out hb (Nat.le_refl _))
    replace HG := Lib.hid (HG.out.on hb)
    clear hb
    go_wp2_with fail
    refine (HC.out _).mono ?_
    rintro e W4 ⟨rfl, hb⟩
    replace c0 := keptC c0 hb HL.out
    replace c1 := keptC c1 hb HL.out
    replace HL := Lib.hid (Nat.lt_of_lt_of_le HL.out hb.size)
    replace HB := Lib.hid (fb2 HB.out hb (Nat.le_refl _))
    replace HG := Lib.hid (HG.out.on hb)
    clear hb
    go_wp2_with fail
    refine (HR.out _).mono ?_
    rintro e W5 ⟨rfl, hb⟩
    replace c0 := keptC c0 hb HL.out
    replace c1 := keptC c1 hb HL.out
    replace HL := Lib.hid (Nat.lt_of_lt_of_le HL.out hb.size)
    replace HB := Lib.hid (fb2 HB.out hb (Nat.le_refl _))
    replace HG := Lib.hid (HG.out.on hb)
    clear hb
    go_wp2_with fail
    refine (HA.out _ HG.out).mono ?_
    rintro e W6 ⟨rfl, hb⟩
    replace c0 := keptC c0 hb HL.out
    replace c1 := keptC c1 hb HL.out
    replace HL := Lib.hid (Nat.lt_of_lt_of_le HL.out hb.size)
    replace HB := Lib.hid (fb2 HB.out hb (Nat.le_refl _))
    replace HG := Lib.hid (HG.out.on hb)
    clear hb
    go_wp2
    go_ret
    exact ⟨rfl, HB.out⟩
  · rw [put_wrong h] at hp
    obtain ⟨C, hC⟩ : ∃ C, chkR ⟨i, s.data.toList⟩ = C := ⟨_, rfl⟩
    rw [hC] at h hc hd hp
    have h1 : (C == 0) = false := beq_eq_false_iff_ne.2 h
    have HP := Lib.hid (fun W hW => show Calls Tryd.prog 6 #[.agg #[.int .i64 i, .string s]] W (fun e w' => e = .returned (.tuple #[.string ⟨#[]⟩, .int .i64 C]) ∧ Below W.heap.size W w') from hp W hW)
    have HC := Lib.hid hc
    have HD := Lib.hid hd
    clear hC hp hc hd
    go_enter Tryd.func3, Tryd.ntmps3
    go_wp2_with fail
    rw [HW1.out, HX.out]
    refine (HP.out _ HG.out).mono ?_
    rintro e W2 ⟨rfl, hb⟩
    replace c0 := keptC c0 hb HL.out
    replace c1 := keptC c1 hb HL.out
    replace HL := Lib.hid (Nat.lt_of_lt_of_le HL.out hb.size)
    replace HB := Lib.hid (fb2 HB.out hb (Nat.le_refl _))
    replace HG := Lib.hid (HG.out.on hb)
    clear hb
    go_wp2_with fail
    refine (HD.out _).mono ?_
    rintro e W3 ⟨rfl, hb⟩
    replace c0 := keptC c0 hb HL.out
    replace c1 := keptC c1 hb HL.out
    replace HL := Lib.hid (Nat.lt_of_lt_of_le HL.out hb.size)
    replace HB := Lib.hid (fb2 HB.out hb (Nat.le_refl _))
    replace HG := Lib.hid (HG.out.on hb)
    clear hb
    go_wp2_with fail
    refine (HC.out _).mono ?_
    rintro e W4 ⟨rfl, hb⟩
    replace c0 := keptC c0 hb HL.out
    replace c1 := keptC c1 hb HL.out
    replace HL := Lib.hid (Nat.lt_of_lt_of_le HL.out hb.size)
    replace HB := Lib.hid (fb2 HB.out hb (Nat.le_refl _))
    replace HG := Lib.hid (HG.out.on hb)
    clear hb
    go_wp2_with fail
    refine (HA.out _ HG.out).mono ?_
    rintro e W5 ⟨rfl, hb⟩
    replace c0 := keptC c0 hb HL.out
    replace c1 := keptC c1 hb HL.out
    replace HL := Lib.hid (Nat.lt_of_lt_of_le HL.out hb.size)
    replace HB := Lib.hid (fb2 HB.out hb (Nat.le_refl _))
    replace HG := Lib.hid (HG.out.on hb)
    clear hb
    go_wp2
    go_ret
    exact ⟨rfl, HB.out⟩

end Go.Proofs.YtnfmjkinahbilaaDoor
