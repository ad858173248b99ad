/- The statement's function RequestBack, walked: true (written by gen/mkreqlaw.py). -/
import Derived.Test.YtnfmjkinahbilaaDoorRqAwake
namespace Go.Proofs.YtnfmjkinahbilaaDoor
open Go.RowKit

theorem put_short {r : ReqL} (h : chkR r = 0) : (wrS (twoL r)).length ≤ 20000 := by
  obtain ⟨h0, h1, h2⟩ := chk_ok h
  obtain ⟨i, x⟩ := r
  dsimp only at h0 h1 h2
  obtain ⟨n, rfl⟩ : ∃ n : Nat, i = n := ⟨i.toNat, by omega⟩
  have e1 := digits_len n (by omega)
  have e2 := encS_len x
  rw [put_bytes_dec]
  simp only [List.length_append, List.length_cons, List.length_nil]
  omega
/- the second half: a request of bytes, put -/
def HalfP (b : ByteArray) : Prop := ∀ W, Good W → (∃ n t, Calls Tryd.prog 11 #[.string b] W (fun e w' => e = .returned (.tuple #[.agg #[.int .i64 n, .string t], .int .i64 0]) ∧ Below W.heap.size W w') ∧ ∀ W2, Good W2 → Calls Tryd.prog 6 #[.agg #[.int .i64 n, .string t]] W2 fun e w' => e = .returned (.tuple #[.string b, .int .i64 0]) ∧ Below W2.heap.size W2 w')
  ∨ Calls Tryd.prog 11 #[.string b] W fun e w' => e = .returned (.tuple #[.agg #[.int .i64 0, .string ⟨#[]⟩], .int .i64 2]) ∧ Below W.heap.size W w'
theorem half_of (b : ByteArray) (hb : b.size ≤ 140737488355326) : HalfP b := by
  intro W hW
  have hg := get_calls b W hb hW
  cases hr : getR b.data.toList with
  | none => rw [hr] at hg; exact .inr hg
  | some r =>
    obtain ⟨h1, h2⟩ := put_get hr
    rw [hr] at hg
    refine .inl ⟨r.id, bs r.x, hg, fun W2 hW2 => ?_⟩
    have hp := put_calls r.id (bs r.x) W2 hW2
    rw [show (⟨r.id, (bs r.x).data.toList⟩ : ReqL) = r from rfl, put_right h1, h2] at hp
    rw [show bs (b.data.toList, (0 : Int)).1 = b from by cases b; simp [bs]] at hp
    exact hp

set_option maxRecDepth 100000 in
set_option maxHeartbeats 4000000 in
theorem requestBack_calls (i : Int) (s b : ByteArray) (w : World) (hg : Good w) (hbs : b.size ≤ 140737488355326) : Calls Tryd.prog 5 #[.agg #[.int .i64 i, .string s], .string b] w fun e w' => e = .returned (.bool true) ∧ Below w.heap.size w w' := by
  obtain ⟨X, hX⟩ : ∃ X, w.heap.size = X := ⟨_, rfl⟩
  obtain ⟨W1, hW1⟩ : ∃ W1, w.alloc (.cells #[.int .i64 i, .string s] 23) = W1 := ⟨_, rfl⟩
  have HK := Lib.hid (show Blk W1 X 23 #[.int .i64 i, .string s] by rw [← hW1, ← hX]; exact blk_new _ _ _)
  have HB := Lib.hid (show Below w.heap.size w W1 by rw [← hW1]; exact box_below _ _)
  have c0 : W1.cell? ⟨X, 0, none⟩ = some (.int .i64 i) := (blk_cell HK.out 0).trans rfl
  have c1 : W1.cell? ⟨X, 1, none⟩ = some (.string s) := (blk_cell HK.out 1).trans rfl
  have HL := Lib.hid (blk_lt HK.out)
  have HG := Lib.hid (hg.on HB.out)
  have HX := Lib.hid hX
  have HW1 := Lib.hid hW1
  clear hX hW1 hg HK
  have hp := fun W hW => put_calls i s W hW
  have HH := Lib.hid (half_of b hbs)
  have HA := Lib.hid (fun W hW => awake_calls W hW)
  clear hbs
  by_cases h : chkR ⟨i, s.data.toList⟩ = 0
  · have hlen := put_short h
    have hgp := get_put _ h
    rw [put_right h] at hp
    have hgt := fun W hW => get_calls (bs (wrS (twoL ⟨i, s.data.toList⟩))) W (by rw [bs_size]; omega) hW
    rw [show (bs (wrS (twoL ⟨i, s.data.toList⟩))).data.toList = wrS (twoL ⟨i, s.data.toList⟩) from rfl, hgp] at hgt
    obtain ⟨S, hS⟩ : ∃ S, bs (wrS (twoL ⟨i, s.data.toList⟩)) = S := ⟨_, rfl⟩
    dsimp only at hp
    rw [hS] at hp hgt
    have HP := Lib.hid hp
    have HGT := Lib.hid (fun W hW => show Calls Tryd.prog 11 #[.string S] W (fun e w' => e = .returned (.tuple #[.agg #[.int .i64 i, .string s], .int .i64 0]) ∧ Below W.heap.size W w') from hgt W hW)
    have hq := fun W => eq_req 9998 i s W
    clear h hlen hgp hgt hS hp
    go_enter Tryd.func5, Tryd.ntmps5
    go_wp2_with fail
    rw [HW1.out, HX.out]
    refine (HP.out _ HG.out).mono ?_
    rintro e W2 ⟨rfl, hb⟩
    replace c0 := keptC c0 hb HL.out
    replace c1 := keptC c1 hb HL.out
    replace HL := Lib.hid (Nat.lt_of_lt_of_le HL.out hb.size)
    replace HB := Lib.hid (fb2 HB.out hb (Nat.le_refl _))
    replace HG := Lib.hid (HG.out.on hb)
    clear hb
    clear HP
    go_wp2_with fail
    refine (HGT.out _ HG.out).mono ?_
    rintro e W3 ⟨rfl, hb⟩
    replace c0 := keptC c0 hb HL.out
    replace c1 := keptC c1 hb HL.out
    replace HL := Lib.hid (Nat.lt_of_lt_of_le HL.out hb.size)
    replace HB := Lib.hid (fb2 HB.out hb (Nat.le_refl _))
    replace HG := Lib.hid (HG.out.on hb)
    clear hb
    clear HGT
    obtain ⟨W4, hWn⟩ : ∃ W4, W3.alloc (.cells #[.int .i64 i, .string s] 23) = W4 := ⟨_, rfl⟩
    obtain ⟨Z, hZ⟩ : ∃ Z, W3.heap.size = Z := ⟨_, rfl⟩
    have HKZ := Lib.hid (show Blk W4 Z 23 #[.int .i64 i, .string s] by rw [← hWn, ← hZ]; exact blk_new _ _ _)
    have e0Z : W4.cell? ⟨Z, 0, none⟩ = some (.int .i64 i) := (blk_cell HKZ.out 0).trans rfl
    have e1Z : W4.cell? ⟨Z, 1, none⟩ = some (.string s) := (blk_cell HKZ.out 1).trans rfl
    have hb : Below W3.heap.size W3 W4 := by rw [← hWn]; exact box_below _ _
    have f0 := c0
    have f1 := c1
    have f2 : X < W3.heap.size := HL.out
    have f3 : ¬ X = W3.heap.size := by omega
    replace c0 := keptC c0 hb HL.out
    replace c1 := keptC c1 hb HL.out
    replace HL := Lib.hid (Nat.lt_of_lt_of_le HL.out hb.size)
    replace HB := Lib.hid (fb2 HB.out hb (Nat.le_refl _))
    replace HG := Lib.hid (HG.out.on hb)
    have HWW4 := Lib.hid hWn
    have HZZ := Lib.hid hZ
    clear hb hWn hZ
    go_wp2_with fail
    rw [HWW4.out]
    clear f0 f1 f2 f3
    (try rw [HZZ.out])
    rcases HH.out _ HG.out with ⟨n, t, hgb, hpb⟩ | hgb
    · have HPB := Lib.hid hpb
      clear HH hpb
      refine (hgb).mono ?_
      rintro e W5 ⟨rfl, hb⟩
      replace c0 := keptC c0 hb HL.out
      replace c1 := keptC c1 hb HL.out
      replace HL := Lib.hid (Nat.lt_of_lt_of_le HL.out hb.size)
      replace HB := Lib.hid (fb2 HB.out hb (Nat.le_refl _))
      replace HG := Lib.hid (HG.out.on hb)
      clear hb
      clear hgb
      obtain ⟨W6, hWn⟩ : ∃ W6, W5.alloc (.cells #[.int .i64 n, .string t] 23) = W6 := ⟨_, rfl⟩
      obtain ⟨Y, hZ⟩ : ∃ Y, W5.heap.size = Y := ⟨_, rfl⟩
      have HKY := Lib.hid (show Blk W6 Y 23 #[.int .i64 n, .string t] by rw [← hWn, ← hZ]; exact blk_new _ _ _)
      have e0Y : W6.cell? ⟨Y, 0, none⟩ = some (.int .i64 n) := (blk_cell HKY.out 0).trans rfl
      have e1Y : W6.cell? ⟨Y, 1, none⟩ = some (.string t) := (blk_cell HKY.out 1).trans rfl
      have hb : Below W5.heap.size W5 W6 := by rw [← hWn]; exact box_below _ _
      have f0 := c0
      have f1 := c1
      have f2 : X < W5.heap.size := HL.out
      have f3 : ¬ X = W5.heap.size := by omega
      replace c0 := keptC c0 hb HL.out
      replace c1 := keptC c1 hb HL.out
      replace HL := Lib.hid (Nat.lt_of_lt_of_le HL.out hb.size)
      replace HB := Lib.hid (fb2 HB.out hb (Nat.le_refl _))
      replace HG := Lib.hid (HG.out.on hb)
      have HWW6 := Lib.hid hWn
      have HZY := Lib.hid hZ
      clear hb hWn hZ
      go_wp2_with fail
      rw [HWW6.out, HZY.out]
      clear f0 f1 f2 f3
      refine (HPB.out _ HG.out).mono ?_
      rintro e W7 ⟨rfl, hb⟩
      replace c0 := keptC c0 hb HL.out
      replace c1 := keptC c1 hb HL.out
      replace HL := Lib.hid (Nat.lt_of_lt_of_le HL.out hb.size)
      replace HB := Lib.hid (fb2 HB.out hb (Nat.le_refl _))
      replace HG := Lib.hid (HG.out.on hb)
      clear hb
      clear HPB
      go_wp2_with fail
      refine (HA.out _ HG.out).mono ?_
      rintro e W8 ⟨rfl, hb⟩
      replace c0 := keptC c0 hb HL.out
      replace c1 := keptC c1 hb HL.out
      replace HL := Lib.hid (Nat.lt_of_lt_of_le HL.out hb.size)
      replace HB := Lib.hid (fb2 HB.out hb (Nat.le_refl _))
      replace HG := Lib.hid (HG.out.on hb)
      clear hb
      go_wp2
      go_ret
      exact ⟨rfl, HB.out⟩
    · clear HH
      refine (hgb).mono ?_
      rintro e W5 ⟨rfl, hb⟩
      replace c0 := keptC c0 hb HL.out
      replace c1 := keptC c1 hb HL.out
      replace HL := Lib.hid (Nat.lt_of_lt_of_le HL.out hb.size)
      replace HB := Lib.hid (fb2 HB.out hb (Nat.le_refl _))
      replace HG := Lib.hid (HG.out.on hb)
      clear hb
      clear hgb
      obtain ⟨W6, hWn⟩ : ∃ W6, W5.alloc (.cells #[.int .i64 0, .string ⟨#[]⟩] 23) = W6 := ⟨_, rfl⟩
      obtain ⟨Y, hZ⟩ : ∃ Y, W5.heap.size = Y := ⟨_, rfl⟩
      have HKY := Lib.hid (show Blk W6 Y 23 #[.int .i64 0, .string ⟨#[]⟩] by rw [← hWn, ← hZ]; exact blk_new _ _ _)
      have e0Y : W6.cell? ⟨Y, 0, none⟩ = some (.int .i64 0) := (blk_cell HKY.out 0).trans rfl
      have e1Y : W6.cell? ⟨Y, 1, none⟩ = some (.string ⟨#[]⟩) := (blk_cell HKY.out 1).trans rfl
      have hb : Below W5.heap.size W5 W6 := by rw [← hWn]; exact box_below _ _
      have f0 := c0
      have f1 := c1
      have f2 : X < W5.heap.size := HL.out
      have f3 : ¬ X = W5.heap.size := by omega
      replace c0 := keptC c0 hb HL.out
      replace c1 := keptC c1 hb HL.out
      replace HL := Lib.hid (Nat.lt_of_lt_of_le HL.out hb.size)
      replace HB := Lib.hid (fb2 HB.out hb (Nat.le_refl _))
      replace HG := Lib.hid (HG.out.on hb)
      have HWW6 := Lib.hid hWn
      have HZY := Lib.hid hZ
      clear hb hWn hZ
      go_wp2_with fail
      rw [HWW6.out]
      clear f0 f1 f2 f3
      refine (HA.out _ HG.out).mono ?_
      rintro e W7 ⟨rfl, hb⟩
      replace c0 := keptC c0 hb HL.out
      replace c1 := keptC c1 hb HL.out
      replace HL := Lib.hid (Nat.lt_of_lt_of_le HL.out hb.size)
      replace HB := Lib.hid (fb2 HB.out hb (Nat.le_refl _))
      replace HG := Lib.hid (HG.out.on hb)
      clear hb
      go_wp2
      go_ret
      exact ⟨rfl, HB.out⟩
  · rw [put_wrong h] at hp
    obtain ⟨C, hC⟩ : ∃ C, chkR ⟨i, s.data.toList⟩ = C := ⟨_, rfl⟩
    rw [hC] at h hp
    have h1 : (C == 0) = false := beq_eq_false_iff_ne.2 h
    have HP := Lib.hid (fun W hW => show Calls Tryd.prog 6 #[.agg #[.int .i64 i, .string s]] W (fun e w' => e = .returned (.tuple #[.string ⟨#[]⟩, .int .i64 C]) ∧ Below W.heap.size W w') from hp W hW)
    clear hC hp
    go_enter Tryd.func5, Tryd.ntmps5
    go_wp2_with fail
    rw [HW1.out, HX.out]
    refine (HP.out _ HG.out).mono ?_
    rintro e W2 ⟨rfl, hb⟩
    replace c0 := keptC c0 hb HL.out
    replace c1 := keptC c1 hb HL.out
    replace HL := Lib.hid (Nat.lt_of_lt_of_le HL.out hb.size)
    replace HB := Lib.hid (fb2 HB.out hb (Nat.le_refl _))
    replace HG := Lib.hid (HG.out.on hb)
    clear hb
    clear HP
    go_wp2_with fail
    rcases HH.out _ HG.out with ⟨n, t, hgb, hpb⟩ | hgb
    · have HPB := Lib.hid hpb
      clear HH hpb
      refine (hgb).mono ?_
      rintro e W3 ⟨rfl, hb⟩
      replace c0 := keptC c0 hb HL.out
      replace c1 := keptC c1 hb HL.out
      replace HL := Lib.hid (Nat.lt_of_lt_of_le HL.out hb.size)
      replace HB := Lib.hid (fb2 HB.out hb (Nat.le_refl _))
      replace HG := Lib.hid (HG.out.on hb)
      clear hb
      clear hgb
      obtain ⟨W4, hWn⟩ : ∃ W4, W3.alloc (.cells #[.int .i64 n, .string t] 23) = W4 := ⟨_, rfl⟩
      obtain ⟨Y, hZ⟩ : ∃ Y, W3.heap.size = Y := ⟨_, rfl⟩
      have HKY := Lib.hid (show Blk W4 Y 23 #[.int .i64 n, .string t] by rw [← hWn, ← hZ]; exact blk_new _ _ _)
      have e0Y : W4.cell? ⟨Y, 0, none⟩ = some (.int .i64 n) := (blk_cell HKY.out 0).trans rfl
      have e1Y : W4.cell? ⟨Y, 1, none⟩ = some (.string t) := (blk_cell HKY.out 1).trans rfl
      have hb : Below W3.heap.size W3 W4 := by rw [← hWn]; exact box_below _ _
      have f0 := c0
      have f1 := c1
      have f2 : X < W3.heap.size := HL.out
      have f3 : ¬ X = W3.heap.size := by omega
      replace c0 := keptC c0 hb HL.out
      replace c1 := keptC c1 hb HL.out
      replace HL := Lib.hid (Nat.lt_of_lt_of_le HL.out hb.size)
      replace HB := Lib.hid (fb2 HB.out hb (Nat.le_refl _))
      replace HG := Lib.hid (HG.out.on hb)
      have HWW4 := Lib.hid hWn
      have HZY := Lib.hid hZ
      clear hb hWn hZ
      go_wp2_with fail
      rw [HWW4.out, HZY.out]
      clear f0 f1 f2 f3
      refine (HPB.out _ HG.out).mono ?_
      rintro e W5 ⟨rfl, hb⟩
      replace c0 := keptC c0 hb HL.out
      replace c1 := keptC c1 hb HL.out
      replace HL := Lib.hid (Nat.lt_of_lt_of_le HL.out hb.size)
      replace HB := Lib.hid (fb2 HB.out hb (Nat.le_refl _))
      replace HG := Lib.hid (HG.out.on hb)
      clear hb
      clear HPB
      go_wp2_with fail
      refine (HA.out _ HG.out).mono ?_
      rintro e W6 ⟨rfl, hb⟩
      replace c0 := keptC c0 hb HL.out
      replace c1 := keptC c1 hb HL.out
      replace HL := Lib.hid (Nat.lt_of_lt_of_le HL.out hb.size)
      replace HB := Lib.hid (fb2 HB.out hb (Nat.le_refl _))
      replace HG := Lib.hid (HG.out.on hb)
      clear hb
      go_wp2
      go_ret
      exact ⟨rfl, HB.out⟩
    · clear HH
      refine (hgb).mono ?_
      rintro e W3 ⟨rfl, hb⟩
      replace c0 := keptC c0 hb HL.out
      replace c1 := keptC c1 hb HL.out
      replace HL := Lib.hid (Nat.lt_of_lt_of_le HL.out hb.size)
      replace HB := Lib.hid (fb2 HB.out hb (Nat.le_refl _))
      replace HG := Lib.hid (HG.out.on hb)
      clear hb
      clear hgb
      obtain ⟨W4, hWn⟩ : ∃ W4, W3.alloc (.cells #[.int .i64 0, .string ⟨#[]⟩] 23) = W4 := ⟨_, rfl⟩
      obtain ⟨Y, hZ⟩ : ∃ Y, W3.heap.size = Y := ⟨_, rfl⟩
      have HKY := Lib.hid (show Blk W4 Y 23 #[.int .i64 0, .string ⟨#[]⟩] by rw [← hWn, ← hZ]; exact blk_new _ _ _)
      have e0Y : W4.cell? ⟨Y, 0, none⟩ = some (.int .i64 0) := (blk_cell HKY.out 0).trans rfl
      have e1Y : W4.cell? ⟨Y, 1, none⟩ = some (.string ⟨#[]⟩) := (blk_cell HKY.out 1).trans rfl
      have hb : Below W3.heap.size W3 W4 := by rw [← hWn]; exact box_below _ _
      have f0 := c0
      have f1 := c1
      have f2 : X < W3.heap.size := HL.out
      have f3 : ¬ X = W3.heap.size := by omega
      replace c0 := keptC c0 hb HL.out
      replace c1 := keptC c1 hb HL.out
      replace HL := Lib.hid (Nat.lt_of_lt_of_le HL.out hb.size)
      replace HB := Lib.hid (fb2 HB.out hb (Nat.le_refl _))
      replace HG := Lib.hid (HG.out.on hb)
      have HWW4 := Lib.hid hWn
      have HZY := Lib.hid hZ
      clear hb hWn hZ
      go_wp2_with fail
      rw [HWW4.out]
      clear f0 f1 f2 f3
      refine (HA.out _ HG.out).mono ?_
      rintro e W5 ⟨rfl, hb⟩
      replace c0 := keptC c0 hb HL.out
      replace c1 := keptC c1 hb HL.out
      replace HL := Lib.hid (Nat.lt_of_lt_of_le HL.out hb.size)
      replace HB := Lib.hid (fb2 HB.out hb (Nat.le_refl _))
      replace HG := Lib.hid (HG.out.on hb)
      clear hb
      go_wp2
      go_ret
      exact ⟨rfl, HB.out⟩

end Go.Proofs.YtnfmjkinahbilaaDoor
