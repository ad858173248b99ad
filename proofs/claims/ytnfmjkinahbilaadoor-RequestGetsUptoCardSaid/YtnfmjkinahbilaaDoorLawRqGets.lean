/- The statement's function RequestGets, walked: true. -/
import Derived.Test.YtnfmjkinahbilaaDoorRqAwake
import Derived.Test.YtnfmjkinahbilaaDoorRqRGet
namespace Go.Proofs.YtnfmjkinahbilaaDoor
open Go.RowKit

set_option maxRecDepth 100000 in
set_option maxHeartbeats 4000000 in
theorem requestGets_calls (s : ByteArray) (w : World) (hg : Good w) (hs : s.size ≤ 4000000000000) : Calls Tryd.prog 4 #[.string s] w fun e w' => e = .returned (.bool true) ∧ Below w.heap.size w w' := by
  have HA := Lib.hid (fun W hW => awake_calls W hW)
  have hp := fun W hW => get_calls s W (by omega) hW
  have hd := fun W => rReqGet_calls s W hs
  have HG := Lib.hid hg
  cases hr : getR s.data.toList with
  | none =>
    rw [hr] at hp hd
    have HP := Lib.hid (fun W hW => show Calls Tryd.prog 11 #[.string s] W (fun e w' => e = .returned (.tuple #[.agg #[.int .i64 0, .string ⟨#[]⟩], .int .i64 2]) ∧ Below W.heap.size W w') from hp W hW)
    have HD := Lib.hid (fun W => show Calls Tryd.prog 12 #[.string s] W (fun e w' => e = .returned (.tuple #[.agg #[.int .i64 0, .string ⟨#[]⟩], .bool false]) ∧ Below W.heap.size W w') from hd W)
    have hq := fun W => eq_req 9998 0 ⟨#[]⟩ W
    clear hr hp hd hs hg
    go_enter Tryd.func4, Tryd.ntmps4
    go_wp2_with fail
    refine (HP.out _ HG.out).mono ?_
    rintro e W1 ⟨rfl, hb⟩
    have HB1 := Lib.hid hb
    obtain ⟨W2, hW2⟩ : ∃ W2, W1.alloc (.cells #[.int .i64 0, .string ⟨#[]⟩] 23) = W2 := ⟨_, rfl⟩
    obtain ⟨Y, hY⟩ : ∃ Y, W1.heap.size = Y := ⟨_, rfl⟩
    have HY := Lib.hid (show Blk W2 Y 23 #[.int .i64 0, .string ⟨#[]⟩] by rw [← hW2, ← hY]; exact blk_new _ _ _)
    have HB2 := Lib.hid (show Below w.heap.size w W2 by rw [← hW2]; exact HB1.out.alloc HB1.out.size _)
    have HW2 := Lib.hid hW2
    have HYE := Lib.hid hY
    clear hb hW2 hY HP
    go_wp2_with fail
    rw [HW2.out, HYE.out]
    refine (HD.out _).mono ?_
    rintro e W3 ⟨rfl, hb⟩
    have HB3 := Lib.hid (fb2 HB2.out hb (Nat.le_refl _))
    have c0 : W3.cell? ⟨Y, 0, none⟩ = some (.int .i64 0) := keptC ((blk_cell HY.out 0).trans rfl) hb (blk_lt HY.out)
    have c1 : W3.cell? ⟨Y, 1, none⟩ = some (.string ⟨#[]⟩) := keptC ((blk_cell HY.out 1).trans rfl) hb (blk_lt HY.out)
    have c2 : Y < W3.heap.size := Nat.lt_of_lt_of_le (blk_lt HY.out) hb.size
    have c3 : ¬ Y = W3.heap.size := by omega
    obtain ⟨W4, hW4⟩ : ∃ W4, W3.alloc (.cells #[.int .i64 0, .string ⟨#[]⟩] 23) = W4 := ⟨_, rfl⟩
    have HB4 := Lib.hid (show Below w.heap.size w W4 by rw [← hW4]; exact HB3.out.alloc HB3.out.size _)
    have HW4 := Lib.hid hW4
    clear hb hW4 HD
    go_wp2_with fail
    rw [HW4.out]
    refine (HA.out _ (HG.out.on HB4.out)).mono ?_
    rintro e W5 ⟨rfl, hb⟩
    have HB5 := Lib.hid (fb2 HB4.out hb (Nat.le_refl _))
    clear hb c0 c1 c2 c3
    go_wp2
    go_ret
    exact ⟨rfl, HB5.out⟩
  | some r =>
    rw [hr] at hp hd
    obtain ⟨n, hn⟩ : ∃ n, r.id = n := ⟨_, rfl⟩
    obtain ⟨t, ht⟩ : ∃ t, bs r.x = t := ⟨_, rfl⟩
    have HP := Lib.hid (fun W hW => show Calls Tryd.prog 11 #[.string s] W (fun e w' => e = .returned (.tuple #[.agg #[.int .i64 n, .string t], .int .i64 0]) ∧ Below W.heap.size W w') from by rw [← hn, ← ht]; exact hp W hW)
    have HD := Lib.hid (fun W => show Calls Tryd.prog 12 #[.string s] W (fun e w' => e = .returned (.tuple #[.agg #[.int .i64 n, .string t], .bool true]) ∧ Below W.heap.size W w') from by rw [← hn, ← ht]; exact hd W)
    have hq := fun W => eq_req 9998 n t W
    clear hr hp hd hs hg hn ht
    go_enter Tryd.func4, Tryd.ntmps4
    go_wp2_with fail
    refine (HP.out _ HG.out).mono ?_
    rintro e W1 ⟨rfl, hb⟩
    have HB1 := Lib.hid hb
    obtain ⟨W2, hW2⟩ : ∃ W2, W1.alloc (.cells #[.int .i64 n, .string t] 23) = W2 := ⟨_, rfl⟩
    obtain ⟨Y, hY⟩ : ∃ Y, W1.heap.size = Y := ⟨_, rfl⟩
    have HY := Lib.hid (show Blk W2 Y 23 #[.int .i64 n, .string t] by rw [← hW2, ← hY]; exact blk_new _ _ _)
    have HB2 := Lib.hid (show Below w.heap.size w W2 by rw [← hW2]; exact HB1.out.alloc HB1.out.size _)
    have HW2 := Lib.hid hW2
    have HYE := Lib.hid hY
    clear hb hW2 hY HP
    go_wp2_with fail
    rw [HW2.out, HYE.out]
    refine (HD.out _).mono ?_
    rintro e W3 ⟨rfl, hb⟩
    have HB3 := Lib.hid (fb2 HB2.out hb (Nat.le_refl _))
    have c0 : W3.cell? ⟨Y, 0, none⟩ = some (.int .i64 n) := keptC ((blk_cell HY.out 0).trans rfl) hb (blk_lt HY.out)
    have c1 : W3.cell? ⟨Y, 1, none⟩ = some (.string t) := keptC ((blk_cell HY.out 1).trans rfl) hb (blk_lt HY.out)
    have c2 : Y < W3.heap.size := Nat.lt_of_lt_of_le (blk_lt HY.out) hb.size
    have c3 : ¬ Y = W3.heap.size := by omega
    obtain ⟨W4, hW4⟩ : ∃ W4, W3.alloc (.cells #[.int .i64 n, .string t] 23) = W4 := ⟨_, rfl⟩
    have HB4 := Lib.hid (show Below w.heap.size w W4 by rw [← hW4]; exact HB3.out.alloc HB3.out.size _)
    have HW4 := Lib.hid hW4
    clear hb hW4 HD
    go_wp2_with fail
    rw [HW4.out]
    refine (HA.out _ (HG.out.on HB4.out)).mono ?_
    rintro e W5 ⟨rfl, hb⟩
    have HB5 := Lib.hid (fb2 HB4.out hb (Nat.le_refl _))
    clear hb c0 c1 c2 c3
    go_wp2
    go_ret
    exact ⟨rfl, HB5.out⟩

end Go.Proofs.YtnfmjkinahbilaaDoor
