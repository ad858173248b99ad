/- The law PoolNil: it is true of any act (written by gen/mklawpolnil.py). -/
import Derived.Test.YtheefhogphlkiaaPolAwake
import Derived.Test.YtheefhogphlkiaaPolCount
namespace Go.Proofs.Ytheefhogphlkiaa
open Go.RowKit

/- an act in a block -/
def Act5 (w : World) (g o : Nat) (a : ActL) : Prop := w.cell? ⟨g, o, none⟩ = some (.int .i64 a.kind) ∧ w.cell? ⟨g, o + 1, none⟩ = some (.int .i64 a.n) ∧ Msg3 w g (o + 2) a.m
theorem Act5.on {w w' : World} {g o B : Nat} {x : ActL} (h : Act5 w g o x) (hb : Below B w w') (hg : g < B) : Act5 w' g o x :=
  ⟨keptC h.1 hb hg, keptC h.2.1 hb hg, h.2.2.on hb hg⟩
theorem act5_new (w : World) (a : ActL) : Act5 (w.alloc (.cells #[.int .i64 a.kind, .int .i64 a.n, .int .i64 a.m.f, .int .i64 a.m.t, .string a.m.b] 31)) w.heap.size 0 a := by
  have h := blk_new w 31 #[.int .i64 a.kind, .int .i64 a.n, .int .i64 a.m.f, .int .i64 a.m.t, .string a.m.b]
  exact ⟨(blk_cell h 0).trans rfl, (blk_cell h 1).trans rfl, (blk_cell h 2).trans rfl, (blk_cell h 3).trans rfl, (blk_cell h 4).trans rfl⟩

set_option maxRecDepth 100000 in
set_option maxHeartbeats 4000000 in
theorem poolNil_calls (a : ActL) (w : World) : Calls Try.prog 7 #[.agg #[.int .i64 a.kind, .int .i64 a.n, .int .i64 a.m.f, .int .i64 a.m.t, .string a.m.b]] w fun e w' => e = .returned (.bool true) ∧ Below w.heap.size w w' := by
  obtain ⟨X, hX⟩ : ∃ X, w.heap.size = X := ⟨_, rfl⟩
  obtain ⟨W1, hW1⟩ : ∃ W1, w.alloc (.cells #[.int .i64 a.kind, .int .i64 a.n, .int .i64 a.m.f, .int .i64 a.m.t, .string a.m.b] 31) = W1 := ⟨_, rfl⟩
  have HB1 := Lib.hid (show Below w.heap.size w W1 by rw [← hW1]; exact box_below _ _)
  have HA1 := Lib.hid (show Act5 W1 X 0 a by rw [← hW1, ← hX]; exact act5_new w a)
  have HW1 := Lib.hid hW1
  have HX := Lib.hid hX
  have HXL := Lib.hid (show X < W1.heap.size by rw [← hW1, ← hX]; simp)
  have heq := fun W => eql_msg noMsg noMsg W
  rw [meq_self] at heq
  simp only [noMsg] at heq
  clear hX hW1
  have E0 := HA1.out
  obtain ⟨c0, c1, c2, c3, c4⟩ := E0
  simp only [Nat.zero_add] at c1 c2 c3 c4
  go_enter Try.func7, Try.ntmps7
  go_wp2_with fail
  rw [HW1.out, HX.out]
  refine (take_nil a.n _).mono ?_
  rintro e W2 ⟨rfl, hb⟩
  have HB2 := Lib.hid (fb2 HB1.out hb (Nat.le_refl _))
  have HA2 := Lib.hid (HA1.out.on hb HXL.out)
  have HXL2 := Lib.hid (Nat.lt_of_lt_of_le HXL.out hb.size)
  clear hb c0 c1 c2 c3 c4
  obtain ⟨c0, c1, c2, c3, c4⟩ := HA2.out
  simp only [Nat.zero_add] at c1 c2 c3 c4
  obtain ⟨Y, hY⟩ : ∃ Y, W2.heap.size = Y := ⟨_, rfl⟩
  obtain ⟨W3, hW3⟩ : ∃ W3, W2.alloc (.cells #[.int .i64 0, .int .i64 0, .string ⟨#[]⟩] 29) = W3 := ⟨_, rfl⟩
  have HB3 := Lib.hid (show Below w.heap.size w W3 by rw [← hW3]; exact HB2.out.alloc HB2.out.size _)
  have HA3 := Lib.hid (show Act5 W3 X 0 a by rw [← hW3]; exact HA2.out.on (box_below _ _) HXL2.out)
  have HXL3 := Lib.hid (show X < W3.heap.size by rw [← hW3]; exact Nat.lt_of_lt_of_le HXL2.out (box_below _ _).size)
  have HM3 := Lib.hid (show Msg3 W3 Y 0 noMsg by
    have h := blk_new W2 29 #[.int .i64 0, .int .i64 0, .string ⟨#[]⟩]
    rw [hY, hW3] at h
    exact ⟨(blk_cell h 0).trans rfl, (blk_cell h 1).trans rfl, (blk_cell h 2).trans rfl⟩)
  have HYL := Lib.hid (show Y < W3.heap.size by rw [← hW3, ← hY]; simp)
  have HW3 := Lib.hid hW3
  have HY := Lib.hid hY
  clear hW3 hY
  have hX2 := HXL2.out
  go_wp2_with fail
  rw [HW3.out, HY.out]
  refine (send_nil a.m _).mono ?_
  rintro e W4 ⟨rfl, hb⟩
  have HB4 := Lib.hid (fb2 HB3.out hb (Nat.le_refl _))
  have HA4 := Lib.hid (HA3.out.on hb HXL3.out)
  have HM4 := Lib.hid (HM3.out.on hb HYL.out)
  have HXL4 := Lib.hid (Nat.lt_of_lt_of_le HXL3.out hb.size)
  clear hb c0 c1 c2 c3 c4 hX2
  obtain ⟨c0, c1, c2, c3, c4⟩ := HA4.out
  obtain ⟨d0, d1, d2⟩ := HM4.out
  simp only [Nat.zero_add, noMsg] at c1 c2 c3 c4 d0 d1 d2
  go_wp2_with fail
  refine (drop_nil a.n _).mono ?_
  rintro e W5 ⟨rfl, hb⟩
  have HB5 := Lib.hid (fb2 HB4.out hb (Nat.le_refl _))
  have HA5 := Lib.hid (HA4.out.on hb HXL4.out)
  have HXL5 := Lib.hid (Nat.lt_of_lt_of_le HXL4.out hb.size)
  clear hb c0 c1 c2 c3 c4 d0 d1 d2
  obtain ⟨c0, c1, c2, c3, c4⟩ := HA5.out
  simp only [Nat.zero_add] at c1 c2 c3 c4
  go_wp2_with fail
  refine (double_nil a.n _).mono ?_
  rintro e W6 ⟨rfl, hb⟩
  have HB6 := Lib.hid (fb2 HB5.out hb (Nat.le_refl _))
  have HA6 := Lib.hid (HA5.out.on hb HXL5.out)
  have HXL6 := Lib.hid (Nat.lt_of_lt_of_le HXL5.out hb.size)
  clear hb c0 c1 c2 c3 c4
  obtain ⟨c0, c1, c2, c3, c4⟩ := HA6.out
  simp only [Nat.zero_add] at c1 c2 c3 c4
  go_wp2_with fail
  refine (len_nil _).mono ?_
  rintro e w' ⟨rfl, hw⟩
  obtain rfl := hw.symm
  clear hw
  go_wp2_with fail
  refine (all_nil _).mono ?_
  rintro e w' ⟨rfl, hw⟩
  obtain rfl := hw.symm
  clear hw
  go_wp2_with fail
  refine (count_nil a.n _).mono ?_
  rintro e w' ⟨rfl, hw⟩
  obtain rfl := hw.symm
  clear hw
  go_wp2_with fail
  refine (awake_calls _).mono ?_
  rintro e W7 ⟨rfl, hb⟩
  have HB7 := Lib.hid (fb2 HB6.out hb (Nat.le_refl _))
  clear hb c0 c1 c2 c3 c4
  go_wp2
  go_ret
  exact ⟨rfl, HB7.out⟩

end Go.Proofs.Ytheefhogphlkiaa
