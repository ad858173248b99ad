/- The law StoreNil: it is true of every triple; what a nil store's methods tell. -/
import Derived.Test.YtnojdchodmogbaaStoAsk
import Derived.Test.YtnojdchodmogbaaStoAwake
import Derived.Test.YtnojdchodmogbaaStoRem
import Derived.Test.YtnojdchodmogbaaRefTexts
namespace Go.Proofs.Ytnojdchodmogbaa
open Go.RowKit

set_option maxHeartbeats 1000000 in
theorem match_nil (p : TripL) (w : World) :
    Calls Try.prog 5 #[.pointer none, p.v] w fun e w' => e = .returned (.tuple #[noTable, .int .i64 7]) ∧ Below w.heap.size w w' := by
  have bx0 := Lib.hid (blk_new w 25 (cells12 p))
  have HR := Lib.hid (fun W => refused_nil p W)
  simp only [TripL.v]
  go_enter Try.func5, Try.ntmps5
  go_wp2_with fail
  refine (HR.out _).mono ?_
  rintro e w1 ⟨rfl, hb1⟩
  have br1 := Lib.hid (blk_on (blk_new (w.alloc (.cells (cells12 p) 25)) 33 #[.slice none 0 0, .slice none 0 0]) hb1 (by simp))
  have bs1 := Lib.hid (Below.trans ((Below.refl w.heap.size w).alloc (Nat.le_refl _) (.cells (cells12 p) 25)) (((Below.refl w.heap.size _).alloc (by simp) (.cells #[.slice none 0 0, .slice none 0 0] 33)).trans (hb1.mono (by simp; omega))))
  clear hb1
  obtain ⟨A, hAe⟩ : ∃ A, w.heap.size + 1 = A := ⟨_, rfl⟩
  have hA : Blk w1 A 33 #[.slice none 0 0, .slice none 0 0] := by rw [← hAe]; simpa using br1.out
  simp only [hAe]
  have HAE := Lib.hid hAe
  clear hAe br1
  go_wp2_with (refine whole_abs 33 (.tmp 4) (.tmp 17) ⟨rfl, rfl⟩ A #[.slice none 0 0, .slice none 0 0] (by kernel_rfl) (by kernel_rfl) 33 #[.slice none 0 0, .slice none 0 0] (by first | exact hA | exact blkDrew hA) (by kernel_rfl) rfl (by kernel_rfl) ?_; intro w2 hA2 hG2)
  have hb := bs1.out.grown hG2.out bs1.out.size (fun k hk => by injection hk with hk; have := HAE.out; omega)
  exact match_ret _ _ A _ _ _ _ (by first | rfl | simp) (by first | rfl | simp) (by first | exact hA2.out | exact blkDrew hA2.out) ⟨rfl, by first | exact hb | exact hb.drew⟩

set_option maxHeartbeats 1000000 in
theorem ask_nil (p : TripL) (w : World) :
    Calls Try.prog 6 #[.pointer none, p.v] w fun e w' => e = .returned (.tuple #[.bool false, .int .i64 7]) ∧ Below w.heap.size w w' := by
  have HR := Lib.hid (fun W => refused_nil p W)
  simp only [TripL.v]
  go_enter Try.func6, Try.ntmps6
  go_wp2_with fail
  refine (HR.out _).mono ?_
  rintro e w1 ⟨rfl, hb1⟩
  replace hb1 := one_box hb1
  go_wp2
  go_ret2
  exact ⟨rfl, by first | exact hb1 | exact hb1.drew⟩

set_option maxHeartbeats 1000000 in
theorem len_nil (w : World) : Calls Try.prog 9 #[.pointer none] w fun e w' => e = .returned (.int .i64 0) ∧ w' = w := by
  go_enter Try.func9, Try.ntmps9
  go_wp2
  go_ret
  exact ⟨rfl, rfl⟩

set_option maxHeartbeats 1000000 in
theorem all_nil_store (w : World) : Calls Try.prog 10 #[.pointer none] w fun e w' => e = .returned (.slice none 0 0) ∧ w' = w := by
  go_enter Try.func10, Try.ntmps10
  go_wp2
  go_ret
  exact ⟨rfl, rfl⟩

set_option maxHeartbeats 1000000 in
theorem has_nil (p : TripL) (w : World) : Calls Try.prog 8 #[.pointer none, p.v] w fun e w' => e = .returned (.bool false) ∧ Below w.heap.size w w' := by
  simp only [TripL.v]
  go_enter Try.func8, Try.ntmps8
  go_wp2
  go_ret
  exact ⟨rfl, by first | exact box_below _ _ | exact (box_below _ _).drew⟩

set_option maxHeartbeats 1000000 in
theorem remove_nil (p : TripL) (w : World) : Calls Try.prog 7 #[.pointer none, p.v] w fun e w' => e = .returned (.bool false) ∧ Below w.heap.size w w' := by
  simp only [TripL.v]
  go_enter Try.func7, Try.ntmps7
  go_wp2
  go_ret
  exact ⟨rfl, by first | exact box_below _ _ | exact (box_below _ _).drew⟩

set_option maxHeartbeats 1000000 in
theorem add_nil (p : TripL) (w : World) : Calls Try.prog 4 #[.pointer none, p.v] w fun e w' => e = .returned (.tuple #[.bool false, .int .i64 7]) ∧ Below w.heap.size w w' := by
  simp only [TripL.v]
  go_enter Try.func4, Try.ntmps4
  go_wp2
  go_ret2
  exact ⟨rfl, by first | exact box_below _ _ | exact (box_below _ _).drew⟩


set_option maxHeartbeats 2000000 in
theorem sameTable_nil (w : World) : Calls Try.prog 11 #[noTable, noTable] w fun e w' => e = .returned (.bool true) ∧ Below w.heap.size w w' := by
  have ST := fun W => SameTexts_calls [] (.slice none 0 0) (.slice none 0 0) W (by decide) (.inl ⟨rfl, rfl⟩) (.inl ⟨rfl, rfl⟩)
  simp only [noTable]
  go_enter Try.func11, Try.ntmps11
  go_wp2_with fail
  refine (ST _).mono ?_
  rintro e w1 ⟨rfl, n, rfl⟩
  go_wp2
  go_loopw [5] (fun i wr => i = .int .i64 0 ∧ Below w.heap.size w wr ∧ wr.cell? ⟨w.heap.size, 1, none⟩ = some (.slice none 0 0)) (fun _ _ => 0)
  case atStart =>
    refine ⟨rfl, ?_, by simp [go_sem]⟩
    have h := ((Below.refl w.heap.size w).alloc (Nat.le_refl _) (.cells #[.slice none 0 0, .slice none 0 0] 33)).alloc (by simp) (.cells #[.slice none 0 0, .slice none 0 0] 33)
    first | exact drewN_below h _ | exact (drewN_below h _).drew | exact h
  case round =>
    obtain ⟨rfl, hb, hc⟩ := hrel
    go_wp2
    go_ret
    exact ⟨rfl, by first | exact hb | exact hb.drew⟩


set_option maxRecDepth 100000 in
set_option maxHeartbeats 8000000 in
theorem storeNil_calls (t : TripL) (w : World) : Calls Try.prog 3 #[t.v] w fun e w' => e = .returned (.bool true) ∧ Below w.heap.size w w' := by
  have bx0 := Lib.hid (blk_new w 25 (cells12 t))
  have PM := Lib.hid (fun W => match_nil t W)
  have PK := Lib.hid (fun W => ask_nil t W)
  have PR := Lib.hid (fun W => remove_nil t W)
  have PH := Lib.hid (fun W => has_nil t W)
  have PA := Lib.hid (fun W => add_nil t W)
  simp only [TripL.v]
  go_enter Try.func3, Try.ntmps3
  go_wp2_with fail
  refine (PA.out _).mono ?_
  rintro e w1 ⟨rfl, hb1⟩
  have by1 := Lib.hid (blk_on bx0.out hb1 (blk_lt bx0.out))
  have bx1 := Lib.hid (box12_of by1.out)
  replace hb1 := Lib.hid (one_box hb1)
  obtain ⟨⟨c0, c1, c2, c3⟩, ⟨c4, c5, c6, c7⟩, ⟨c8, c9, c10, c11⟩⟩ := bx1.out
  go_wp2_with fail
  refine (PM.out _).mono ?_
  rintro e w2 ⟨rfl, hb2⟩
  unfold noTable
  clear c0 c1 c2 c3 c4 c5 c6 c7 c8 c9 c10 c11
  have by2 := Lib.hid (blk_on by1.out hb2 (blk_lt by1.out))
  replace hb2 := Lib.hid (first_below hb1.out hb2)
  have bya := Lib.hid (blk_on by2.out (box_below w2 (.cells #[.slice none 0 0, .slice none 0 0] 33)) (blk_lt by2.out))
  have bxa := Lib.hid (box12_of bya.out)
  have bta := Lib.hid (blk_new w2 33 #[.slice none 0 0, .slice none 0 0])
  have hba := Lib.hid (hb2.out.alloc hb2.out.size (.cells #[.slice none 0 0, .slice none 0 0] 33))
  obtain ⟨⟨c0, c1, c2, c3⟩, ⟨c4, c5, c6, c7⟩, ⟨c8, c9, c10, c11⟩⟩ := bxa.out
  go_wp2_with fail
  refine (PK.out _).mono ?_
  rintro e w3 ⟨rfl, hb3⟩
  clear c0 c1 c2 c3 c4 c5 c6 c7 c8 c9 c10 c11
  have by3 := Lib.hid (blk_on bya.out hb3 (blk_lt bya.out))
  have bx3 := Lib.hid (box12_of by3.out)
  have bt3 := Lib.hid (blk_on bta.out hb3 (blk_lt bta.out))
  replace hb3 := Lib.hid (first_below hba.out hb3)
  obtain ⟨⟨c0, c1, c2, c3⟩, ⟨c4, c5, c6, c7⟩, ⟨c8, c9, c10, c11⟩⟩ := bx3.out
  go_wp2_with fail
  refine (PR.out _).mono ?_
  rintro e w4 ⟨rfl, hb4⟩
  clear c0 c1 c2 c3 c4 c5 c6 c7 c8 c9 c10 c11
  have by4 := Lib.hid (blk_on by3.out hb4 (blk_lt by3.out))
  have bx4 := Lib.hid (box12_of by4.out)
  have bt4 := Lib.hid (blk_on bt3.out hb4 (blk_lt bt3.out))
  replace hb4 := Lib.hid (first_below hb3.out hb4)
  obtain ⟨⟨c0, c1, c2, c3⟩, ⟨c4, c5, c6, c7⟩, ⟨c8, c9, c10, c11⟩⟩ := bx4.out
  go_wp2_with fail
  refine (PH.out _).mono ?_
  rintro e w5 ⟨rfl, hb5⟩
  clear c0 c1 c2 c3 c4 c5 c6 c7 c8 c9 c10 c11
  have by5 := Lib.hid (blk_on by4.out hb5 (blk_lt by4.out))
  have bx5 := Lib.hid (box12_of by5.out)
  have bt5 := Lib.hid (blk_on bt4.out hb5 (blk_lt bt4.out))
  replace hb5 := Lib.hid (first_below hb4.out hb5)
  obtain ⟨⟨c0, c1, c2, c3⟩, ⟨c4, c5, c6, c7⟩, ⟨c8, c9, c10, c11⟩⟩ := bx5.out
  go_wp2_with fail
  refine (len_nil _).mono ?_
  rintro e w6 ⟨rfl, rfl⟩
  go_wp2_with fail
  refine (all_nil_store _).mono ?_
  rintro e w7 ⟨rfl, rfl⟩
  clear c0 c1 c2 c3 c4 c5 c6 c7 c8 c9 c10 c11
  obtain ⟨d0, d1⟩ : w7.cell? ⟨w2.heap.size, 0, none⟩ = some (.slice none 0 0) ∧ w7.cell? ⟨w2.heap.size, 1, none⟩ = some (.slice none 0 0) := by
    rw [blk_cell bt5.out, blk_cell bt5.out]; exact ⟨rfl, rfl⟩
  go_wp2_with fail
  refine (sameTable_nil _).mono ?_
  rintro e w8 ⟨rfl, hb8⟩
  replace hb8 := Lib.hid (first_below hb5.out hb8)
  clear d0 d1
  go_wp2_with fail
  refine (awake_calls _).mono ?_
  rintro e w9 ⟨rfl, hb9⟩
  replace hb9 := Lib.hid (first_below hb8.out hb9)
  go_wp2
  go_ret
  exact ⟨rfl, by first | exact hb9.out | exact hb9.out.drew⟩

end Go.Proofs.Ytnojdchodmogbaa
