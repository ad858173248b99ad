/- Package request's paired: a request's two pairs (written by gen/mkreqpair.py). -/
import Derived.Test.YtnfmjkinahbilaaDoorRqGood
import Derived.Test.YtnfmjkinahbilaaDoorPctStore
import Derived.Deep.RegionHeld3
namespace Go.Proofs.YtnfmjkinahbilaaDoor
open Go.RowKit

theorem wp_whole_abs {o : Oper} {a : Act} {w : World} {K : Act → World → Prop} {Q : Exit → Act → World → Prop} (ty : TypeId) (x y : Operand) (ho : o.op = .store ty x y)
    (g : Nat) (cells : Array Value) (hx : a.eval x = .pointer (some ⟨g, 0, none⟩)) (hy : a.eval y = .agg cells) (T : TypeId) (old : Array Value) (hg : Blk w g T old) (hi : (Tryd.prog.info? ty).map (·.size) = some cells.size)
    (hold : old.size = cells.size) (h1 : cells.all (·.oneCell') = true)
    (h : ∀ w', Blk w' g T cells → w.grownBy w' (some g) → K (a.put o.dst undef) w') : Oper.wp Tryd.prog o a w K Q :=
  wp_store_row ty x y ho g cells hx hy T old hg hi hold h1 (h _ (blk_row hg cells) (grown_set _ _ _))
theorem cellY {w w' : World} {G g o : Nat} {v : Value} (h : w.cell? ⟨g, o, none⟩ = some v) (hg : w.grownBy w' (some G)) (hlt : g < w.heap.size) (hne : g ≠ G) : w'.cell? ⟨g, o, none⟩ = some v := by
  have e := hg.block g hlt (fun c => hne (by injection c))
  unfold World.cell? at h ⊢
  dsimp only at h ⊢
  rw [e]; exact h
theorem four_one (a b c d : ByteArray) : (#[Value.string a, Value.string b, Value.string c, Value.string d].all fun x => x.oneCell') = true := by
  have h : ∀ s : ByteArray, (Value.string s).oneCell' = true := fun _ => rfl
  simp [h]
theorem req_one (i : Int) (s : ByteArray) : (#[Value.int .i64 i, Value.string s].all fun x => x.oneCell') = true := by
  have h : ∀ s : ByteArray, (Value.string s).oneCell' = true := fun _ => rfl
  have h2 : (Value.int .i64 i).oneCell' = true := rfl
  simp [h, h2]
/- the values: a request's pairs, a request -/
def four (T s : ByteArray) : Value := .agg #[.string ⟨#[105, 100]⟩, .string T, .string ⟨#[113, 117, 101, 114, 121]⟩, .string s]

set_option maxRecDepth 100000 in
set_option maxHeartbeats 2000000 in
theorem paired_calls (i : Int) (s : ByteArray) (h0 : -9223372036854775808 ≤ i) (h1 : i ≤ 9223372036854775807) (T : ByteArray) (hT : bs (Lib.itoa i) = T) (w : World) (hg : Good w) :
    Calls Tryd.prog 13 #[.agg #[.int .i64 i, .string s]] w fun e w' => e = .returned (.agg #[.string ⟨#[105, 100]⟩, .string T, .string ⟨#[113, 117, 101, 114, 121]⟩, .string s]) ∧ Below w.heap.size w w' := by
  obtain ⟨X, hX⟩ : ∃ X, w.heap.size = X := ⟨_, rfl⟩
  obtain ⟨Y, hY⟩ : ∃ Y, w.heap.size + 1 = Y := ⟨_, rfl⟩
  obtain ⟨W1, hW1⟩ : ∃ W1, (w.alloc (.cells #[.int .i64 i, .string s] 23)).alloc (.cells #[.string ⟨#[]⟩, .string ⟨#[]⟩, .string ⟨#[]⟩, .string ⟨#[]⟩] 40) = W1 := ⟨_, rfl⟩
  have HK := Lib.hid (show Blk W1 X 23 #[.int .i64 i, .string s] by rw [← hW1, ← hX]; exact blk_alloc (blk_new _ _ _) _)
  have HY := Lib.hid (show Blk W1 Y 40 #[.string ⟨#[]⟩, .string ⟨#[]⟩, .string ⟨#[]⟩, .string ⟨#[]⟩] by
    rw [← hW1, ← hY]
    have h := blk_new (w.alloc (.cells #[.int .i64 i, .string s] 23)) 40 #[.string ⟨#[]⟩, .string ⟨#[]⟩, .string ⟨#[]⟩, .string ⟨#[]⟩]
    rw [show (w.alloc (.cells #[.int .i64 i, .string s] 23)).heap.size = w.heap.size + 1 by simp] at h
    exact h)
  have HB := Lib.hid (show Below w.heap.size w W1 by rw [← hW1]; exact (box_below _ _).alloc (by simp) _)
  have HG := Lib.hid (hg.on HB.out)
  have HI := Lib.hid (fun W hW => itoa_calls i h0 h1 T hT W hW)
  have HSA := Lib.hid (show W1.cell? ⟨X, 0, none⟩ = some (.int .i64 i) ∧ W1.cell? ⟨X, 1, none⟩ = some (.string s) from ⟨(blk_cell HK.out 0).trans rfl, (blk_cell HK.out 1).trans rfl⟩)
  have HXL := Lib.hid (blk_lt HK.out)
  have HXY := Lib.hid (show X ≠ Y by omega)
  have HX := Lib.hid hX
  have HYE := Lib.hid hY
  have HW1 := Lib.hid hW1
  clear hg h0 h1 hT hX hY hW1
  go_enter Tryd.func13, Tryd.ntmps13
  go_wp2_with fail
  rw [HW1.out, HYE.out, HX.out]
  refine wp_region_held_drew (S := (fun W => W.cell? ⟨X, 0, none⟩ = some (.int .i64 i) ∧ W.cell? ⟨X, 1, none⟩ = some (.string s))) (by kernel_rfl) ?_ (fun hHeld => ?_)
  · (try dsimp only); exact HSA.out
  obtain ⟨Wd, hWd⟩ : ∃ Wd, W1.drew = Wd := ⟨_, rfl⟩
  rw [hWd] at hHeld ⊢
  have HBS := Lib.hid (show Below W1.heap.size W1 Wd by rw [← hWd]; exact (Below.refl _ _).drew)
  clear hWd
  refine wpAnyH_take (i := 0) (oi := ⟨some 3, _, _, _, _, _⟩) (v := ?_) rfl (by kernel_rfl) (by kernel_rfl) (by kernel_rfl) (fun _ _ _ h => h) (Or.inl ⟨by kernel_rfl, ?_⟩) (by assumption) ?_
  rotate_left
  · (intro ww hSw; (try dsimp only at hSw); go_simp); (try with_reducible rfl)
  (try simp only [Act.put, List.setIfInBounds_toArray, List.set_cons_zero, List.set_cons_succ])
  refine wpAnyH_take (i := 1) (oi := ⟨some 4, _, _, _, _, _⟩) (v := ?_) rfl (by kernel_rfl) (by kernel_rfl) (by kernel_rfl) (fun _ _ _ h => h) (Or.inl ⟨by kernel_rfl, ?_⟩) (by assumption) ?_
  rotate_left
  · (intro ww hSw; (try dsimp only at hSw); obtain ⟨d0, d1⟩ := hSw; go_simp); (try with_reducible rfl)
  (try simp only [Act.put, List.setIfInBounds_toArray, List.set_cons_zero, List.set_cons_succ])
  refine wpAnyH_take (i := 4) (oi := ⟨some 7, _, _, _, _, _⟩) (v := ?_) rfl (by kernel_rfl) (by kernel_rfl) (by kernel_rfl) (fun _ _ _ h => h) (Or.inl ⟨by kernel_rfl, ?_⟩) (by assumption) ?_
  rotate_left
  · (intro ww hSw; (try dsimp only at hSw); go_simp); (try with_reducible rfl)
  (try simp only [Act.put, List.setIfInBounds_toArray, List.set_cons_zero, List.set_cons_succ])
  refine wpAnyH_take (i := 5) (oi := ⟨some 8, _, _, _, _, _⟩) (v := ?_) rfl (by kernel_rfl) (by kernel_rfl) (by kernel_rfl) (fun _ _ _ h => h) (Or.inl ⟨by kernel_rfl, ?_⟩) (by assumption) ?_
  rotate_left
  · (intro ww hSw; (try dsimp only at hSw); obtain ⟨d0, d1⟩ := hSw; go_simp); (try with_reducible rfl)
  (try simp only [Act.put, List.setIfInBounds_toArray, List.set_cons_zero, List.set_cons_succ])
  refine wpAnyH_take (i := 6) (oi := ⟨some 9, _, _, _, _, _⟩) (v := ?_) rfl (by kernel_rfl) (by kernel_rfl) (by kernel_rfl) (fun _ _ _ h => h) (Or.inl ⟨by kernel_rfl, ?_⟩) (by assumption) ?_
  rotate_left
  · (intro ww hSw; (try dsimp only at hSw); go_simp); (try with_reducible rfl)
  (try simp only [Act.put, List.setIfInBounds_toArray, List.set_cons_zero, List.set_cons_succ])
  refine wpAnyH_ready (rs := [2]) (by kernel_rfl) (by simp) ?_
  refine AllReadyH.cons rfl (fun K hK => ?_) AllReadyH.nil
  go_simp
  refine (HI.out Wd (HG.out.on HBS.out)).mono ?_
  rintro e W100 ⟨rfl, hb⟩
  have hbx : Below Wd.heap.size Wd W100 := hb
  clear hb
  replace HBS := Lib.hid (fb2 HBS.out hbx (Nat.le_refl _))
  clear hbx
  go_wp2_with fail
  refine hK.out _ _ ?_ (fun hHeld => ?_)
  · (try dsimp only); first | exact HSF.out | exact ⟨keptC HSA.out.1 HBS.out HXL.out, keptC HSA.out.2 HBS.out HXL.out⟩
  clear hK K
  (try simp only [Act.put, List.setIfInBounds_toArray, List.set_cons_zero, List.set_cons_succ])
  refine wpAnyH_take (i := 3) (oi := ⟨some 6, _, _, _, _, _⟩) (v := ?_) rfl (by kernel_rfl) (by kernel_rfl) (by kernel_rfl) (fun _ _ _ h => h) (Or.inl ⟨by kernel_rfl, ?_⟩) (by assumption) ?_
  rotate_left
  · (intro ww hSw; (try dsimp only at hSw); go_simp); (try with_reducible rfl)
  (try simp only [Act.put, List.setIfInBounds_toArray, List.set_cons_zero, List.set_cons_succ])
  refine wpAnyH_take (i := 7) (oi := ⟨some 10, _, _, _, _, _⟩) (v := ?_) rfl (by kernel_rfl) (by kernel_rfl) (by kernel_rfl) (fun _ _ _ h => h) (Or.inl ⟨by kernel_rfl, ?_⟩) (by assumption) ?_
  rotate_left
  · (intro ww hSw; (try dsimp only at hSw); go_simp); (try with_reducible rfl)
  (try simp only [Act.put, List.setIfInBounds_toArray, List.set_cons_zero, List.set_cons_succ])
  refine wpAnyH_ready (rs := [8]) (by kernel_rfl) (by simp) ?_
  refine AllReadyH.cons rfl (fun K hK => ?_) AllReadyH.nil
  refine wp_whole_abs 40 (.tmp 2) (.tmp 10) rfl Y #[.string ⟨#[105, 100]⟩, .string T, .string ⟨#[113, 117, 101, 114, 121]⟩, .string s] (by kernel_rfl) (by kernel_rfl) 40 #[.string ⟨#[]⟩, .string ⟨#[]⟩, .string ⟨#[]⟩, .string ⟨#[]⟩] (blk_on HY.out HBS.out (blk_lt HY.out)) (by kernel_rfl) rfl (four_one _ _ _ _) ?_
  intro W101 hK6 hg6
  have HK6 := Lib.hid hK6
  have HSF := Lib.hid (show (fun W : World => W.cell? ⟨X, 0, none⟩ = some (.int .i64 i) ∧ W.cell? ⟨X, 1, none⟩ = some (.string s)) W101 from ⟨cellY (keptC HSA.out.1 HBS.out HXL.out) hg6 (Nat.lt_of_lt_of_le HXL.out HBS.out.size) HXY.out, cellY (keptC HSA.out.2 HBS.out HXL.out) hg6 (Nat.lt_of_lt_of_le HXL.out HBS.out.size) HXY.out⟩)
  have HB6 := Lib.hid (show Below w.heap.size w W101 from (HB.out.trans (HBS.out.mono HB.out.size)).grown hg6 (by have h1 := HB.out.size; have h2 := HBS.out.size; omega) (fun q hq => by injection hq with hq; have := HYE.out; omega))
  clear hK6 hg6
  refine hK.out _ _ ?_ (fun hHeld => ?_)
  · (try dsimp only); first | exact HSF.out | exact ⟨keptC HSA.out.1 HBS.out HXL.out, keptC HSA.out.2 HBS.out HXL.out⟩
  clear hK K
  (try simp only [Act.put, List.setIfInBounds_toArray])
  refine wpAnyH_done (by kernel_rfl) ?_ _
  go_wp2
  have q0 : W101.cell? ⟨Y, 0, none⟩ = some (.string ⟨#[105, 100]⟩) := (blk_cell HK6.out 0).trans rfl
  have q1 : W101.cell? ⟨Y, 1, none⟩ = some (.string T) := (blk_cell HK6.out 1).trans rfl
  have q2 : W101.cell? ⟨Y, 2, none⟩ = some (.string ⟨#[113, 117, 101, 114, 121]⟩) := (blk_cell HK6.out 2).trans rfl
  have q3 : W101.cell? ⟨Y, 3, none⟩ = some (.string s) := (blk_cell HK6.out 3).trans rfl
  refine bodyPost_ret (v := .agg #[.string ⟨#[105, 100]⟩, .string T, .string ⟨#[113, 117, 101, 114, 121]⟩, .string s]) (by simp [results, Tryd.results13, q0, q1, q2, q3, go_sem]) rfl ⟨rfl, HB6.out⟩

end Go.Proofs.YtnfmjkinahbilaaDoor
