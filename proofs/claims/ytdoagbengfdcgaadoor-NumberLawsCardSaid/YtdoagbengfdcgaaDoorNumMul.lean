/- Products of right numbers: package number's Mul. -/
import Derived.Test.YtdoagbengfdcgaaDoorNumBox
namespace Go.Proofs.YtdoagbengfdcgaaDoor
open Go.RowKit

theorem prod_bound (v v' : Int) (h1 : -999999999 ≤ v) (h2 : v ≤ 999999999) (h1' : -999999999 ≤ v') (h2' : v' ≤ 999999999) : -999999998000000001 ≤ v * v' ∧ v * v' ≤ 999999998000000001 := by
  rcases Int.le_total 0 v' with h | h
  · have := mul_bound v v' 999999999 999999999 h1 h2 h h2' (by omega); omega
  · have := mul_bound v (-v') 999999999 999999999 h1 h2 (by omega) (by omega) (by omega)
    rw [Int.mul_neg] at this; omega

set_option maxHeartbeats 2000000 in
theorem Mul_right (v : Int) (s : Nat) (d : Bool) (v' : Int) (s' : Nat) (d' : Bool) (w : World) (hg : Good w) (hr : rightZ v s d = true) (hr' : rightZ v' s' d' = true) (hs : s ≤ 4) (h1 : -999999999 ≤ v) (h2 : v ≤ 999999999) (hs' : s' ≤ 4) (h1' : -999999999 ≤ v') (h2' : v' ≤ 999999999) :
    Calls Tryd.prog 24 #[.agg #[.int .i64 v, .int .i64 s, .bool d], .agg #[.int .i64 v', .int .i64 s', .bool d']] w fun e w' => e = .returned (reckL (madeL (v * v') (s + s') (decOf d d'))) ∧ Below w.heap.size w w' := by
  have HR := Lib.hid hr
  have HR' := Lib.hid hr'
  have hp := prod_bound v v' h1 h2 h1' h2'
  have hre : ∀ W, Good W → Calls Tryd.prog 40 #[.int .i64 (v * v'), .int .i64 ((s : Int) + (s' : Int)), .bool (decOf d d')] W fun e w' => e = .returned (reckL (madeL (v * v') (s + s') (decOf d d'))) ∧ Below W.heap.size W w' := fun W hW => by
    have := reckoned_calls (v * v') (s + s') (decOf d d') W hW (by omega) (by omega) (by omega)
    rw [show ((s + s' : Nat) : Int) = (s : Int) + (s' : Int) by omega] at this
    exact this
  have HM := Lib.hid hre
  have HG := Lib.hid hg
  clear hr hr' hre hg
  generalize madeL (v * v') (s + s') (decOf d d') = R at HM
  obtain ⟨⟨Rv, Rs, Rd⟩, Rb⟩ := R
  have n1 : ¬ w.heap.size = w.heap.size + 1 + 1 := by omega
  have n2 : ¬ w.heap.size + 1 + 1 = w.heap.size := by omega
  go_enter Tryd.func24, Tryd.ntmps24
  go_wp2_with fail
  refine (right_calls _ _ _ _).mono ?_
  rintro e w1 ⟨rfl, hb1⟩
  rw [HR.out]
  obtain ⟨hc, hf⟩ := bcell hb1
  have hz : w.heap.size + 2 < w1.heap.size := by have := hb1.size; simp at this; omega
  go_wp2_with fail
  refine (right_calls _ _ _ _).mono ?_
  rintro e w2 ⟨rfl, hb2'⟩
  rw [HR'.out]
  have hb2 := bnext hb1 hb2'
  clear hc hf hz
  obtain ⟨hc, hf⟩ := bcell hb2
  have hz : w.heap.size + 2 < w2.heap.size := by have := hb2.size; simp at this; omega
  have hG : Good w2 := ((((HG.out.alloc _).alloc _).alloc _)).on hb2
  have hB : Below (boxed w 23 (.int .i64 v) (.int .i64 s) (.bool d) (.int .i64 v') (.int .i64 s') (.bool d') (.int .i64 0) (.int .i64 0) (.bool false)).heap.size (boxed w 23 (.int .i64 v) (.int .i64 s) (.bool d) (.int .i64 v') (.int .i64 s') (.bool d') (.int .i64 0) (.int .i64 0) (.bool false)) w2 := hb2
  clear hb1 hb2 hb2' hf hz
  obtain ⟨c0, c1, c2, c3, c4, c5, ⟨c6, c7, c8⟩, c9⟩ := boxes hB
  clear hc
  have hw0 : IntKind.i64.wrap (v * v') = v * v' := IntWalk.i64_in _ (by omega)
  have hw1 : IntKind.i64.wrap ((s : Int) + (s' : Int)) = (s : Int) + (s' : Int) := IntWalk.i64_in _ (by omega)
  cases d with
  | true =>
    have HO := Lib.hid (show decOf true d' = true from rfl)
    rw [HO.out] at HM
    go_wp2_with fail
    refine (HM.out _ ?_).mono ?_
    · first | exact hG | exact hG.drew
    rintro e wn ⟨rfl, hbn⟩
    (first | replace hG := hG.on hbn | replace hG := hG.drew.on hbn)
    (first | replace hB := bnext hB hbn | replace hB := bnext hB.drew hbn)
    clear hbn c0 c1 c2 c3 c4 c5 c6 c7 c8 c9
    obtain ⟨c0, c1, c2, c3, c4, c5, ⟨c6, c7, c8⟩, c9⟩ := boxes hB
    simp only [reckL, NumL.val]
    go_wp2
    refine bodyPost_ret (v := .tuple #[.agg #[.int .i64 Rv, .int .i64 Rs, .bool Rd], .int .i64 (overZ Rb)]) (by simp [results, Tryd.results24, *, go_sem]) rfl ⟨rfl, ?_⟩
    exact ((((boxed_below hB)).setCell (by simp; omega) _).setCell (by simp; omega) _).setCell (by simp; omega) _
  | false =>
    have HO := Lib.hid (show decOf false d' = d' from rfl)
    rw [HO.out] at HM
    go_wp2_with fail
    refine (HM.out _ ?_).mono ?_
    · first | exact hG | exact hG.drew
    rintro e wn ⟨rfl, hbn⟩
    (first | replace hG := hG.on hbn | replace hG := hG.drew.on hbn)
    (first | replace hB := bnext hB hbn | replace hB := bnext hB.drew hbn)
    clear hbn c0 c1 c2 c3 c4 c5 c6 c7 c8 c9
    obtain ⟨c0, c1, c2, c3, c4, c5, ⟨c6, c7, c8⟩, c9⟩ := boxes hB
    simp only [reckL, NumL.val]
    go_wp2
    refine bodyPost_ret (v := .tuple #[.agg #[.int .i64 Rv, .int .i64 Rs, .bool Rd], .int .i64 (overZ Rb)]) (by simp [results, Tryd.results24, *, go_sem]) rfl ⟨rfl, ?_⟩
    exact ((((boxed_below hB)).setCell (by simp; omega) _).setCell (by simp; omega) _).setCell (by simp; omega) _

end Go.Proofs.YtdoagbengfdcgaaDoor
