
/- How many results a part needs: package formula's Needs and the document's, for every part. How many results a part needs, by the document's own answer, for every part. -/
import Derived.Test.YtiliobfgmelncaaFormCheckPlain
import Derived.Test.YtiliobfgmelncaaBlkKit
namespace Go.Proofs.Ytiliobfgmelncaa
open Go.RowKit

theorem need_other {k : Int} (h : k < 1 ∨ 26 < k) : needK k = -1 := by
  unfold needK
  rw [if_neg (by omega), if_neg (by omega), if_neg (by omega), if_neg (by omega)]
theorem kind_cases (k : Int) : (k < 1 ∨ 26 < k) ∨ k = 26 ∨ k = 1 ∨ k = 2 ∨ k = 3 ∨ k = 4 ∨ k = 5 ∨ k = 6 ∨ k = 7 ∨ k = 8 ∨ k = 9 ∨ k = 10 ∨ k = 11 ∨ k = 12 ∨ k = 13 ∨ k = 14 ∨ k = 15 ∨ k = 16 ∨ k = 17 ∨ k = 18 ∨ k = 19 ∨ k = 20 ∨ k = 21 ∨ k = 22 ∨ k = 23 ∨ k = 24 ∨ k = 25 := by omega
theorem not_kind {k : Int} (h : k < 1 ∨ 26 < k) (j : Int) (h1 : 1 ≤ j) (h2 : j ≤ 26) : (k == j) = false := beq_eq_false_iff_ne.2 (by omega)

set_option maxHeartbeats 1000000 in
theorem coal_calls (c : Int) (w : World) : Calls Try.prog 80 #[.int .i64 c] w fun e w' => e = .returned (.int .i64 (coalN c)) ∧ w' = w := by
  by_cases h1 : 1 ≤ c
  · by_cases h2 : c ≤ 16
    · have HC := Lib.hid (show coalN c = c by unfold coalN; rw [if_pos ⟨h1, h2⟩])
      have g1 : ¬ c < 1 := by omega
      have g2 : ¬ 16 < c := by omega
      go_enter Try.func80, Try.ntmps80
      go_wp2
      go_ret
      exact ⟨by rw [HC.out]; rfl, rfl⟩
    · have HC := Lib.hid (show coalN c = -1 by unfold coalN; rw [if_neg (by omega)])
      have g1 : ¬ c < 1 := by omega
      have g2 : 16 < c := by omega
      go_enter Try.func80, Try.ntmps80
      go_wp2
      go_ret
      exact ⟨by rw [HC.out]; rfl, rfl⟩
  · have HC := Lib.hid (show coalN c = -1 by unfold coalN; rw [if_neg (by omega)])
    have g1 : c < 1 := by omega
    go_enter Try.func80, Try.ntmps80
    go_wp2
    go_ret
    exact ⟨by rw [HC.out]; rfl, rfl⟩

set_option maxRecDepth 100000 in
set_option maxHeartbeats 4000000 in
theorem Needs_calls (p : PartL) (w : World) : Calls Try.prog 66 #[p.v] w fun e w' => e = .returned (.int .i64 (needM p)) ∧ Below w.heap.size w w' := by
  obtain ⟨k, ⟨tk, tx, ty, tz⟩, m, c⟩ := p
  simp only [PartL.v]
  by_cases h26 : k = 26
  · subst h26
    have HN := Lib.hid (show needM ⟨26, ⟨tk, tx, ty, tz⟩, m, c⟩ = coalN c by unfold needM; rfl)
    go_enter Try.func66, Try.ntmps66
    go_wp2_with fail
    refine (coal_calls c _).mono ?_
    rintro e w1 ⟨rfl, hw1⟩
    have hb1 : Below w.heap.size w w1 := by rw [hw1]; exact box_below _ _
    clear hw1
    go_wp2
    go_ret
    exact ⟨by rw [HN.out]; rfl, hb1⟩
  · by_cases hc : c = 0
    · subst hc
      have HN := Lib.hid (show needM ⟨k, ⟨tk, tx, ty, tz⟩, m, 0⟩ = needK k by unfold needM; rw [if_neg h26]; rfl)
      rcases kind_cases k with h | h | h | h | h | h | h | h | h | h | h | h | h | h | h | h | h | h | h | h | h | h | h | h | h | h | h
      · have HO := Lib.hid (need_other h)
        have H := Lib.hid (fun j h1 h2 => not_kind h j h1 h2)
        have n1 := H.out 1 (by decide) (by decide)
        have n2 := H.out 2 (by decide) (by decide)
        have n3 := H.out 3 (by decide) (by decide)
        have n4 := H.out 4 (by decide) (by decide)
        have n5 := H.out 5 (by decide) (by decide)
        have n6 := H.out 6 (by decide) (by decide)
        have n7 := H.out 7 (by decide) (by decide)
        have n8 := H.out 8 (by decide) (by decide)
        have n9 := H.out 9 (by decide) (by decide)
        have n10 := H.out 10 (by decide) (by decide)
        have n11 := H.out 11 (by decide) (by decide)
        have n12 := H.out 12 (by decide) (by decide)
        have n13 := H.out 13 (by decide) (by decide)
        have n14 := H.out 14 (by decide) (by decide)
        have n15 := H.out 15 (by decide) (by decide)
        have n16 := H.out 16 (by decide) (by decide)
        have n17 := H.out 17 (by decide) (by decide)
        have n18 := H.out 18 (by decide) (by decide)
        have n19 := H.out 19 (by decide) (by decide)
        have n20 := H.out 20 (by decide) (by decide)
        have n21 := H.out 21 (by decide) (by decide)
        have n22 := H.out 22 (by decide) (by decide)
        have n23 := H.out 23 (by decide) (by decide)
        have n24 := H.out 24 (by decide) (by decide)
        have n25 := H.out 25 (by decide) (by decide)
        have n26 := H.out 26 (by decide) (by decide)
        clear h h26
        go_enter Try.func66, Try.ntmps66
        go_wp2
        go_ret
        exact ⟨by rw [HN.out, HO.out]; rfl, box_below _ _⟩
      · exact absurd h h26
      all_goals
        subst h
        clear h26
        go_enter Try.func66, Try.ntmps66
        go_wp2
        go_ret
        exact ⟨by rw [HN.out]; rfl, box_below _ _⟩
    · have HN := Lib.hid (show needM ⟨k, ⟨tk, tx, ty, tz⟩, m, c⟩ = -1 by unfold needM; rw [if_neg h26]; exact if_neg hc)
      have g1 : (k == 26) = false := beq_eq_false_iff_ne.2 h26
      have g2 : (c == 0) = false := beq_eq_false_iff_ne.2 hc
      clear h26 hc
      go_enter Try.func66, Try.ntmps66
      go_wp2
      go_ret
      exact ⟨by rw [HN.out]; rfl, box_below _ _⟩

end Go.Proofs.Ytiliobfgmelncaa

namespace Go.Proofs.Ytiliobfgmelncaa
open Go.RowKit

end Go.Proofs.Ytiliobfgmelncaa
