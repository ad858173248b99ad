/- Of two signs the closer one is gathered first, of two as close the first one: the walk of the statement's function. -/
import Derived.Test.YtgkpdcjkobieiaaDoorFormAwake
namespace Go.Proofs.YtgkpdcjkobieiaaDoor
open Go.RowKit

theorem lv_ret {a b c d : Int} (h1 : a = c) (h2 : b = d) : Ending.returned (.tuple #[.int .i64 a, .int .i64 b]) = .returned (.tuple #[.int .i64 c, .int .i64 d]) := by rw [h1, h2]

set_option maxHeartbeats 1000000 in
theorem level_calls (n : Nat) (hn : n < 256) (w : World) : Calls Tryd.prog 9 #[.int .u8 n] w fun e w' => e = .returned (.tuple #[.int .i64 (closeN (6 + n % 12)), .int .i64 ((6 + n % 12 : Nat) : Int)]) ∧ w' = w := by
  have key : ∀ k, k = 6 + n % 12 → Calls Tryd.prog 9 #[.int .u8 n] w fun e w' => e = .returned (.tuple #[.int .i64 (closeN k), .int .i64 (k : Int)]) ∧ w' = w := by
    intro k hk
    go_enter Tryd.func9, Tryd.ntmps9
    go_wp2
    · rename_i h1
      have h1 := eq_of_beq h1
      go_ret2
      exact ⟨lv_ret (by rw [show closeN k = 0 by unfold closeN; rw [if_pos (by omega)]]; rfl) (by omega), rfl⟩
    · rename_i h1 h2
      have h1 := ne_of_beq_false h1
      have h2 := eq_of_beq h2
      go_ret2
      exact ⟨lv_ret (by rw [show closeN k = 1 by unfold closeN; rw [if_neg (by omega), if_pos (by omega)]]; rfl) (by omega), rfl⟩
    · rename_i h1 h2 h3
      have h1 := ne_of_beq_false h1
      have h2 := ne_of_beq_false h2
      go_ret2
      exact ⟨lv_ret (by rw [show closeN k = 2 by unfold closeN; rw [if_neg (by omega), if_neg (by omega), if_pos (by omega)]]; rfl) (by omega), rfl⟩
    · rename_i h1 h2 h3 h4
      have h1 := ne_of_beq_false h1
      have h2 := ne_of_beq_false h2
      go_ret2
      exact ⟨lv_ret (by rw [show closeN k = 3 by unfold closeN; rw [if_neg (by omega), if_neg (by omega), if_neg (by omega), if_pos (by omega)]]; rfl) (by omega), rfl⟩
    · rename_i h1 h2 h3 h4
      have h1 := ne_of_beq_false h1
      have h2 := ne_of_beq_false h2
      go_ret2
      exact ⟨lv_ret (by rw [show closeN k = 4 by unfold closeN; rw [if_neg (by omega), if_neg (by omega), if_neg (by omega), if_neg (by omega)]]; rfl) (by omega), rfl⟩
  exact key _ rfl

set_option maxHeartbeats 2000000 in
theorem Sign_calls (k : Nat) (h6 : 6 ≤ k) (h18 : k < 18) (w : World) : Calls Tryd.prog 10 #[.int .i64 k] w fun e w' => e = .returned (.string (bs (markN k))) ∧ w' = w := by
  have h1 : k = 6 ∨ k = 7 ∨ k = 8 ∨ k = 9 ∨ k = 10 ∨ k = 11 ∨ k = 12 ∨ k = 13 ∨ k = 14 ∨ k = 15 ∨ k = 16 ∨ k = 17 := by omega
  rcases h1 with rfl | rfl | rfl | rfl | rfl | rfl | rfl | rfl | rfl | rfl | rfl | rfl
  all_goals
    go_enter Tryd.func10, Tryd.ntmps10
    go_wp2
    go_ret
    exact ⟨rfl, rfl⟩

theorem binds_toks (a b : Nat) : (#[.int .i64 2, .string ⟨#[97]⟩, .int .i64 0, .string ⟨#[]⟩, .string ⟨#[]⟩, .string ⟨#[]⟩, .int .i64 0, .int .i64 5, .string (bs (markN a)), .int .i64 0, .string ⟨#[]⟩, .string ⟨#[]⟩, .string ⟨#[]⟩, .int .i64 0, .int .i64 2, .string ⟨#[98]⟩, .int .i64 0, .string ⟨#[]⟩, .string ⟨#[]⟩, .string ⟨#[]⟩, .int .i64 0, .int .i64 5, .string (bs (markN b)), .int .i64 0, .string ⟨#[]⟩, .string ⟨#[]⟩, .string ⟨#[]⟩, .int .i64 0, .int .i64 2, .string ⟨#[99]⟩, .int .i64 0, .string ⟨#[]⟩, .string ⟨#[]⟩, .string ⟨#[]⟩, .int .i64 0] : Array Value).toList = tokCells (bindsL a b) := rfl
theorem mark_short (k : Nat) (h6 : 6 ≤ k) (h18 : k < 18) : (markN k).length ≤ 1000 := by
  have h1 : k = 6 ∨ k = 7 ∨ k = 8 ∨ k = 9 ∨ k = 10 ∨ k = 11 ∨ k = 12 ∨ k = 13 ∨ k = 14 ∨ k = 15 ∨ k = 16 ∨ k = 17 := by omega
  rcases h1 with rfl | rfl | rfl | rfl | rfl | rfl | rfl | rfl | rfl | rfl | rfl | rfl <;> decide
theorem binds_short {a b : Nat} (ha : 6 ≤ a) (ha' : a < 18) (hb : 6 ≤ b) (hb' : b < 18) : ∀ t ∈ bindsL a b, t.x.length ≤ 1000 := by
  intro t ht
  have h1 := mark_short a ha ha'
  have h2 := mark_short b hb hb'
  simp only [bindsL, List.mem_cons, List.not_mem_nil, or_false] at ht
  rcases ht with rfl | rfl | rfl | rfl | rfl
  · exact (by decide : 1 ≤ 1000)
  · exact h1
  · exact (by decide : 1 ≤ 1000)
  · exact h2
  · exact (by decide : 1 ≤ 1000)

set_option maxRecDepth 100000 in
set_option maxHeartbeats 2000000 in
theorem formBinds_calls (x y : Nat) (hx : x < 256) (hy : y < 256) (w : World) (hg : Good w.heap.size w) :
    Calls Tryd.prog 4 #[.int .u8 x, .int .u8 y] w fun e w' => e = .returned (.bool true) ∧ Below w.heap.size w w' := by
  have HG := Lib.hid hg
  have HLX := Lib.hid (fun W => level_calls x hx W)
  have HLY := Lib.hid (fun W => level_calls y hy W)
  obtain ⟨a, ha⟩ : ∃ a, 6 + x % 12 = a := ⟨_, rfl⟩
  obtain ⟨b, hb⟩ : ∃ b, 6 + y % 12 = b := ⟨_, rfl⟩
  have ha6 : 6 ≤ a := by omega
  have ha18 : a < 18 := by omega
  have hb6 : 6 ≤ b := by omega
  have hb18 : b < 18 := by omega
  rw [ha] at HLX
  rw [hb] at HLY
  have HSA := Lib.hid (fun W => Sign_calls a ha6 ha18 W)
  have HSB := Lib.hid (fun W => Sign_calls b hb6 hb18 W)
  have HP := Lib.hid (fun v W (hW : TokS W.heap.size v (bindsL a b) W) (hG : Good W.heap.size W) => Parse_calls v (bindsL a b) (show 5 ≤ 200 by decide) (binds_short ha6 ha18 hb6 hb18) 6 (bindsR a b) W (binds_ans a b ha6 ha18 hb6 hb18) hW hG)
  have HW := Lib.hid (toks_of (L := bindsL a b) (World.ownsRow_lit (base := w.heap.size) (e := 35) (size := 7) w _ 5 (Nat.le_refl _) (by decide) (by rfl) : (w.alloc (.cells #[.int .i64 2, .string ⟨#[97]⟩, .int .i64 0, .string ⟨#[]⟩, .string ⟨#[]⟩, .string ⟨#[]⟩, .int .i64 0, .int .i64 5, .string (bs (markN a)), .int .i64 0, .string ⟨#[]⟩, .string ⟨#[]⟩, .string ⟨#[]⟩, .int .i64 0, .int .i64 2, .string ⟨#[98]⟩, .int .i64 0, .string ⟨#[]⟩, .string ⟨#[]⟩, .string ⟨#[]⟩, .int .i64 0, .int .i64 5, .string (bs (markN b)), .int .i64 0, .string ⟨#[]⟩, .string ⟨#[]⟩, .string ⟨#[]⟩, .int .i64 0, .int .i64 2, .string ⟨#[99]⟩, .int .i64 0, .string ⟨#[]⟩, .string ⟨#[]⟩, .string ⟨#[]⟩, .int .i64 0] 35)).ownsRow w.heap.size 35 7 _ (bindsL a b).length (tokCells (bindsL a b))) (show 0 < (bindsL a b).length by rw [show (bindsL a b).length = 5 from rfl]; decide))
  obtain ⟨sa, hsa⟩ : ∃ sa, bs (markN a) = sa := ⟨_, rfl⟩
  obtain ⟨sb, hsb⟩ : ∃ sb, bs (markN b) = sb := ⟨_, rfl⟩
  rw [hsa] at HSA HW
  rw [hsb] at HSB HW
  obtain ⟨R, hR⟩ : ∃ R, bindsR a b = R := ⟨_, rfl⟩
  rw [hR] at HP
  obtain ⟨p, hp⟩ : ∃ p, closeN a = p := ⟨_, rfl⟩
  obtain ⟨q, hq⟩ : ∃ q, closeN b = q := ⟨_, rfl⟩
  rw [hp] at HLX
  rw [hq] at HLY
  have HR := Lib.hid (show R = if p = 2 ∧ q = 2 then (3, [varPart [97], varPart [98], signPart a]) else if q ≤ p then (5, [varPart [97], varPart [98], signPart a, varPart [99], signPart b]) else (5, [varPart [97], varPart [98], varPart [99], signPart b, signPart a]) by rw [← hR, ← hp, ← hq]; rfl)
  clear hg ha hb hsa hsb hR hp hq ha6 ha18 hb6 hb18
  go_enter Tryd.func4, Tryd.ntmps4
  go_wp2_with fail
  refine (HLX.out _).mono ?_
  rintro e w1 ⟨rfl, hw1⟩
  obtain rfl := hw1.symm
  clear hw1
  go_wp2_with fail
  refine (HLY.out _).mono ?_
  rintro e w1 ⟨rfl, hw1⟩
  obtain rfl := hw1.symm
  clear hw1
  go_wp2_with fail
  refine (HSA.out _).mono ?_
  rintro e w1 ⟨rfl, hw1⟩
  obtain rfl := hw1.symm
  clear hw1
  go_wp2_with fail
  refine (HSB.out _).mono ?_
  rintro e w1 ⟨rfl, hw1⟩
  obtain rfl := hw1.symm
  clear hw1
  go_wp2_with fail
  refine (HP.out _ _ HW.out (HG.out.next (box_below _ _))).mono ?_
  rintro e w2 ⟨pv, rfl, hrow, hb2⟩
  have HB2 := Lib.hid ((box_below w _).trans (hb2.mono (by simp)))
  have HG2 := Lib.hid (HG.out.next HB2.out)
  have HAW := Lib.hid (fun W (hW : Good W.heap.size W) => awake_calls W hW)
  clear hb2
  by_cases h1 : p = 2 ∧ q = 2
  · obtain rfl : R = (3, [varPart [97], varPart [98], signPart a]) := HR.out.trans (if_pos h1)
    obtain ⟨rfl, rfl⟩ := h1
    dsimp only at hrow ⊢
    rcases hrow.2 with ⟨_, h0⟩ | ⟨g, cap, cur, rfl, hg0, hh, hn, hm, _⟩
    · exact absurd h0 (by simp)
    · clear hrow hh hg0
      simp only [List.length_cons, List.length_nil, Nat.zero_add, Nat.reduceAdd] at hn ⊢
      go_wp2_with fail
      refine (HAW.out _ HG2.out).mono ?_
      rintro e w3 ⟨rfl, hb3⟩
      have HB3 := Lib.hid (step_below HB2.out hb3)
      go_wp2
      go_ret
      exact ⟨rfl, HB3.out⟩
  · have g1 : ((p : Int) == 2) = false ∨ ((p : Int) == 2) = true ∧ ((q : Int) == 2) = false := by
      by_cases hp : p = 2
      · right
        exact ⟨beq_iff_eq.2 (by omega), beq_eq_false_iff_ne.2 (by omega)⟩
      · exact .inl (beq_eq_false_iff_ne.2 (by omega))
    have HR2 := Lib.hid (HR.out.trans (if_neg h1))
    clear h1 HR
    by_cases hqp : q ≤ p
    · obtain rfl : R = (5, [varPart [97], varPart [98], signPart a, varPart [99], signPart b]) := HR2.out.trans (if_pos hqp)
      have g2 : (q : Int) ≤ (p : Int) := by omega
      clear HR2 hqp
      dsimp only at hrow ⊢
      rcases hrow.2 with ⟨_, h0⟩ | ⟨g, cap, cur, rfl, hg0, hh, hn, hm, _⟩
      · exact absurd h0 (by simp)
      · have c2 := part_cell hrow rfl rfl 2 (by simp)
        have c4 := part_cell hrow rfl rfl 4 (by simp)
        simp only [Nat.reduceMul] at c2 c4
        replace c2 : w2.cell? ⟨g, 14, none⟩ = some (.int .i64 a) := c2
        replace c4 : w2.cell? ⟨g, 28, none⟩ = some (.int .i64 b) := c4
        clear hrow hh hg0
        simp only [List.length_cons, List.length_nil, Nat.zero_add, Nat.reduceAdd] at hn ⊢
        rcases g1 with g1 | ⟨g1, g1'⟩
        all_goals
          go_wp2_with fail
          refine (HAW.out _ HG2.out).mono ?_
          rintro e w3 ⟨rfl, hb3⟩
          have HB3 := Lib.hid (step_below HB2.out hb3)
          go_wp2
          go_ret
          exact ⟨rfl, HB3.out⟩
    · obtain rfl : R = (5, [varPart [97], varPart [98], varPart [99], signPart b, signPart a]) := HR2.out.trans (if_neg hqp)
      have g2 : ¬ (q : Int) ≤ (p : Int) := by omega
      clear HR2 hqp
      dsimp only at hrow ⊢
      rcases hrow.2 with ⟨_, h0⟩ | ⟨g, cap, cur, rfl, hg0, hh, hn, hm, _⟩
      · exact absurd h0 (by simp)
      · have c3 := part_cell hrow rfl rfl 3 (by simp)
        have c4 := part_cell hrow rfl rfl 4 (by simp)
        simp only [Nat.reduceMul] at c3 c4
        replace c3 : w2.cell? ⟨g, 21, none⟩ = some (.int .i64 b) := c3
        replace c4 : w2.cell? ⟨g, 28, none⟩ = some (.int .i64 a) := c4
        clear hrow hh hg0
        simp only [List.length_cons, List.length_nil, Nat.zero_add, Nat.reduceAdd] at hn ⊢
        rcases g1 with g1 | ⟨g1, g1'⟩
        all_goals
          go_wp2_with fail
          refine (HAW.out _ HG2.out).mono ?_
          rintro e w3 ⟨rfl, hb3⟩
          have HB3 := Lib.hid (step_below HB2.out hb3)
          go_wp2
          go_ret
          exact ⟨rfl, HB3.out⟩

end Go.Proofs.YtgkpdcjkobieiaaDoor
