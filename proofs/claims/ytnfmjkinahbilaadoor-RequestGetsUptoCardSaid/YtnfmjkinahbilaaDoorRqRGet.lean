/- The document's own request of any bytes (written by gen/mkreqrget.py). -/
import Derived.Test.YtnfmjkinahbilaaDoorRqDigits
import Derived.Test.YtnfmjkinahbilaaDoorRqGet
import Derived.Test.YtnfmjkinahbilaaDoorRPctRead
import Derived.Lib.QuietBelow
namespace Go.Proofs.YtnfmjkinahbilaaDoor
open Go.RowKit Go.Sort
open Go.Lib (decDigits)

def GetD (w : World) (r : Option ReqL) (e : Ending) (w' : World) : Prop := e = .returned (.tuple #[.agg #[.int .i64 (outR r).1.id, .string (bs (outR r).1.x)], .bool r.isSome]) ∧ Below w.heap.size w w'
theorem getD_none {w w' : World} {r : Option ReqL} (h : r = none) (hb : Below w.heap.size w w') : GetD w r (.returned (.tuple #[.agg #[.int .i64 0, .string ⟨#[]⟩], .bool false])) w' := by
  subst h; exact ⟨rfl, hb⟩
theorem getD_some {w w' : World} {r : Option ReqL} (n : Int) (s : ByteArray) (h : r = some ⟨n, s.data.toList⟩) (hb : Below w.heap.size w w') : GetD w r (.returned (.tuple #[.agg #[.int .i64 n, .string s], .bool true])) w' := by
  subst h; exact ⟨rfl, hb⟩
theorem lit_is (a x : List UInt8) : ((bs a).toList == x) = decide (a = x) := by
  rw [bs_toList, Bool.eq_iff_iff]; simp

set_option maxRecDepth 100000 in
set_option maxHeartbeats 4000000 in
theorem rReqGet_calls (s : ByteArray) (w : World) (hs : s.size ≤ 4000000000000) : Calls Tryd.prog 12 #[.string s] w (GetD w (getR s.data.toList)) := by
  obtain ⟨X, hX⟩ : ∃ X, w.heap.size = X := ⟨_, rfl⟩
  obtain ⟨W1, hW1⟩ : ∃ W1, w.alloc (.cells #[.int .i64 0, .string ⟨#[]⟩] 23) = W1 := ⟨_, rfl⟩
  have HK := Lib.hid (show Blk W1 X 23 #[.int .i64 0, .string ⟨#[]⟩] by rw [← hW1, ← hX]; exact blk_new _ _ _)
  have HB := Lib.hid (show Below w.heap.size w W1 by rw [← hW1]; exact box_below _ _)
  have hr := rRead_calls s W1 hs
  have HX := Lib.hid hX
  have HW1 := Lib.hid hW1
  clear hX hW1
  obtain ⟨E, hE⟩ : ∃ E, (rdS s.data.toList).2 = E := ⟨_, rfl⟩
  obtain ⟨L, hL⟩ : ∃ L, (rdS s.data.toList).1 = L := ⟨_, rfl⟩
  have hq : rdS s.data.toList = (L, E) := by rw [← hE, ← hL]
  rw [hq] at hr
  have hget := get_of hL
  have herr := rd_err s.data.toList
  rw [hE, hL] at herr
  have HR := Lib.hid hr
  clear hr hq hE
  go_enter Tryd.func12, Tryd.ntmps12
  go_wp2_with fail
  rw [HW1.out, HX.out]
  refine HR.out.mono ?_
  rintro e W2 ⟨v, rfl, hown, hb⟩
  clear HR
  have HB2 := Lib.hid (fb2 HB.out hb (Nat.le_refl _))
  have HK2 := Lib.hid (blk_on HK.out hb (blk_lt HK.out))
  obtain ⟨a, c, rfl, hP⟩ := prA_own hown rfl
  dsimp only at hP ⊢
  clear hown hb HK HB
  by_cases he : E = 0
  · subst he
    by_cases h2 : L.length = 2
    · obtain ⟨p, q, rfl⟩ := list_two h2
      obtain ⟨g, o, rfl, hg, hcells⟩ := hP.cells (by show 0 < 2; omega)
      obtain ⟨c0, c1⟩ := hcells 0 (by show 0 < 2; omega)
      obtain ⟨c2, c3⟩ := hcells 1 (by show 1 < 2; omega)
      have hm := hP.most
      unfold maxLen at hm
      replace c0 : W2.cell? ⟨g, o, none⟩ = some (.string (bs p.k)) := c0
      replace c1 : W2.cell? ⟨g, o + 1, none⟩ = some (.string (bs p.v)) := c1
      replace c2 : W2.cell? ⟨g, o + 2, none⟩ = some (.string (bs q.k)) := c2
      replace c3 : W2.cell? ⟨g, o + 3, none⟩ = some (.string (bs q.v)) := c3
      have H0 := Lib.hid hget
      have k0 := lit_is p.k [105, 100]
      have k2 := lit_is q.k [113, 117, 101, 114, 121]
      have k3 : (bs q.v).size = q.v.length := bs_size _
      rw [show ([p, q] : List PairL).length = 2 from rfl]
      clear hget hL hcells hP herr h2
      by_cases hk : p.k = kId
      · have k0' : ((bs p.k).toList == [105, 100]) = true := k0.trans (decide_eq_true hk)
        by_cases hk2 : q.k = kText
        · have k2' : ((bs q.k).toList == [113, 117, 101, 114, 121]) = true := k2.trans (decide_eq_true hk2)
          by_cases hk3 : 4096 < q.v.length
          · have HE := Lib.hid (H0.out.trans (get_other (.inr (.inr hk3))))
            have k3' : (4096 : Int) < ((bs q.v).size : Int) := by omega
            clear k0 k2 k3 hk hk2 hk3
            generalize bs p.k = a0 at c0 k0'
            generalize bs p.v = a1 at c1
            generalize bs q.k = a2 at c2 k2'
            generalize bs q.v = a3 at c3 k3'
            go_wp2_with (refine whole_abs 23 (.tmp 2) (.tmp 41) ⟨rfl, rfl⟩ X #[.int .i64 0, .string ⟨#[]⟩] rfl rfl 23 #[.int .i64 0, .string ⟨#[]⟩] HK2.out (by kernel_rfl) rfl (req_one _ _) ?_; intro w9 hA9 hG9)
            have q0 : w9.cell? ⟨X, 0, none⟩ = some (.int .i64 0) := (blk_cell hA9.out 0).trans rfl
            have q1 : w9.cell? ⟨X, 1, none⟩ = some (.string ⟨#[]⟩) := (blk_cell hA9.out 1).trans rfl
            refine bodyPost_ret (v := .tuple #[.agg #[.int .i64 0, .string ⟨#[]⟩], .bool false]) (by simp [results, Tryd.results12, q0, q1, go_sem]) rfl (getD_none HE.out (HB2.out.grown hG9.out (by have := HX.out; have := HB2.out.size; omega) (fun q hq => by injection hq with hq; have := HX.out; omega)))
          · have k3' : ¬ (4096 : Int) < ((bs q.v).size : Int) := by omega
            have HD := Lib.hid (fun (n : Nat) (h : n < 4096) (hd : bs (decDigits n) = bs p.v) => get_some (n := n) hk hk2 (by omega) h (by have := congrArg (fun x => x.data.toList) hd; exact this))
            have HN := Lib.hid (get_none (p := p) (q := q))
            have HL3 := Lib.hid (show q.v = (bs q.v).data.toList from rfl)
            have HPV := Lib.hid (show p.v = (bs p.v).data.toList from rfl)
            clear k0 k2 k3 hk hk2 hk3
            generalize bs p.k = a0 at c0 k0'
            generalize bs p.v = a1 at c1 HD HPV
            generalize bs q.k = a2 at c2 k2'
            generalize bs q.v = a3 at c3 k3' HL3
            go_wp2
            go_loopg [6] 4096 (fun g i wr => ∃ k : Nat, i = .int .i64 k ∧ k + g = 4096 ∧ Hid (∀ j : Nat, j < k → decDigits j ≠ p.v) ∧ Hid (Below W2.heap.size W2 wr))
            case atStart => exact ⟨0, rfl, by omega, Lib.hid (fun j hj => absurd hj (Nat.not_lt_zero _)), Lib.hid (Below.refl _ _)⟩
            case round =>
              obtain ⟨W3, rfl⟩ : ∃ W3, W3 = wr := ⟨_, rfl⟩
              obtain ⟨k, rfl, hkg, HJ, HW⟩ := hrel
              have HB3 := Lib.hid (fb2 HB2.out HW.out (Nat.le_refl _))
              have HK3 := Lib.hid (blk_on HK2.out HW.out (blk_lt HK2.out))
              have d1' := keptC c1 HW.out hg
              have d3' := keptC c3 HW.out hg
              clear c0 c1 c2 c3 k0' k2' k3'
              by_cases hk : k < 4096
              · obtain ⟨gg, rfl⟩ : ∃ gg, gk = gg + 1 := ⟨gk - 1, by omega⟩
                have k1 : (k : Int) < 4096 := by omega
                obtain ⟨D, hD⟩ : ∃ D, bs (decDigits k) = D := ⟨_, rfl⟩
                have c1 : ∀ d os, (grow (redrawn W3 d) os).cell? ⟨g, o + 1, none⟩ = some (.string a1) := fun d os => cell_regrown d1' d os
                have cA : ∀ d os, Calls Tryd.prog 15 #[.int .i64 k, .int .i64 1] (grow (redrawn W3 d) os) fun e w'' => e = .returned (.string D) ∧ ∃ p : Regrown, w'' = grow (redrawn W3 p.d) p.os := fun d os => Calls.regrown_of (rDigits_dec k _ hk D hD)
                have HDE := Lib.hid hD
                clear hD d1'
                by_cases hq : D = a1
                · have HE := Lib.hid (show getR s.data.toList = some ⟨(k : Int), a3.data.toList⟩ by rw [H0.out, HD.out k hk (HDE.out.trans hq), ← HL3.out])
                  have g1 : (D.toList == a1.toList) = true := by rw [hq]; simp
                  clear hq HDE
                  go_wp2_with fail
                  refine wp_region_quiet_below (by kernel_rfl) (by kernel_rfl) ?_
                  repeat (quiet_step (with_reducible exact cA _ _))
                  refine wpQuiet_nil ?_
                  intro _ hw'
                  obtain ⟨⟨dq, osq⟩, hw''⟩ := hw'
                  subst hw''
                  have HBQ := Lib.hid (below_regrown W3 dq osq)
                  obtain ⟨W4, hW4⟩ : ∃ W4, grow (redrawn W3 dq) osq = W4 := ⟨_, rfl⟩
                  rw [hW4] at HBQ ⊢
                  have HB4 := Lib.hid (fb2 HB3.out HBQ.out (Nat.le_refl _))
                  have HK4 := Lib.hid (blk_on HK3.out HBQ.out (blk_lt HK3.out))
                  have e3 := keptC d3' HBQ.out (Nat.lt_of_lt_of_le hg HW.out.size)
                  clear c1 cA hW4 d3'
                  go_wp2_with (refine whole_abs 23 (.tmp 2) (.tmp 58) ⟨rfl, rfl⟩ X #[.int .i64 (k : Int), .string a3] rfl rfl 23 #[.int .i64 0, .string ⟨#[]⟩] HK4.out (by kernel_rfl) rfl (req_one _ _) ?_; intro w9 hA9 hG9)
                  have q0 : w9.cell? ⟨X, 0, none⟩ = some (.int .i64 (k : Int)) := (blk_cell hA9.out 0).trans rfl
                  have q1 : w9.cell? ⟨X, 1, none⟩ = some (.string a3) := (blk_cell hA9.out 1).trans rfl
                  refine bodyPost_ret (v := .tuple #[.agg #[.int .i64 (k : Int), .string a3], .bool true]) (by simp [results, Tryd.results12, q0, q1, go_sem]) rfl (getD_some (k : Int) a3 HE.out (HB4.out.grown hG9.out (by have := HX.out; have := HB4.out.size; omega) (fun q hq => by injection hq with hq; have := HX.out; omega)))
                · have HJ1 := Lib.hid (show ∀ j : Nat, j < k + 1 → decDigits j ≠ p.v from fun j hj hc => by
                    rcases Nat.lt_or_ge j k with h | h
                    · exact HJ.out j h hc
                    · have e : j = k := by omega
                      subst e
                      exact hq (by rw [← HDE.out, hc, HPV.out]; cases a1; simp [bs]))
                  have g1 : (D.toList == a1.toList) = false := texts_no D a1 hq
                  clear hq HDE HJ
                  go_wp2_with fail
                  refine wp_region_quiet_below (by kernel_rfl) (by kernel_rfl) ?_
                  repeat (quiet_step (with_reducible exact cA _ _))
                  refine wpQuiet_nil ?_
                  intro _ hw'
                  obtain ⟨⟨dq, osq⟩, hw''⟩ := hw'
                  subst hw''
                  have HBQ := Lib.hid (below_regrown W3 dq osq)
                  obtain ⟨W4, hW4⟩ : ∃ W4, grow (redrawn W3 dq) osq = W4 := ⟨_, rfl⟩
                  rw [hW4] at HBQ ⊢
                  clear c1 cA hW4 d3'
                  go_wp2
                  go_roundg gg
                  case measure => omega
                  case rel => exact ⟨k + 1, by go_num, by omega, HJ1, Lib.hid (fb2 HW.out HBQ.out (Nat.le_refl _))⟩
              · have HE := Lib.hid (H0.out.trans (HN.out (fun n hn => HJ.out n (by omega))))
                have k1 : ¬ (k : Int) < 4096 := by omega
                clear d1' d3' HJ
                go_wp2_with (refine whole_abs 23 (.tmp 2) (.tmp 59) ⟨rfl, rfl⟩ X #[.int .i64 0, .string ⟨#[]⟩] rfl rfl 23 #[.int .i64 0, .string ⟨#[]⟩] HK3.out (by kernel_rfl) rfl (req_one _ _) ?_; intro w9 hA9 hG9)
                have q0 : w9.cell? ⟨X, 0, none⟩ = some (.int .i64 0) := (blk_cell hA9.out 0).trans rfl
                have q1 : w9.cell? ⟨X, 1, none⟩ = some (.string ⟨#[]⟩) := (blk_cell hA9.out 1).trans rfl
                refine bodyPost_ret (v := .tuple #[.agg #[.int .i64 0, .string ⟨#[]⟩], .bool false]) (by simp [results, Tryd.results12, q0, q1, go_sem]) rfl (getD_none HE.out (HB3.out.grown hG9.out (by have := HX.out; have := HB3.out.size; omega) (fun q hq => by injection hq with hq; have := HX.out; omega)))
        · have HE := Lib.hid (H0.out.trans (get_other (.inr (.inl hk2))))
          have k2' : ((bs q.k).toList == [113, 117, 101, 114, 121]) = false := k2.trans (decide_eq_false hk2)
          clear k0 k2 k3 hk hk2
          generalize bs p.k = a0 at c0 k0'
          generalize bs p.v = a1 at c1
          generalize bs q.k = a2 at c2 k2'
          generalize bs q.v = a3 at c3
          go_wp2_with (refine whole_abs 23 (.tmp 2) (.tmp 41) ⟨rfl, rfl⟩ X #[.int .i64 0, .string ⟨#[]⟩] rfl rfl 23 #[.int .i64 0, .string ⟨#[]⟩] HK2.out (by kernel_rfl) rfl (req_one _ _) ?_; intro w9 hA9 hG9)
          have q0 : w9.cell? ⟨X, 0, none⟩ = some (.int .i64 0) := (blk_cell hA9.out 0).trans rfl
          have q1 : w9.cell? ⟨X, 1, none⟩ = some (.string ⟨#[]⟩) := (blk_cell hA9.out 1).trans rfl
          refine bodyPost_ret (v := .tuple #[.agg #[.int .i64 0, .string ⟨#[]⟩], .bool false]) (by simp [results, Tryd.results12, q0, q1, go_sem]) rfl (getD_none HE.out (HB2.out.grown hG9.out (by have := HX.out; have := HB2.out.size; omega) (fun q hq => by injection hq with hq; have := HX.out; omega)))
      · have HE := Lib.hid (H0.out.trans (get_other (.inl hk)))
        have k0' : ((bs p.k).toList == [105, 100]) = false := k0.trans (decide_eq_false hk)
        clear k0 k2 k3 hk
        generalize bs p.k = a0 at c0 k0'
        generalize bs p.v = a1 at c1
        generalize bs q.k = a2 at c2
        generalize bs q.v = a3 at c3
        go_wp2_with (refine whole_abs 23 (.tmp 2) (.tmp 41) ⟨rfl, rfl⟩ X #[.int .i64 0, .string ⟨#[]⟩] rfl rfl 23 #[.int .i64 0, .string ⟨#[]⟩] HK2.out (by kernel_rfl) rfl (req_one _ _) ?_; intro w9 hA9 hG9)
        have q0 : w9.cell? ⟨X, 0, none⟩ = some (.int .i64 0) := (blk_cell hA9.out 0).trans rfl
        have q1 : w9.cell? ⟨X, 1, none⟩ = some (.string ⟨#[]⟩) := (blk_cell hA9.out 1).trans rfl
        refine bodyPost_ret (v := .tuple #[.agg #[.int .i64 0, .string ⟨#[]⟩], .bool false]) (by simp [results, Tryd.results12, q0, q1, go_sem]) rfl (getD_none HE.out (HB2.out.grown hG9.out (by have := HX.out; have := HB2.out.size; omega) (fun q hq => by injection hq with hq; have := HX.out; omega)))
    · have HE := Lib.hid (hget.trans (get_len h2))
      obtain ⟨n, hn⟩ : ∃ n, L.length = n := ⟨_, rfl⟩
      rw [hn] at h2 ⊢
      have h3 : ¬ (n : Int) = 2 := by omega
      have h4 : ((n : Int) == 2) = false := beq_eq_false_iff_ne.2 h3
      clear hget hn hL hP herr h2
      go_wp2_with (refine whole_abs 23 (.tmp 2) (.tmp 41) ⟨rfl, rfl⟩ X #[.int .i64 0, .string ⟨#[]⟩] rfl rfl 23 #[.int .i64 0, .string ⟨#[]⟩] HK2.out (by kernel_rfl) rfl (req_one _ _) ?_; intro w9 hA9 hG9)
      have q0 : w9.cell? ⟨X, 0, none⟩ = some (.int .i64 0) := (blk_cell hA9.out 0).trans rfl
      have q1 : w9.cell? ⟨X, 1, none⟩ = some (.string ⟨#[]⟩) := (blk_cell hA9.out 1).trans rfl
      refine bodyPost_ret (v := .tuple #[.agg #[.int .i64 0, .string ⟨#[]⟩], .bool false]) (by simp [results, Tryd.results12, q0, q1, go_sem]) rfl (getD_none HE.out (HB2.out.grown hG9.out (by have := HX.out; have := HB2.out.size; omega) (fun q hq => by injection hq with hq; have := HX.out; omega)))
  · have HE := Lib.hid (hget.trans (get_len (by rw [show L = [] from herr.resolve_left he]; simp)))
    have h1 : (E == 0) = false := beq_eq_false_iff_ne.2 he
    obtain ⟨n, hn⟩ : ∃ n, L.length = n := ⟨_, rfl⟩
    rw [hn]
    clear hget hn hL hP herr
    go_wp2_with (refine whole_abs 23 (.tmp 2) (.tmp 41) ⟨rfl, rfl⟩ X #[.int .i64 0, .string ⟨#[]⟩] rfl rfl 23 #[.int .i64 0, .string ⟨#[]⟩] HK2.out (by kernel_rfl) rfl (req_one _ _) ?_; intro w9 hA9 hG9)
    have q0 : w9.cell? ⟨X, 0, none⟩ = some (.int .i64 0) := (blk_cell hA9.out 0).trans rfl
    have q1 : w9.cell? ⟨X, 1, none⟩ = some (.string ⟨#[]⟩) := (blk_cell hA9.out 1).trans rfl
    refine bodyPost_ret (v := .tuple #[.agg #[.int .i64 0, .string ⟨#[]⟩], .bool false]) (by simp [results, Tryd.results12, q0, q1, go_sem]) rfl (getD_none HE.out (HB2.out.grown hG9.out (by have := HX.out; have := HB2.out.size; omega) (fun q hq => by injection hq with hq; have := HX.out; omega)))

end Go.Proofs.YtnfmjkinahbilaaDoor
