/- Package request's Get: the request of any bytes (written by gen/mkreqget.py). -/
import Derived.Test.YtnfmjkinahbilaaDoorRqUnpaired
import Derived.Test.YtnfmjkinahbilaaDoorRqCheck
import Derived.Test.YtnfmjkinahbilaaDoorPctRead
import Derived.Laws.Cover3
namespace Go.Proofs.YtnfmjkinahbilaaDoor
open Go.RowKit

theorem two_len {l : List UInt8} {p q : PairL} (h : (rdS l).1 = [p, q]) : p.v.length ≤ l.length ∧ q.v.length ≤ l.length := by
  have e := congrArg List.length (wr_of_rd h)
  rw [wrS_two, wrS_one, wr1, wr1] at e
  have h1 := dec_len (l := encS p.v) rfl
  have h2 := dec_len (l := encS q.v) rfl
  simp only [List.length_append, List.length_cons] at e
  omega
theorem get_of {l : List UInt8} {L : List PairL} (h : (rdS l).1 = L) : getR l = getP L := by unfold getR; rw [h]
theorem get_no1 {p q : PairL} (h : isP p q = false) : getP [p, q] = none := by rw [getP_two, h, if_neg (fun c => Bool.noConfusion c.1)]
theorem get_no2 {p q : PairL} (h : chkR (unP p q) ≠ 0) : getP [p, q] = none := by rw [getP_two, if_neg (fun c => h c.2)]
theorem get_yes {p q : PairL} (h : isP p q = true) (h2 : chkR (unP p q) = 0) : getP [p, q] = some (unP p q) := by rw [getP_two, if_pos ⟨h, h2⟩]
theorem list_two {L : List PairL} (h : L.length = 2) : ∃ p q, L = [p, q] := by
  match L, h with
  | [p, q], _ => exact ⟨p, q, rfl⟩
def GetT (w : World) (r : Option ReqL) (e : Ending) (w' : World) : Prop := e = .returned (.tuple #[.agg #[.int .i64 (outR r).1.id, .string (bs (outR r).1.x)], .int .i64 (outR r).2]) ∧ Below w.heap.size w w'
theorem getT_none {w w' : World} {r : Option ReqL} (h : r = none) (hb : Below w.heap.size w w') : GetT w r (.returned (.tuple #[.agg #[.int .i64 0, .string ⟨#[]⟩], .int .i64 2])) w' := by
  subst h; exact ⟨rfl, hb⟩
theorem getT_some {w w' : World} {r : Option ReqL} (n : Int) (s : ByteArray) (h : r = some ⟨n, s.data.toList⟩) (hb : Below w.heap.size w w') : GetT w r (.returned (.tuple #[.agg #[.int .i64 n, .string s], .int .i64 0])) w' := by
  subst h; exact ⟨rfl, hb⟩

set_option maxRecDepth 100000 in
set_option maxHeartbeats 4000000 in
theorem get_calls (s : ByteArray) (w : World) (hs : s.size ≤ 140737488355326) (hg : Good w) : Calls Tryd.prog 11 #[.string s] w (GetT w (getR s.data.toList)) := by
  have hl : s.data.toList.length = s.size := (Lib.size_eq s).symm
  obtain ⟨X, hX⟩ : ∃ X, w.heap.size = X := ⟨_, rfl⟩
  obtain ⟨W1, hW1⟩ : ∃ W1, w.alloc (.cells #[.int .i64 0, .string ⟨#[]⟩] 23) = W1 := ⟨_, rfl⟩
  have HK := Lib.hid (show Blk W1 X 23 #[.int .i64 0, .string ⟨#[]⟩] by rw [← hW1, ← hX]; exact blk_new _ _ _)
  have HB := Lib.hid (show Below w.heap.size w W1 by rw [← hW1]; exact box_below _ _)
  have HG := Lib.hid (hg.on HB.out)
  have hr := pRead_calls s W1 hs
  have HX := Lib.hid hX
  have HW1 := Lib.hid hW1
  clear hX hW1 hg
  obtain ⟨E, hE⟩ : ∃ E, (rdS s.data.toList).2 = E := ⟨_, rfl⟩
  obtain ⟨L, hL⟩ : ∃ L, (rdS s.data.toList).1 = L := ⟨_, rfl⟩
  have hq : rdS s.data.toList = (L, E) := by rw [← hE, ← hL]
  rw [hq] at hr
  have hget := get_of hL
  have herr := rd_err s.data.toList
  rw [hE, hL] at herr
  have HR := Lib.hid hr
  clear hr hq hE
  go_enter Tryd.func11, Tryd.ntmps11
  go_wp2_with fail
  rw [HW1.out, HX.out]
  refine HR.out.mono ?_
  rintro e W2 ⟨v, rfl, hown, hb⟩
  clear HR
  have HB2 := Lib.hid (fb2 HB.out hb (Nat.le_refl _))
  have HK2 := Lib.hid (blk_on HK.out hb (blk_lt HK.out))
  have HG2 := Lib.hid (HG.out.on hb)
  obtain ⟨a, c, rfl, hP⟩ := prA_own hown rfl
  dsimp only at hP ⊢
  clear hown hb HK HB HG
  by_cases he : E = 0
  · subst he
    by_cases h2 : L.length = 2
    · obtain ⟨p, q, rfl⟩ := list_two h2
      obtain ⟨hpl, hql⟩ := two_len hL
      rw [hl] at hpl hql
      obtain ⟨g, o, rfl, hg, hcells⟩ := hP.cells (by show 0 < 2; omega)
      obtain ⟨c0, c1⟩ := hcells 0 (by show 0 < 2; omega)
      obtain ⟨c2, c3⟩ := hcells 1 (by show 1 < 2; omega)
      have hm := hP.most
      unfold maxLen at hm
      replace c0 : W2.cell? ⟨g, o, none⟩ = some (.string (bs p.k)) := c0
      replace c1 : W2.cell? ⟨g, o + 1, none⟩ = some (.string (bs p.v)) := c1
      replace c2 : W2.cell? ⟨g, o + 2, none⟩ = some (.string (bs q.k)) := c2
      replace c3 : W2.cell? ⟨g, o + 3, none⟩ = some (.string (bs q.v)) := c3
      have hu := fun W hW => unpaired_calls p q (by omega) W hW
      obtain ⟨n, hn⟩ : ∃ n, (unP p q).id = n := ⟨_, rfl⟩
      obtain ⟨t, ht⟩ : ∃ t, bs (unP p q).x = t := ⟨_, rfl⟩
      have hun : unP p q = ⟨n, t.data.toList⟩ := by rw [← hn, ← ht]; rfl
      rw [hn, ht] at hu
      have hchk := fun W => check_calls n t W
      rw [← hun] at hchk
      have HP2 := Lib.hid (show ([p, q] : List PairL).length = 2 from rfl)
      have hat : ∀ W, (Instr.arrayAt 40 (.slice (some ⟨g, o, none⟩) 2 c)).run Tryd.prog W = .ok (.pointer (some ⟨g, o, none⟩)) W := fun W => run_arrayAt W _ 38 2 _ 2 c Tryd.underlying40 (Nat.le_refl _)
      have H0 := Lib.hid hget
      clear hget hn ht hL hl hpl hql hcells hP herr h2
      generalize bs p.k = a0 at c0 hu
      generalize bs p.v = a1 at c1 hu
      generalize bs q.k = a2 at c2 hu
      generalize bs q.v = a3 at c3 hu
      rw [show ([p, q] : List PairL).length = 2 from rfl]
      go_wp2_with (simp only [hat])
      cases his : isP p q with
      | false =>
        rw [his] at hu
        have HE := Lib.hid (H0.out.trans (get_no1 his))
        clear his hun hchk
        refine (hu _ HG2.out).mono ?_
        rintro e W3 ⟨rfl, hb⟩
        have HB4 := Lib.hid ((fb2 HB2.out hb (Nat.le_refl _)).alloc (fb2 HB2.out hb (Nat.le_refl _)).size (.cells #[.int .i64 n, .string t] 23))
        have HK4 := Lib.hid (blk_alloc (blk_on HK2.out hb (blk_lt HK2.out)) (.cells #[.int .i64 n, .string t] 23))
        clear hb c0 c1 c2 c3 hu
        go_wp2_with (refine whole_abs 23 (.tmp 2) (.tmp 35) ⟨rfl, rfl⟩ X #[.int .i64 0, .string ⟨#[]⟩] rfl rfl 23 #[.int .i64 0, .string ⟨#[]⟩] HK4.out (by kernel_rfl) rfl (req_one _ _) ?_; intro w9 hA9 hG9)
        have q0 : w9.cell? ⟨X, 0, none⟩ = some (.int .i64 0) := (blk_cell hA9.out 0).trans rfl
        have q1 : w9.cell? ⟨X, 1, none⟩ = some (.string ⟨#[]⟩) := (blk_cell hA9.out 1).trans rfl
        refine bodyPost_ret (v := .tuple #[.agg #[.int .i64 0, .string ⟨#[]⟩], .int .i64 2]) (by simp [results, Tryd.results11, q0, q1, go_sem]) rfl (getT_none HE.out (HB4.out.grown hG9.out (by have := HX.out; have := HB4.out.size; omega) (fun q hq => by injection hq with hq; have := HX.out; omega)))
      | true =>
        rw [his] at hu
        refine (hu _ HG2.out).mono ?_
        rintro e W3 ⟨rfl, hb⟩
        obtain ⟨W4, hW4⟩ : ∃ W4, W3.alloc (.cells #[.int .i64 n, .string t] 23) = W4 := ⟨_, rfl⟩
        obtain ⟨Z, hZ⟩ : ∃ Z, W3.heap.size = Z := ⟨_, rfl⟩
        have HZ := Lib.hid (show Blk W4 Z 23 #[.int .i64 n, .string t] by rw [← hW4, ← hZ]; exact blk_new _ _ _)
        have HB4 := Lib.hid (show Below w.heap.size w W4 by rw [← hW4]; exact (fb2 HB2.out hb (Nat.le_refl _)).alloc (fb2 HB2.out hb (Nat.le_refl _)).size _)
        have HK4 := Lib.hid (show Blk W4 X 23 #[.int .i64 0, .string ⟨#[]⟩] by rw [← hW4]; exact blk_alloc (blk_on HK2.out hb (blk_lt HK2.out)) _)
        have HW4 := Lib.hid hW4
        have HZE := Lib.hid hZ
        clear hb c0 c1 c2 c3 hu hW4 hZ
        have d0 : W4.cell? ⟨Z, 0, none⟩ = some (.int .i64 n) := (blk_cell HZ.out 0).trans rfl
        have d1 : W4.cell? ⟨Z, 1, none⟩ = some (.string t) := (blk_cell HZ.out 1).trans rfl
        by_cases hc : chkR (unP p q) = 0
        · have HE := Lib.hid (show getR s.data.toList = some ⟨n, t.data.toList⟩ by rw [H0.out, get_yes his hc, hun])
          rw [hc] at hchk
          clear his hun hc
          go_wp2_with fail
          rw [HW4.out, HZE.out]
          refine (hchk _).mono ?_
          rintro e W5 ⟨rfl, hb⟩
          have HB5 := Lib.hid (fb2 HB4.out hb (Nat.le_refl _))
          have HK5 := Lib.hid (blk_on HK4.out hb (blk_lt HK4.out))
          replace d0 := keptC d0 hb (blk_lt HZ.out)
          replace d1 := keptC d1 hb (blk_lt HZ.out)
          clear hb hchk
          go_wp2_with (refine whole_abs 23 (.tmp 2) (.tmp 36) ⟨rfl, rfl⟩ X #[.int .i64 n, .string t] rfl rfl 23 #[.int .i64 0, .string ⟨#[]⟩] HK5.out (by kernel_rfl) rfl (req_one _ _) ?_; intro w9 hA9 hG9)
          have q0 : w9.cell? ⟨X, 0, none⟩ = some (.int .i64 n) := (blk_cell hA9.out 0).trans rfl
          have q1 : w9.cell? ⟨X, 1, none⟩ = some (.string t) := (blk_cell hA9.out 1).trans rfl
          refine bodyPost_ret (v := .tuple #[.agg #[.int .i64 n, .string t], .int .i64 0]) (by simp [results, Tryd.results11, q0, q1, go_sem]) rfl (getT_some n t HE.out (HB5.out.grown hG9.out (by have := HX.out; have := HB5.out.size; omega) (fun q hq => by injection hq with hq; have := HX.out; omega)))
        · have HE := Lib.hid (H0.out.trans (get_no2 hc))
          obtain ⟨C, hC⟩ : ∃ C, chkR (unP p q) = C := ⟨_, rfl⟩
          rw [hC] at hchk hc
          have h1 : (C == 0) = false := beq_eq_false_iff_ne.2 hc
          clear his hun hC
          go_wp2_with fail
          rw [HW4.out, HZE.out]
          refine (hchk _).mono ?_
          rintro e W5 ⟨rfl, hb⟩
          have HB5 := Lib.hid (fb2 HB4.out hb (Nat.le_refl _))
          have HK5 := Lib.hid (blk_on HK4.out hb (blk_lt HK4.out))
          clear hb hchk d0 d1
          go_wp2_with (refine whole_abs 23 (.tmp 2) (.tmp 35) ⟨rfl, rfl⟩ X #[.int .i64 0, .string ⟨#[]⟩] rfl rfl 23 #[.int .i64 0, .string ⟨#[]⟩] HK5.out (by kernel_rfl) rfl (req_one _ _) ?_; intro w9 hA9 hG9)
          have q0 : w9.cell? ⟨X, 0, none⟩ = some (.int .i64 0) := (blk_cell hA9.out 0).trans rfl
          have q1 : w9.cell? ⟨X, 1, none⟩ = some (.string ⟨#[]⟩) := (blk_cell hA9.out 1).trans rfl
          refine bodyPost_ret (v := .tuple #[.agg #[.int .i64 0, .string ⟨#[]⟩], .int .i64 2]) (by simp [results, Tryd.results11, q0, q1, go_sem]) rfl (getT_none HE.out (HB5.out.grown hG9.out (by have := HX.out; have := HB5.out.size; omega) (fun q hq => by injection hq with hq; have := HX.out; omega)))
    · have HE := Lib.hid (hget.trans (get_len h2))
      obtain ⟨n, hn⟩ : ∃ n, L.length = n := ⟨_, rfl⟩
      rw [hn] at h2 ⊢
      have h3 : ¬ (n : Int) = 2 := by omega
      have h4 : ((n : Int) == 2) = false := beq_eq_false_iff_ne.2 h3
      clear hget hn hL hP herr hl h2
      go_wp2_with (refine whole_abs 23 (.tmp 2) (.tmp 20) ⟨rfl, rfl⟩ X #[.int .i64 0, .string ⟨#[]⟩] rfl rfl 23 #[.int .i64 0, .string ⟨#[]⟩] HK2.out (by kernel_rfl) rfl (req_one _ _) ?_; intro w9 hA9 hG9)
      have q0 : w9.cell? ⟨X, 0, none⟩ = some (.int .i64 0) := (blk_cell hA9.out 0).trans rfl
      have q1 : w9.cell? ⟨X, 1, none⟩ = some (.string ⟨#[]⟩) := (blk_cell hA9.out 1).trans rfl
      refine bodyPost_ret (v := .tuple #[.agg #[.int .i64 0, .string ⟨#[]⟩], .int .i64 2]) (by simp [results, Tryd.results11, q0, q1, go_sem]) rfl (getT_none HE.out (HB2.out.grown hG9.out (by have := HX.out; have := HB2.out.size; omega) (fun q hq => by injection hq with hq; have := HX.out; omega)))
  · have HE := Lib.hid (hget.trans (get_len (by rw [show L = [] from herr.resolve_left he]; simp)))
    have h1 : (E == 0) = false := beq_eq_false_iff_ne.2 he
    obtain ⟨n, hn⟩ : ∃ n, L.length = n := ⟨_, rfl⟩
    rw [hn]
    clear hget hn hL hP herr hl
    go_wp2_with (refine whole_abs 23 (.tmp 2) (.tmp 20) ⟨rfl, rfl⟩ X #[.int .i64 0, .string ⟨#[]⟩] rfl rfl 23 #[.int .i64 0, .string ⟨#[]⟩] HK2.out (by kernel_rfl) rfl (req_one _ _) ?_; intro w9 hA9 hG9)
    have q0 : w9.cell? ⟨X, 0, none⟩ = some (.int .i64 0) := (blk_cell hA9.out 0).trans rfl
    have q1 : w9.cell? ⟨X, 1, none⟩ = some (.string ⟨#[]⟩) := (blk_cell hA9.out 1).trans rfl
    refine bodyPost_ret (v := .tuple #[.agg #[.int .i64 0, .string ⟨#[]⟩], .int .i64 2]) (by simp [results, Tryd.results11, q0, q1, go_sem]) rfl (getT_none HE.out (HB2.out.grown hG9.out (by have := HX.out; have := HB2.out.size; omega) (fun q hq => by injection hq with hq; have := HX.out; omega)))

end Go.Proofs.YtnfmjkinahbilaaDoor
