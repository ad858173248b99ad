/- The next word; a variable that is read: the reader's next, named, simple and signed, where a variable stands. A variable that is read: the reader's named, simple and signed, where a variable stands. -/
import Derived.Test.YtgkpdcjkobieiaaDoorFormRds
import Derived.Test.YtgkpdcjkobieiaaDoorTermRight
namespace Go.Proofs.YtgkpdcjkobieiaaDoor
open Go.RowKit

theorem below_both {B : Nat} {w w1 : World} (h : Below B w w1) (a : Addr) (v : Value) : Below B (w.setCell a v) (w1.setCell a v) := by
  refine ⟨h.os, h.tape, h.output, ?_, fun k hk => ?_⟩
  · have := h.size
    simpa using this
  · unfold World.setCell
    simp only [Array.getElem?_modify]
    rw [h.block k hk]
theorem rdt_set {A X : Nat} {v pv : Value} {L : List TokL} {a : Nat} {P : List PartL} {w w' : World} (h : Rd A X v L a P pv w) (ha : a < L.length) (hb : Below w.heap.size (w.setCell ⟨X, 1, none⟩ (.int .i64 ((a : Int) + 1))) w') : RdT A X v L pv (a + 1, P) w w' :=
  ⟨pv, (h.went ha).on (by simpa using hb), ((Below.refl A w).setCell h.low _).trans (hb.mono h.size), step_set hb⟩

set_option maxRecDepth 100000 in
set_option maxHeartbeats 1000000 in
theorem next_calls (A X : Nat) (v pv : Value) (L : List TokL) (a : Nat) (P : List PartL) (w : World) (h : Rd A X v L a P pv w) (hL : L.length ≤ 100000) (ha : a < L.length) :
    Calls Tryd.prog 52 #[.pointer (some ⟨X, 0, none⟩)] w fun e w' => e = .returned (L[a]).v ∧ RdT A X v L pv (a + 1, P) w w' := by
  have H := Lib.hid h
  obtain ⟨c0, c1, c2⟩ := h.cells
  obtain ⟨g, cap, rfl, hg, hcap, hcell⟩ := h.toks.row
  have hX := blk_lt h.blk
  have fr := fun i => blk_free h.blk i
  have hsz := h.size
  have hgw : g < w.heap.size := Nat.lt_of_lt_of_le hg hsz
  have HAL := Lib.hid ha
  obtain ⟨N, hN⟩ : ∃ N, L.length = N := ⟨_, rfl⟩
  have HN := Lib.hid hN
  rw [hN] at c0 hcap hL
  have ha' : (a : Int) < (N : Int) := by omega
  have ha0 : (0 : Int) ≤ (a : Int) := by omega
  have g1 : ((a : Int) == (N : Int)) = false := beq_eq_false_iff_ne.2 (by omega)
  obtain ⟨d0, d1, d2, d3, d4, d5, d6⟩ := hcell a ha
  clear hcell h
  have ha2 : a < N := by omega
  generalize L[a] = y at d0 d1 d2 d3 d4 d5 d6
  obtain ⟨yk, yx, ⟨uk, ux, uy, uz⟩, ya⟩ := y
  simp only [TokL.v]
  dsimp only at d0 d1 d2 d3 d4 d5 d6
  have hgX : ¬ g = X := fun e => by have := H.out.low; omega
  have hXg : ¬ X = g := fun e => hgX e.symm
  clear ha c2 hN hg
  go_enter Tryd.func52, Tryd.ntmps52
  go_wp2
  go_quiet (fail)
  go_wp2
  go_region
  go_wp2
  refine bodyPost_ret (v := .agg #[.int .i64 yk, .string (bs yx), .int .i64 uk, .string (bs ux), .string (bs uy), .string (bs uz), .int .i64 ya]) (by simp [results, Tryd.results52, go_sem]) rfl ⟨rfl, rdt_set H.out HAL.out ?_⟩
  repeat (with_reducible (first | exact below_both (below_drawn (box_below _ _) _) _ _ | refine Below.drew ?_ | refine Below.setCell ?_ (by first | exact Nat.le_refl _ | omega | (simp; omega)) _))

end Go.Proofs.YtgkpdcjkobieiaaDoor

namespace Go.Proofs.YtgkpdcjkobieiaaDoor
open Go.RowKit

theorem rd_new {A X : Nat} {v pv : Value} {L : List TokL} {a : Nat} {P : List PartL} {w : World} (h : Rd A X v L a P pv w) {k : Nat} (hk : w.heap.size ≤ k) : k ≠ X ∧ pv.ownBlock ≠ some k :=
  ⟨fun e => by have := blk_lt h.blk; omega, fun e => by have := (h.row.lt k e).2; omega⟩

set_option maxRecDepth 100000 in
set_option maxHeartbeats 1000000 in
theorem named_calls (A X : Nat) (v pv : Value) (L : List TokL) (a : Nat) (P : List PartL) (yx : List UInt8) (yt : TermL) (ya : Int) (w : World) (h : Rd A X v L a P pv w) (hL : L.length ≤ 100000) (ha : P.length < a) (hx : yx.length ≤ 1000) (hn : nameL yx = true) :
    Calls Tryd.prog 54 #[.pointer (some ⟨X, 0, none⟩), .int .i64 2, (⟨2, yx, yt, ya⟩ : TokL).v] w fun e w' => e = .returned (.bool true) ∧ RdT A X v L pv (a, P ++ [varPart yx]) w w' := by
  have H := Lib.hid h
  have HADD : Hid (∀ W, Rd A X v L a P pv W → Calls Tryd.prog 45 #[.pointer (some ⟨X, 0, none⟩), .agg #[.int .i64 2, .int .i64 0, .string ⟨#[]⟩, .string ⟨#[]⟩, .string ⟨#[]⟩, .string (bs yx), .int .i64 0]] W fun e w' => e = .returned (.tuple #[]) ∧ RdT A X v L pv (a, P ++ [varPart yx]) W w') := Lib.hid fun W hW => add_calls A X v pv L a P (varPart yx) W hW hL ha
  have HNAME : Hid (∀ W, Calls Tryd.prog 27 #[.string (bs yx)] W fun e w' => e = .returned (.bool true) ∧ Below W.heap.size W w') := Lib.hid fun W => by
    have := IsName_calls (bs yx) W (by rw [bs_size]; unfold maxLen; omega)
    rw [bs_data, hn] at this
    exact this
  have hA := h.size
  obtain ⟨n1, n2⟩ := rd_new h (Nat.le_refl _)
  clear h hn hx ha
  obtain ⟨uk, ux, uy, uz⟩ := yt
  simp only [TokL.v]
  go_enter Tryd.func54, Tryd.ntmps54
  go_wp2_with fail
  refine (HADD.out _ (H.out.alloc _)).mono ?_
  rintro e w1 ⟨rfl, p1, h1, hb1, hs1⟩
  have hB := step_blk hs1 (blk_new w 35 #[.int .i64 2, .string (bs yx), .int .i64 uk, .string (bs ux), .string (bs uy), .string (bs uz), .int .i64 ya]) n1 n2
  obtain ⟨q0, q1, _⟩ := blk_cells7 hB
  have hb2 : Below A w w1 := ((box_below w _).mono hA).trans hb1
  have hs2 : Step X pv p1 w w1 := (step_on (box_below w _)).trans hs1
  have H1 := Lib.hid h1
  have H2 := Lib.hid hb2
  have H3 := Lib.hid hs2
  clear h1 hb2 hs2 hs1 hb1 hB n1 n2
  go_wp2_with fail
  refine (HNAME.out _).mono ?_
  rintro e w2 ⟨rfl, hb3⟩
  have HR := Lib.hid (rdt_trans H2.out H3.out (rdt_on H1.out hb3))
  clear hb3
  go_wp2
  go_ret
  exact ⟨rfl, HR.out⟩

set_option maxRecDepth 100000 in
set_option maxHeartbeats 1000000 in
theorem simple_calls (A X : Nat) (v pv : Value) (L : List TokL) (a : Nat) (P : List PartL) (q : StL) (w : World) (h : Rd A X v L a P pv w) (hL : L.length ≤ 100000) (hx : ∀ t ∈ L, t.x.length ≤ 1000) (hq : signedM L (a, P) = some q) :
    Calls Tryd.prog 44 #[.pointer (some ⟨X, 0, none⟩)] w fun e w' => e = .returned (.bool true) ∧ RdT A X v L pv q w w' := by
  have hal := (signed_in hq h.most).2
  dsimp only at hal
  have hn : (L[a]).k = 2 ∧ nameL (L[a]).x = true ∧ (a + 1, P ++ [varPart (L[a]).x]) = q := by
    unfold signedM at hq
    rw [List.getElem?_eq_getElem hal] at hq
    simp only at hq
    split at hq
    · rename_i hc
      exact ⟨hc.1, hc.2, by simpa using hq⟩
    · cases hq
  have hxa := hx _ (List.getElem_mem hal)
  have hnx := next_calls A X v pv L a P w h hL hal
  have HM := Lib.hid h.most
  clear hq hx
  generalize L[a] = y at hn hxa hnx
  obtain ⟨yk, yx, ⟨uk, ux, uy, uz⟩, ya⟩ := y
  obtain ⟨e2, hnm, rfl⟩ := hn
  dsimp only at e2 hnm hxa
  subst e2
  simp only [TokL.v] at hnx
  have HNX := Lib.hid hnx
  have HNA : Hid (∀ W p, Rd A X v L (a + 1) P p W → Calls Tryd.prog 54 #[.pointer (some ⟨X, 0, none⟩), .int .i64 2, .agg #[.int .i64 2, .string (bs yx), .int .i64 uk, .string (bs ux), .string (bs uy), .string (bs uz), .int .i64 ya]] W fun e w' => e = .returned (.bool true) ∧ RdT A X v L p (a + 1, P ++ [varPart yx]) W w') := Lib.hid fun W p hW => named_calls A X v p L (a + 1) P yx ⟨uk, ux, uy, uz⟩ ya W hW hL (by have := HM.out.1; omega) hxa hnm
  clear hnx h hnm hxa
  go_enter Tryd.func44, Tryd.ntmps44
  go_wp2_with fail
  refine HNX.out.mono ?_
  rintro e w1 ⟨rfl, p1, h1, hb1, hs1⟩
  have H1 := Lib.hid h1
  have H2 := Lib.hid hb1
  have H3 := Lib.hid hs1
  clear h1 hb1 hs1
  go_wp2_with fail
  refine (HNA.out _ p1 (H1.out.on ?_)).mono ?_
  · repeat (with_reducible (first | exact box_below _ _ | refine Below.setCell ?_ (by first | exact Nat.le_refl _ | omega | (simp; omega)) _))
  rintro e w2 ⟨rfl, hr2⟩
  go_wp2
  go_ret
  refine ⟨rfl, rdt_trans H2.out H3.out (rdt_trans ?_ (step_on ?_) hr2)⟩
  · refine Below.mono ?_ H1.out.size
    repeat (with_reducible (first | exact box_below _ _ | refine Below.setCell ?_ (by first | exact Nat.le_refl _ | omega | (simp; omega)) _))
  · repeat (with_reducible (first | exact box_below _ _ | refine Below.setCell ?_ (by first | exact Nat.le_refl _ | omega | (simp; omega)) _))

set_option maxRecDepth 100000 in
set_option maxHeartbeats 1000000 in
theorem signed_calls (A X : Nat) (v pv : Value) (L : List TokL) (a : Nat) (P : List PartL) (q : StL) (w : World) (h : Rd A X v L a P pv w) (hL : L.length ≤ 100000) (hx : ∀ t ∈ L, t.x.length ≤ 1000) (hq : signedM L (a, P) = some q) :
    Calls Tryd.prog 36 #[.pointer (some ⟨X, 0, none⟩)] w fun e w' => e = .returned (.bool true) ∧ RdT A X v L pv q w w' := by
  have hal := (signed_in hq h.most).2
  dsimp only at hal
  have hz : signK L a 4 5 = 0 := by
    rw [signK_at hal, if_neg]
    intro h5
    unfold signedM at hq
    rw [List.getElem?_eq_getElem hal] at hq
    simp only at hq
    split at hq
    · rename_i hc; rw [h5] at hc; exact absurd hc.1 (by decide)
    · cases hq
  have HT := Lib.hid (takeSign_calls A X v pv L a P 4 5 w h hL (by decide) (by decide) 0 a hz rfl)
  have HS : Hid (∀ W p, Rd A X v L a P p W → Calls Tryd.prog 44 #[.pointer (some ⟨X, 0, none⟩)] W fun e w' => e = .returned (.bool true) ∧ RdT A X v L p q W w') := Lib.hid fun W p hW => simple_calls A X v p L a P q W hW hL hx hq
  clear h hx hq hz
  go_enter Tryd.func36, Tryd.ntmps36
  go_wp2_with fail
  refine HT.out.mono ?_
  rintro e w1 ⟨rfl, p1, h1, hb1, hs1⟩
  have H1 := Lib.hid h1
  have H2 := Lib.hid hb1
  have H3 := Lib.hid hs1
  clear h1 hb1 hs1
  go_wp2_with fail
  refine (HS.out _ p1 H1.out).mono ?_
  rintro e w2 ⟨rfl, hr2⟩
  go_wp2
  go_ret
  exact ⟨rfl, rdt_trans H2.out H3.out hr2⟩

end Go.Proofs.YtgkpdcjkobieiaaDoor
