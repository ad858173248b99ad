/- Whether any triple matches: package store's Ask. -/
import Derived.Test.YtnojdchodmogbaaGreatStoFounds
namespace Go.Proofs.YtnojdchodmogbaaGreat
open Go.RowKit

theorem ask_pred (p : TripL) (B : Nat) (w : World) (hB : B < w.heap.size) (h : Box12 w B p) :
    PredBelow Tryz.prog 47 #[.pointer (some ⟨B, 0, none⟩)] (fun x : TripL => .agg (TripL.cells x).toArray) (fun x => alikeB x p) w := fun W x hb => by
  have hp := box_on h hb hB
  have hBW : B < W.heap.size := Nat.lt_of_lt_of_le hB hb.size
  have hne : ¬ B = W.heap.size := by omega
  have hne2 : ¬ W.heap.size = B := by omega
  have AL := Lib.hid (alike_calls x p)
  have HB := Lib.hid hb
  clear hb h
  show Calls Tryz.prog 47 #[.agg #[.int .i64 x.s.k, .string (bs x.s.x), .string (bs x.s.y), .string (bs x.s.z), .int .i64 x.p.k, .string (bs x.p.x), .string (bs x.p.y), .string (bs x.p.z), .int .i64 x.o.k, .string (bs x.o.x), .string (bs x.o.y), .string (bs x.o.z)], .pointer (some ⟨B, 0, none⟩)] W _
  obtain ⟨⟨c0, c1, c2, c3⟩, ⟨c4, c5, c6, c7⟩, ⟨c8, c9, c10, c11⟩⟩ := hp
  go_enter Tryz.func47, Tryz.ntmps47
  go_wp2_with fail
  refine (AL.out _).mono ?_
  rintro e w' ⟨rfl, hb'⟩
  replace hb' := Lib.hid (one_box hb')
  go_wp2
  go_ret
  exact ⟨rfl, HB.out.trans (by first | exact hb'.out.mono HB.out.size | exact (hb'.out.mono HB.out.size).drew)⟩

set_option maxHeartbeats 2000000 in
theorem contains_none (a : Option Addr) (c : Nat) (f : Value) (w : World) :
    Calls Tryz.prog 45 #[.slice a 0 c, f] w fun e w' => e = .returned (.bool false) ∧ Below w.heap.size w w' := by
  have hin : ∀ W, Calls Tryz.prog 69 #[.slice a 0 c, f] W fun e w' => e = .returned (.int .i64 (-1)) ∧ Below W.heap.size W w' := fun W => by
    go_enter Tryz.func69, Tryz.ntmps69
    go_wp2
    go_loopg [8] 0 (fun _ s8 wr => s8 = .int .i64 0 ∧ wr = W)
    case atStart => exact ⟨rfl, rfl⟩
    case round =>
      obtain ⟨rfl, rfl⟩ := hrel
      go_wp2
      go_ret
      exact ⟨rfl, Below.refl _ _⟩
  go_enter Tryz.func45, Tryz.ntmps45
  go_wp2_with fail
  refine (hin _).mono ?_
  rintro e w' ⟨rfl, hb'⟩
  go_wp2
  go_ret
  exact ⟨rfl, by first | exact hb' | exact hb'.drew⟩

theorem contains_piece (p : TripL) (X : Nat) (v : Value) (M : List TripL) (w : World) (hX : X < w.heap.size) (hp : Box12 w X p) (h : Piece w v M) (hl : M.length ≤ 4096) :
    Calls Tryz.prog 45 #[v, .func (.func 47) #[] #[.pointer (some ⟨X, 0, none⟩)]] w fun e w' => e = .returned (.bool (M.any fun x => alikeB x p)) ∧ Below w.heap.size w w' := by
  rcases piece_cases h with ⟨a, c, rfl, rfl⟩ | ⟨g, o, cap, rfl, hg, hcap, hrow⟩
  · exact contains_none a c _ w
  · have eg : ∀ args w, (callFunc 47 args).run Tryz.prog w = .ok (.enter 47 args) w := enters_of Tryz.func47 (by kernel_rfl) rfl
    have hcon := AnyQ.slices_ContainsFunc (P := Tryz.prog) (α := TripL) Tryz.laysContainsFunc 12 (fun w => by exact Tryz.isAgg29 w) (fun w => by exact Tryz.sizeOf29 w) TripL.cells TripL.cells_length (fun x => alikeB x p) 47 #[.pointer (some ⟨X, 0, none⟩)] eg g (o * 12) M.length cap M w (ask_pred p X w hX hp) (Nat.le_refl _) (by omega) hg (fun j hj c v hc => by
      obtain ⟨⟨c0, c1, c2, c3⟩, ⟨c4, c5, c6, c7⟩, ⟨c8, c9, c10, c11⟩⟩ := hrow j hj
      have ej : M[j]! = M[j] := by simp [getElem!_pos, hj]
      rw [ej] at hc
      generalize M[j] = y at hc c0 c1 c2 c3 c4 c5 c6 c7 c8 c9 c10 c11
      rw [show o * 12 + j * 12 + c = (o + j) * 12 + c by omega]
      match c, hc with
      | 0, hc => simp [TripL.cells, TermL.cells] at hc; rw [← hc]; exact c0
      | 1, hc => simp [TripL.cells, TermL.cells] at hc; rw [← hc]; exact c1
      | 2, hc => simp [TripL.cells, TermL.cells] at hc; rw [← hc]; exact c2
      | 3, hc => simp [TripL.cells, TermL.cells] at hc; rw [← hc]; exact c3
      | 4, hc => simp [TripL.cells, TermL.cells] at hc; rw [← hc]; exact c4
      | 5, hc => simp [TripL.cells, TermL.cells] at hc; rw [← hc]; exact c5
      | 6, hc => simp [TripL.cells, TermL.cells] at hc; rw [← hc]; exact c6
      | 7, hc => simp [TripL.cells, TermL.cells] at hc; rw [← hc]; exact c7
      | 8, hc => simp [TripL.cells, TermL.cells] at hc; rw [← hc]; exact c8
      | 9, hc => simp [TripL.cells, TermL.cells] at hc; rw [← hc]; exact c9
      | 10, hc => simp [TripL.cells, TermL.cells] at hc; rw [← hc]; exact c10
      | 11, hc => simp [TripL.cells, TermL.cells] at hc; rw [← hc]; exact c11
      | c + 12, hc => simp [TripL.cells, TermL.cells] at hc)
    rw [List.take_length] at hcon
    exact hcon

theorem any_found {M R : List TripL} {P : TripL → Bool} (h : (M.filter P).mergeSort le3 = R) : M.any P = !R.isEmpty := by
  rw [← h, Bool.eq_iff_iff]
  have hl : ((M.filter P).mergeSort le3).isEmpty = (M.filter P).isEmpty := by
    rw [Bool.eq_iff_iff, List.isEmpty_iff_length_eq_zero, List.isEmpty_iff_length_eq_zero, List.length_mergeSort]
  rw [hl]
  simp

set_option maxRecDepth 100000 in
set_option maxHeartbeats 8000000 in
theorem Ask_calls (B b : Nat) (v0 v1 v2 : Value) (L l1 l2 : List TripL) (p : TripL) (hp : p.ok) (w : World) (h : Sto w B b v0 v1 v2 L l1 l2) :
    Calls Tryz.prog 24 #[.pointer (some ⟨b, 0, none⟩), p.v] w fun e w' => e = .returned (.tuple #[.bool (patB p && !(L.filter (matchB p)).isEmpty), .int .i64 (formZ (patB p))]) ∧ Below w.heap.size w w' := by
  have HR := Lib.hid (fun W => refused_calls b p hp W)
  have H := Lib.hid h
  have bx0 := Lib.hid (blk_new w 29 (cells12 p))
  obtain ⟨hf, hn⟩ := gv_le p 3 (Nat.le_refl _)
  obtain ⟨_, _, hord, hmem, hlen⟩ := sel_facts h (gv p 3).1 hf
  have hml : ((selL (gv p 3).1 L l1 l2).filter (fun x => decide (cmpK x p (gv p 3).1 (gv p 3).2 = 0))).length ≤ 4096 := Nat.le_trans (List.length_filter_le _ _) (by rw [hlen]; exact h.most)
  have hfound := Lib.hid (fun hq : patB p = true => any_found (found_eq hq h.o0 hord hmem rfl))
  have hnear := Lib.hid (fun (W : World) (hS : Sto W B b v0 v1 v2 L l1 l2) => near_calls B b v0 v1 v2 L l1 l2 p W hS)
  have HML := Lib.hid hml
  clear h hp hf hn hord hmem hlen hml
  simp only [TripL.v]
  go_enter Tryz.func24, Tryz.ntmps24
  go_wp2_with fail
  refine (HR.out _).mono ?_
  rintro e w1 ⟨rfl, hb1⟩
  have bx1 := Lib.hid (box_on (box12_of (blk_on bx0.out (Below.refl _ _) (blk_lt bx0.out))) hb1 (by simp))
  have hlt1 := Lib.hid (blk_lt (blk_on bx0.out hb1 (by simp)))
  replace hb1 := Lib.hid (one_box hb1)
  cases hq : patB p with
  | false =>
    have e2 : formZ false = 2 := rfl
    rw [e2]
    clear e2
    go_wp2
    go_ret2
    exact ⟨by simp [hq, formZ], by first | exact hb1.out | exact hb1.out.drew⟩
  | true =>
    have e2 : formZ true = 0 := rfl
    rw [e2]
    clear e2
    obtain ⟨⟨c0, c1, c2, c3⟩, ⟨c4, c5, c6, c7⟩, ⟨c8, c9, c10, c11⟩⟩ := bx1.out
    go_wp2_with fail
    refine (hnear.out _ (sto_on H.out hb1.out (Nat.le_refl _))).mono ?_
    rintro e w2 ⟨v', rfl, hpc, hb2⟩
    clear c0 c1 c2 c3 c4 c5 c6 c7 c8 c9 c10 c11
    go_wp2_with fail
    refine (contains_piece p w.heap.size v' _ _ (Nat.lt_of_lt_of_le hlt1.out hb2.size) (box_on bx1.out hb2 hlt1.out) hpc HML.out).mono ?_
    rintro e w3 ⟨rfl, hb3⟩
    rw [hfound.out hq]
    have hb := first_below (first_below hb1.out hb2) hb3
    go_wp2
    go_ret2
    exact ⟨by simp [hq, formZ], by first | exact hb | exact hb.drew⟩

end Go.Proofs.YtnojdchodmogbaaGreat
