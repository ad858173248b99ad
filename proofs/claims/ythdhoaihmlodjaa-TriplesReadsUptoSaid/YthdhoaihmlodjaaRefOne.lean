/- The triple that a line without its line feed is, by the document's own answer. -/
import Derived.Test.YthdhoaihmlodjaaTripMid
import Derived.Test.YthdhoaihmlodjaaRefRead
import Derived.Test.YthdhoaihmlodjaaRefTrip
import Derived.Deep.RegionHeld3
namespace Go.Proofs.Ythdhoaihmlodjaa
open Go.RowKit

/- no term, or no blank behind it -/
theorem take_end {L : List UInt8} (h : L.length ≤ (prefixS L).2) : takeS L = none := by
  unfold takeS
  split
  · rfl
  · rw [List.drop_eq_nil_of_le h]; rfl
theorem take_byte {L : List UInt8} {m : Nat} (hp : (prefixS L).2 = m) (h : m < L.length) (hb : (L[m].toNat : Int) ≠ 32) : takeS L = none := by
  subst hp
  apply take_none1
  rw [List.drop_eq_getElem_cons h]
  simp only [Lib.hasPrefix, List.isPrefixOf, Bool.and_true]
  exact beq_eq_false_iff_ne.2 (fun c => hb (by rw [← c]; rfl))
theorem take_blank {L : List UInt8} {m : Nat} (hp : (prefixS L).2 = m) (h0 : ¬ m = 0) (h : m < L.length) (hb : (L[m].toNat : Int) = 32) : takeS L = some ((prefixS L).1, L.drop (m + 1)) := by
  subst hp
  apply take_some h0
  rw [List.drop_eq_getElem_cons h]
  simp only [Lib.hasPrefix, List.isPrefixOf, Bool.and_true]
  rw [beq_iff_eq]
  exact ((u8_of (n := 32) (by omega)).1 hb).symm

/- what one leaves -/
def OneT (w : World) (l : List UInt8) (e : Ending) (w' : World) : Prop := e = .returned (.tuple #[(oneV l).1.v, .bool (oneV l).2]) ∧ Below w.heap.size w w'
theorem one_none1 {l : List UInt8} (h : takeS l = none) : oneV l = (noTrip, false) := by unfold oneV; rw [h]
theorem one_none2 {l r : List UInt8} {a : TermL} (h : takeS l = some (a, r)) (h2 : takeS r = none) : oneV l = (noTrip, false) := by unfold oneV; rw [h]; dsimp only; rw [h2]
theorem one_some {l r r2 : List UInt8} {a b : TermL} (h : takeS l = some (a, r)) (h2 : takeS r = some (b, r2)) : oneV l = (⟨a, b, (prefixS r2).1⟩, decide (0 < (prefixS r2).2) && (r2.drop (prefixS r2).2 == [32, 46] && tripB ⟨a, b, (prefixS r2).1⟩)) := by unfold oneV; rw [h]; dsimp only; rw [h2]

theorem zero_cells {W : World} {R : Nat} (h : Blk W R 25 (cells12 noTrip)) : W.cell? ⟨R, 0, none⟩ = some (.int .i64 0) ∧ W.cell? ⟨R, 1, none⟩ = some (.string ⟨#[]⟩) ∧ W.cell? ⟨R, 2, none⟩ = some (.string ⟨#[]⟩) ∧ W.cell? ⟨R, 3, none⟩ = some (.string ⟨#[]⟩) ∧ W.cell? ⟨R, 4, none⟩ = some (.int .i64 0) ∧ W.cell? ⟨R, 5, none⟩ = some (.string ⟨#[]⟩) ∧ W.cell? ⟨R, 6, none⟩ = some (.string ⟨#[]⟩) ∧ W.cell? ⟨R, 7, none⟩ = some (.string ⟨#[]⟩) ∧ W.cell? ⟨R, 8, none⟩ = some (.int .i64 0) ∧ W.cell? ⟨R, 9, none⟩ = some (.string ⟨#[]⟩) ∧ W.cell? ⟨R, 10, none⟩ = some (.string ⟨#[]⟩) ∧ W.cell? ⟨R, 11, none⟩ = some (.string ⟨#[]⟩) :=
  ⟨by rw [blk_cell h]; rfl, by rw [blk_cell h]; rfl, by rw [blk_cell h]; rfl, by rw [blk_cell h]; rfl, by rw [blk_cell h]; rfl, by rw [blk_cell h]; rfl, by rw [blk_cell h]; rfl, by rw [blk_cell h]; rfl, by rw [blk_cell h]; rfl, by rw [blk_cell h]; rfl, by rw [blk_cell h]; rfl, by rw [blk_cell h]; rfl⟩
theorem blkD {W : World} {X : Nat} {T : TypeId} {a : Array Value} (h : Blk W X T a) : Blk W.drew X T a := h
theorem blkD2 {W : World} {X : Nat} {T : TypeId} {a : Array Value} (h : Blk W X T a) : Blk W.drew.drew X T a := h
theorem cellD {W : World} {p : Addr} {v : Value} (h : W.cell? p = some v) : W.drew.cell? p = some v := h
theorem row_else (W : World) (Y : Nat) (n : Array Value) (X : Nat) (hne : X ≠ Y) : (W.setRow Y n).heap[X]? = W.heap[X]? := by
  show (W.heap.modify Y _)[X]? = _
  rw [Array.getElem?_modify]
  rw [if_neg (fun e => hne e.symm)]
theorem blk_rowD {W : World} {X : Nat} {T : TypeId} {a : Array Value} (h : Blk W X T a) (n : Array Value) : Blk (W.setRow X n) X T n := setRow_heap W X a n T _ h
theorem below_rowD {B : Nat} {a W : World} (h : Below B a W) {X : Nat} (hX : B ≤ X) (n : Array Value) : Below B a (W.setRow X n) :=
  ⟨h.os, h.tape, h.output, by simpa [World.setRow] using h.size, fun i hi => by rw [row_else W X n i (by omega)]; exact h.block i hi⟩
theorem cell_row {W : World} {X R o : Nat} {v : Value} (h : W.cell? ⟨X, o, none⟩ = some v) (hne : X ≠ R) (n : Array Value) : (W.setRow R n).cell? ⟨X, o, none⟩ = some v :=
  (World.cell?_of_block (row_else W R n X hne)).trans h

theorem store_row {P : Program} {ops : Array Oper} {rest : List Oper} {o : Oper} {a : Act} {w : World} {Q : Exit → Act → World → Prop} (ty : TypeId) (x y : Operand) (ho : o.op = .store ty x y ∧ o.guard = none)
    (g : Nat) (cells : Array Value) (hx : a.eval x = .pointer (some ⟨g, 0, none⟩)) (hy : a.eval y = .agg cells)
    (t : TypeId) (old : Array Value) (hg : w.heap[g]? = some (.cells old t (0, 0))) (hi : (P.info? ty).map (·.size) = some cells.size)
    (hold : old.size = cells.size) (h1 : cells.all (·.oneCell') = true) (h : wpList P ops Q rest (a.put o.dst undef) (w.setRow g cells)) : wpList P ops Q (o :: rest) a w :=
  wpList_plain ho.2 fun _ hK => wp_store_row ty x y ho.1 g cells hx hy t old hg hi hold h1 (hK _ _ h)

theorem one_ret (tm : Array Value) (W : World) (R : Nat) (t : TripL) (b : Bool) (l : List UInt8) (w : World) (h2 : tm.getD 2 undef = .pointer (some ⟨R, 0, none⟩)) (h3 : tm.getD 3 undef = .bool b) (hR : Blk W R 25 (cells12 t)) (hb : Below w.heap.size w W) (hv : oneV l = (t, b)) :
    bodyPost Try.prog Try.f27 (OneT w l) Exit.ret { tmps := tm, defers := [] } W := by
  obtain ⟨⟨k, x, y, z⟩, ⟨k', x', y', z'⟩, ⟨k'', x'', y'', z''⟩⟩ := t
  have q0 : W.cell? ⟨R, 0, none⟩ = some (.int .i64 k) := by rw [blk_cell hR]; rfl
  have q1 : W.cell? ⟨R, 1, none⟩ = some (.string (bs x)) := by rw [blk_cell hR]; rfl
  have q2 : W.cell? ⟨R, 2, none⟩ = some (.string (bs y)) := by rw [blk_cell hR]; rfl
  have q3 : W.cell? ⟨R, 3, none⟩ = some (.string (bs z)) := by rw [blk_cell hR]; rfl
  have q4 : W.cell? ⟨R, 4, none⟩ = some (.int .i64 k') := by rw [blk_cell hR]; rfl
  have q5 : W.cell? ⟨R, 5, none⟩ = some (.string (bs x')) := by rw [blk_cell hR]; rfl
  have q6 : W.cell? ⟨R, 6, none⟩ = some (.string (bs y')) := by rw [blk_cell hR]; rfl
  have q7 : W.cell? ⟨R, 7, none⟩ = some (.string (bs z')) := by rw [blk_cell hR]; rfl
  have q8 : W.cell? ⟨R, 8, none⟩ = some (.int .i64 k'') := by rw [blk_cell hR]; rfl
  have q9 : W.cell? ⟨R, 9, none⟩ = some (.string (bs x'')) := by rw [blk_cell hR]; rfl
  have q10 : W.cell? ⟨R, 10, none⟩ = some (.string (bs y'')) := by rw [blk_cell hR]; rfl
  have q11 : W.cell? ⟨R, 11, none⟩ = some (.string (bs z'')) := by rw [blk_cell hR]; rfl
  have e2 : tm[2]?.getD undef = .pointer (some ⟨R, 0, none⟩) := by rw [← Array.getD_eq_getD_getElem?]; exact h2
  have e3 : tm[3]?.getD undef = .bool b := by rw [← Array.getD_eq_getD_getElem?]; exact h3
  refine bodyPost_ret (v := .tuple #[TripL.v ⟨⟨k, x, y, z⟩, ⟨k', x', y', z'⟩, ⟨k'', x'', y'', z''⟩⟩, .bool b]) (by simp [results, Try.results27, TripL.v, e2, e3, q0, q1, q2, q3, q4, q5, q6, q7, q8, q9, q10, q11, go_sem]) rfl ⟨by rw [hv], hb⟩

set_option maxRecDepth 100000 in
set_option maxHeartbeats 8000000 in
theorem one_calls (s : ByteArray) (w : World) (hs : s.size ≤ 281474976710656) : Calls Try.prog 27 #[.string s] w (OneT w s.data.toList) := by
  obtain ⟨⟨⟨ak, ax, ay, az⟩, ma⟩, hp⟩ : ∃ p, prefixS s.data.toList = p := ⟨_, rfl⟩
  have hle0 : ma ≤ s.size := by have := prefixS_length s.data.toList; rw [hp, ← Lib.size_eq] at this; exact this
  have HSH0 := Lib.hid (show (TermL.mk ak ax ay az).short s.size from by have := prefix_short' s.data.toList; rw [hp, ← Lib.size_eq] at this; dsimp only at this; exact ⟨by have := this.1; omega, by have := this.2.1; omega, by have := this.2.2; omega⟩)
  have HP0 := Lib.hid hp
  clear hp
  go_enter Try.func27, Try.ntmps27
  go_wp2_with fail
  refine (rPrefix_calls s _ (by omega)).mono ?_
  rintro e w1 ⟨rfl, hbv⟩
  rw [HP0.out]
  simp only [TermL.v]
  have hR : Blk w1 w.heap.size 25 (cells12 noTrip) := blk_on (blk_new w _ _) hbv (by simp)
  have hb := one_box hbv
  clear hbv
  have hz := blk_lt hR
  by_cases hm0 : ma = 0
  · have g0 : ((ma : Int) == 0) = true := beq_iff_eq.2 (by omega)
    have HN := Lib.hid (one_none1 (take_none0 (L := s.data.toList) (by rw [HP0.out]; exact hm0)))
    clear hm0
    have hR6 : Blk (w1.alloc (.cells #[.int .i64 ak, .string (bs ax), .string (bs ay), .string (bs az)] 23)) w.heap.size 25 (cells12 noTrip) := blk_on hR (box_below _ _) (blk_lt hR)
    have hb6 : Below w.heap.size w (w1.alloc (.cells #[.int .i64 ak, .string (bs ax), .string (bs ay), .string (bs az)] 23)) := hb.alloc hb.size _
    have HR6 := Lib.hid hR6
    have HB6 := Lib.hid hb6
    clear hR6 hb6 hR hb
    go_wp2_with (refine store_row 25 (.tmp 2) (.tmp 30) ⟨rfl, rfl⟩ w.heap.size #[.int .i64 0, .string ⟨#[]⟩, .string ⟨#[]⟩, .string ⟨#[]⟩, .int .i64 0, .string ⟨#[]⟩, .string ⟨#[]⟩, .string ⟨#[]⟩, .int .i64 0, .string ⟨#[]⟩, .string ⟨#[]⟩, .string ⟨#[]⟩] (by kernel_rfl) (by kernel_rfl) 25 (cells12 noTrip) HR6.out (by kernel_rfl) rfl (by kernel_rfl) ?_)
    exact one_ret _ _ w.heap.size noTrip false _ _ rfl rfl (blk_rowD HR6.out _) (below_rowD HB6.out (Nat.le_refl _) _) HN.out
  have g0 : ((ma : Int) == 0) = false := beq_eq_false_iff_ne.2 (by omega)
  have hm1 : 1 ≤ ma := by omega
  by_cases hm2 : s.size ≤ ma
  · have HN := Lib.hid (one_none1 (take_end (L := s.data.toList) (by rw [HP0.out, ← Lib.size_eq]; exact hm2)))
    clear hm0
    have hR6 : Blk (w1.alloc (.cells #[.int .i64 ak, .string (bs ax), .string (bs ay), .string (bs az)] 23)) w.heap.size 25 (cells12 noTrip) := blk_on hR (box_below _ _) (blk_lt hR)
    have hb6 : Below w.heap.size w (w1.alloc (.cells #[.int .i64 ak, .string (bs ax), .string (bs ay), .string (bs az)] 23)) := hb.alloc hb.size _
    have HR6 := Lib.hid hR6
    have HB6 := Lib.hid hb6
    clear hR6 hb6 hR hb
    go_wp2_with (refine store_row 25 (.tmp 2) (.tmp 30) ⟨rfl, rfl⟩ w.heap.size #[.int .i64 0, .string ⟨#[]⟩, .string ⟨#[]⟩, .string ⟨#[]⟩, .int .i64 0, .string ⟨#[]⟩, .string ⟨#[]⟩, .string ⟨#[]⟩, .int .i64 0, .string ⟨#[]⟩, .string ⟨#[]⟩, .string ⟨#[]⟩] (by kernel_rfl) (by kernel_rfl) 25 (cells12 noTrip) HR6.out (by kernel_rfl) rfl (by kernel_rfl) ?_)
    exact one_ret _ _ w.heap.size noTrip false _ _ rfl rfl (blk_rowD HR6.out _) (below_rowD HB6.out (Nat.le_refl _) _) HN.out
  have hm3 : ma < s.size := by omega
  have hget := get_list s ma hm3
  by_cases hm4 : (s[ma].toNat : Int) = 32
  · have g1 : ((s[ma].toNat : Int) != 32) = false := by simp [hm4]
    have HT0 := Lib.hid (take_blank (L := s.data.toList) (m := ma) (by rw [HP0.out]) hm0 (by rw [← Lib.size_eq]; exact hm3) (by rw [hget]; exact hm4))
    rw [HP0.out] at HT0
    obtain ⟨S2, hS⟩ : ∃ S, s.extract (ma + 1) s.size = S := ⟨_, rfl⟩
    have hSz : S2.size ≤ s.size := by rw [← hS, drop_bs s (ma + 1), bs_size, List.length_drop, ← Lib.size_eq]; omega
    rw [show s.data.toList.drop (ma + 1) = S2.data.toList by rw [← hS, drop_bs s (ma + 1), bs_data]] at HT0
    have HS1 := Lib.hid hS
    clear hS hm0 hm2 hget hm4
    obtain ⟨⟨⟨bk, bx, by', bz⟩, mb⟩, hp⟩ : ∃ p, prefixS S2.data.toList = p := ⟨_, rfl⟩
    have hle1 : mb ≤ S2.size := by have := prefixS_length S2.data.toList; rw [hp, ← Lib.size_eq] at this; exact this
    have HSH1 := Lib.hid (show (TermL.mk bk bx by' bz).short s.size from by have := prefix_short' S2.data.toList; rw [hp, ← Lib.size_eq] at this; dsimp only at this; exact ⟨by have := this.1; omega, by have := this.2.1; omega, by have := this.2.2; omega⟩)
    have HP1 := Lib.hid hp
    clear hp
    go_wp2_with fail
    rw [HS1.out]
    refine (rPrefix_calls S2 _ (by omega)).mono ?_
    rintro e w2 ⟨rfl, hbv⟩
    rw [HP1.out]
    simp only [TermL.v]
    replace hR := blk_on (blk_on hR (box_below _ _) (blk_lt hR)) hbv (by have := blk_lt hR; simp; omega)
    replace hb := (hb.alloc hb.size _).trans (hbv.mono (by have := hb.size; simp; omega))
    have hA : Blk w2 w1.heap.size 23 #[.int .i64 ak, .string (bs ax), .string (bs ay), .string (bs az)] := blk_on (blk_new w1 _ _) hbv (by simp)
    have hlt1 : w1.heap.size < w2.heap.size := blk_lt hA
    clear hbv
    replace hz := blk_lt hR
    by_cases hm0 : mb = 0
    · have g0 : ((mb : Int) == 0) = true := beq_iff_eq.2 (by omega)
      have HN := Lib.hid (one_none2 HT0.out (take_none0 (L := S2.data.toList) (by rw [HP1.out]; exact hm0)))
      clear hm0
      have hR6 : Blk (w2.alloc (.cells #[.int .i64 bk, .string (bs bx), .string (bs by'), .string (bs bz)] 23)) w.heap.size 25 (cells12 noTrip) := blk_on hR (box_below _ _) (blk_lt hR)
      have hb6 : Below w.heap.size w (w2.alloc (.cells #[.int .i64 bk, .string (bs bx), .string (bs by'), .string (bs bz)] 23)) := hb.alloc hb.size _
      have HR6 := Lib.hid hR6
      have HB6 := Lib.hid hb6
      clear hR6 hb6 hR hb
      go_wp2_with (refine store_row 25 (.tmp 2) (.tmp 54) ⟨rfl, rfl⟩ w.heap.size #[.int .i64 0, .string ⟨#[]⟩, .string ⟨#[]⟩, .string ⟨#[]⟩, .int .i64 0, .string ⟨#[]⟩, .string ⟨#[]⟩, .string ⟨#[]⟩, .int .i64 0, .string ⟨#[]⟩, .string ⟨#[]⟩, .string ⟨#[]⟩] (by kernel_rfl) (by kernel_rfl) 25 (cells12 noTrip) HR6.out (by kernel_rfl) rfl (by kernel_rfl) ?_)
      exact one_ret _ _ w.heap.size noTrip false _ _ rfl rfl (blk_rowD HR6.out _) (below_rowD HB6.out (Nat.le_refl _) _) HN.out
    have g0 : ((mb : Int) == 0) = false := beq_eq_false_iff_ne.2 (by omega)
    have hm1 : 1 ≤ mb := by omega
    by_cases hm2 : S2.size ≤ mb
    · have HN := Lib.hid (one_none2 HT0.out (take_end (L := S2.data.toList) (by rw [HP1.out, ← Lib.size_eq]; exact hm2)))
      clear hm0
      have hR6 : Blk (w2.alloc (.cells #[.int .i64 bk, .string (bs bx), .string (bs by'), .string (bs bz)] 23)) w.heap.size 25 (cells12 noTrip) := blk_on hR (box_below _ _) (blk_lt hR)
      have hb6 : Below w.heap.size w (w2.alloc (.cells #[.int .i64 bk, .string (bs bx), .string (bs by'), .string (bs bz)] 23)) := hb.alloc hb.size _
      have HR6 := Lib.hid hR6
      have HB6 := Lib.hid hb6
      clear hR6 hb6 hR hb
      go_wp2_with (refine store_row 25 (.tmp 2) (.tmp 54) ⟨rfl, rfl⟩ w.heap.size #[.int .i64 0, .string ⟨#[]⟩, .string ⟨#[]⟩, .string ⟨#[]⟩, .int .i64 0, .string ⟨#[]⟩, .string ⟨#[]⟩, .string ⟨#[]⟩, .int .i64 0, .string ⟨#[]⟩, .string ⟨#[]⟩, .string ⟨#[]⟩] (by kernel_rfl) (by kernel_rfl) 25 (cells12 noTrip) HR6.out (by kernel_rfl) rfl (by kernel_rfl) ?_)
      exact one_ret _ _ w.heap.size noTrip false _ _ rfl rfl (blk_rowD HR6.out _) (below_rowD HB6.out (Nat.le_refl _) _) HN.out
    have hm3 : mb < S2.size := by omega
    have hget := get_list S2 mb hm3
    by_cases hm4 : (S2[mb].toNat : Int) = 32
    · have g1 : ((S2[mb].toNat : Int) != 32) = false := by simp [hm4]
      have HT1 := Lib.hid (take_blank (L := S2.data.toList) (m := mb) (by rw [HP1.out]) hm0 (by rw [← Lib.size_eq]; exact hm3) (by rw [hget]; exact hm4))
      rw [HP1.out] at HT1
      obtain ⟨S3, hS⟩ : ∃ S, S2.extract (mb + 1) S2.size = S := ⟨_, rfl⟩
      have hSz : S3.size ≤ s.size := by rw [← hS, drop_bs S2 (mb + 1), bs_size, List.length_drop, ← Lib.size_eq]; omega
      rw [show S2.data.toList.drop (mb + 1) = S3.data.toList by rw [← hS, drop_bs S2 (mb + 1), bs_data]] at HT1
      have HS2 := Lib.hid hS
      clear hS hm0 hm2 hget hm4
      obtain ⟨⟨⟨ck, cx, cy, cz⟩, mc⟩, hp⟩ : ∃ p, prefixS S3.data.toList = p := ⟨_, rfl⟩
      have hle2 : mc ≤ S3.size := by have := prefixS_length S3.data.toList; rw [hp, ← Lib.size_eq] at this; exact this
      have HSH2 := Lib.hid (show (TermL.mk ck cx cy cz).short s.size from by have := prefix_short' S3.data.toList; rw [hp, ← Lib.size_eq] at this; dsimp only at this; exact ⟨by have := this.1; omega, by have := this.2.1; omega, by have := this.2.2; omega⟩)
      have HP2 := Lib.hid hp
      clear hp
      go_wp2_with fail
      rw [HS2.out]
      refine (rPrefix_calls S3 _ (by omega)).mono ?_
      rintro e w3 ⟨rfl, hbv⟩
      rw [HP2.out]
      simp only [TermL.v]
      replace hR := blk_on (blk_on hR (box_below _ _) (blk_lt hR)) hbv (by have := blk_lt hR; simp; omega)
      replace hb := (hb.alloc hb.size _).trans (hbv.mono (by have := hb.size; simp; omega))
      replace hA := blk_on (blk_on hA (box_below _ _) (blk_lt hA)) hbv (by have := blk_lt hA; simp; omega)
      have hB : Blk w3 w2.heap.size 23 #[.int .i64 bk, .string (bs bx), .string (bs by'), .string (bs bz)] := blk_on (blk_new w2 _ _) hbv (by simp)
      have hlt2 : w2.heap.size < w3.heap.size := blk_lt hB
      clear hbv
      replace hz := blk_lt hR
      have a0 : w3.cell? ⟨w1.heap.size, 0, none⟩ = some (.int .i64 ak) := by rw [blk_cell hA]; rfl
      have a1 : w3.cell? ⟨w1.heap.size, 1, none⟩ = some (.string (bs ax)) := by rw [blk_cell hA]; rfl
      have a2 : w3.cell? ⟨w1.heap.size, 2, none⟩ = some (.string (bs ay)) := by rw [blk_cell hA]; rfl
      have a3 : w3.cell? ⟨w1.heap.size, 3, none⟩ = some (.string (bs az)) := by rw [blk_cell hA]; rfl
      have b0 : w3.cell? ⟨w2.heap.size, 0, none⟩ = some (.int .i64 bk) := by rw [blk_cell hB]; rfl
      have b1 : w3.cell? ⟨w2.heap.size, 1, none⟩ = some (.string (bs bx)) := by rw [blk_cell hB]; rfl
      have b2 : w3.cell? ⟨w2.heap.size, 2, none⟩ = some (.string (bs by')) := by rw [blk_cell hB]; rfl
      have b3 : w3.cell? ⟨w2.heap.size, 3, none⟩ = some (.string (bs bz)) := by rw [blk_cell hB]; rfl
      have hlt13 : w1.heap.size < w3.heap.size := by omega
      have HONE := Lib.hid (one_some HT0.out HT1.out)
      rw [HP2.out] at HONE
      dsimp only at HONE
      have HOK := Lib.hid (show (⟨⟨ak, ax, ay, az⟩, ⟨bk, bx, by', bz⟩, ⟨ck, cx, cy, cz⟩⟩ : TripL).ok from ⟨HSH0.out.ok hs, HSH1.out.ok hs, HSH2.out.ok hs⟩)
      have HR := Lib.hid hR
      have HBW := Lib.hid hb
      clear hR hb hA hB
      go_wp2_with fail
      obtain ⟨W5, hW5⟩ : ∃ W5, (w3.alloc (.cells #[.int .i64 ck, .string (bs cx), .string (bs cy), .string (bs cz)] 23)).alloc (.cells #[.int .i64 ak, .string (bs ax), .string (bs ay), .string (bs az), .int .i64 bk, .string (bs bx), .string (bs by'), .string (bs bz), .int .i64 ck, .string (bs cx), .string (bs cy), .string (bs cz)] 25) = W5 := ⟨_, rfl⟩
      rw [hW5]
      obtain ⟨X, hX⟩ : ∃ X, w3.heap.size + 1 = X := ⟨_, rfl⟩
      rw [hX]
      have hbn : Below W5.heap.size W5 W5 := Below.refl _ _
      have hR5 : Blk W5 w.heap.size 25 (cells12 noTrip) := by rw [← hW5]; exact blk_on (blk_on HR.out (box_below _ _) (blk_lt HR.out)) (box_below _ _) (by have := blk_lt HR.out; simp; omega)
      have hb5 : Below w.heap.size w W5 := by rw [← hW5]; exact (HBW.out.alloc HBW.out.size _).alloc (by have := HBW.out.size; simp; omega) _
      have HC0 := Lib.hid (show W5.cell? ⟨X, 0, none⟩ = some (.int .i64 ak) by rw [← hW5, ← hX]; simp [go_sem])
      have HC1 := Lib.hid (show W5.cell? ⟨X, 1, none⟩ = some (.string (bs ax)) by rw [← hW5, ← hX]; simp [go_sem])
      have HC2 := Lib.hid (show W5.cell? ⟨X, 2, none⟩ = some (.string (bs ay)) by rw [← hW5, ← hX]; simp [go_sem])
      have HC3 := Lib.hid (show W5.cell? ⟨X, 3, none⟩ = some (.string (bs az)) by rw [← hW5, ← hX]; simp [go_sem])
      have HC4 := Lib.hid (show W5.cell? ⟨X, 4, none⟩ = some (.int .i64 bk) by rw [← hW5, ← hX]; simp [go_sem])
      have HC5 := Lib.hid (show W5.cell? ⟨X, 5, none⟩ = some (.string (bs bx)) by rw [← hW5, ← hX]; simp [go_sem])
      have HC6 := Lib.hid (show W5.cell? ⟨X, 6, none⟩ = some (.string (bs by')) by rw [← hW5, ← hX]; simp [go_sem])
      have HC7 := Lib.hid (show W5.cell? ⟨X, 7, none⟩ = some (.string (bs bz)) by rw [← hW5, ← hX]; simp [go_sem])
      have HC8 := Lib.hid (show W5.cell? ⟨X, 8, none⟩ = some (.int .i64 ck) by rw [← hW5, ← hX]; simp [go_sem])
      have HC9 := Lib.hid (show W5.cell? ⟨X, 9, none⟩ = some (.string (bs cx)) by rw [← hW5, ← hX]; simp [go_sem])
      have HC10 := Lib.hid (show W5.cell? ⟨X, 10, none⟩ = some (.string (bs cy)) by rw [← hW5, ← hX]; simp [go_sem])
      have HC11 := Lib.hid (show W5.cell? ⟨X, 11, none⟩ = some (.string (bs cz)) by rw [← hW5, ← hX]; simp [go_sem])
      have c0 := HC0.out
      have c1 := HC1.out
      have c2 := HC2.out
      have c3 := HC3.out
      have c4 := HC4.out
      have c5 := HC5.out
      have c6 := HC6.out
      have c7 := HC7.out
      have c8 := HC8.out
      have c9 := HC9.out
      have c10 := HC10.out
      have c11 := HC11.out
      have HXlt := Lib.hid (show X < W5.heap.size by rw [← hW5, ← hX]; simp)
      have HXne := Lib.hid (show X ≠ w.heap.size by rw [← hX]; have := blk_lt HR.out; omega)
      clear hW5 hX a0 a1 a2 a3 b0 b1 b2 b3
      by_cases hk : mc = 0
      · have g0 : decide ((0 : Int) < (mc : Int)) = false := decide_eq_false (by omega)
        have g0' : ¬ (0 : Int) < (mc : Int) := by omega
        have gN : ¬ 0 < mc := by omega
        have gD : decide (0 < mc) = false := decide_eq_false gN
        have HV := Lib.hid (show (decide (0 < mc) && (S3.data.toList.drop mc == [32, 46] && tripB ⟨⟨ak, ax, ay, az⟩, ⟨bk, bx, by', bz⟩, ⟨ck, cx, cy, cz⟩⟩)) = false by rw [decide_eq_false (by omega : ¬ 0 < mc)]; rfl)
        clear hk
        refine wp_region_held_drew (S := (fun W => W.cell? ⟨X, 0, none⟩ = some (.int .i64 ak) ∧ W.cell? ⟨X, 1, none⟩ = some (.string (bs ax)) ∧ W.cell? ⟨X, 2, none⟩ = some (.string (bs ay)) ∧ W.cell? ⟨X, 3, none⟩ = some (.string (bs az)) ∧ W.cell? ⟨X, 4, none⟩ = some (.int .i64 bk) ∧ W.cell? ⟨X, 5, none⟩ = some (.string (bs bx)) ∧ W.cell? ⟨X, 6, none⟩ = some (.string (bs by')) ∧ W.cell? ⟨X, 7, none⟩ = some (.string (bs bz)) ∧ W.cell? ⟨X, 8, none⟩ = some (.int .i64 ck) ∧ W.cell? ⟨X, 9, none⟩ = some (.string (bs cx)) ∧ W.cell? ⟨X, 10, none⟩ = some (.string (bs cy)) ∧ W.cell? ⟨X, 11, none⟩ = some (.string (bs cz)))) (by kernel_rfl) ?_ (fun hHeld => ?_)
        · (try dsimp only); go_keep
        refine wpAnyH_take (i := 0) (oi := ⟨some 68, _, _, _, _, _⟩) (v := ?_) rfl (by kernel_rfl) (by kernel_rfl) (by kernel_rfl) (fun _ _ _ h => h) (Or.inl ⟨by kernel_rfl, ?_⟩) (by assumption) ?_
        rotate_left
        · (intro ww hSw; (try dsimp only at hSw); go_simp); (try with_reducible rfl)
        (try simp only [Act.put])
        refine wpAnyH_take (i := 1) (oi := ⟨some 69, _, _, _, _, _⟩) (v := ?_) rfl (by kernel_rfl) (by kernel_rfl) (by kernel_rfl) (fun _ _ _ h => h) (Or.inl ⟨by kernel_rfl, ?_⟩) (by assumption) ?_
        rotate_left
        · (intro ww hSw; (try dsimp only at hSw); go_simp); (try with_reducible rfl)
        (try simp only [Act.put])
        refine wpAnyH_take (i := 2) (oi := ⟨some 70, _, _, _, _, _⟩) (v := ?_) rfl (by kernel_rfl) (by kernel_rfl) (by kernel_rfl) (fun _ _ _ h => h) (Or.inl ⟨by kernel_rfl, ?_⟩) (by assumption) ?_
        rotate_left
        · (intro ww hSw; (try dsimp only at hSw); go_simp); (try with_reducible rfl)
        (try simp only [Act.put])
        refine wpAnyH_take (i := 3) (oi := ⟨some 71, _, _, _, _, _⟩) (v := ?_) rfl (by kernel_rfl) (by kernel_rfl) (by kernel_rfl) (fun _ _ _ h => h) (Or.inl ⟨by kernel_rfl, ?_⟩) (by assumption) ?_
        rotate_left
        · (intro ww hSw; (try dsimp only at hSw); go_simp); (try with_reducible rfl)
        (try simp only [Act.put])
        refine wpAnyH_take (i := 4) (oi := ⟨some 72, _, _, _, _, _⟩) (v := undef) rfl (by kernel_rfl) (by kernel_rfl) (by kernel_rfl) (fun _ _ _ h => h) (Or.inr ⟨by kernel_rfl, rfl⟩) (by assumption) ?_
        (try simp only [Act.put])
        refine wpAnyH_take (i := 5) (oi := ⟨some 73, _, _, _, _, _⟩) (v := undef) rfl (by kernel_rfl) (by kernel_rfl) (by kernel_rfl) (fun _ _ _ h => h) (Or.inr ⟨by kernel_rfl, rfl⟩) (by assumption) ?_
        (try simp only [Act.put])
        refine wpAnyH_take (i := 6) (oi := ⟨some 74, _, _, _, _, _⟩) (v := undef) rfl (by kernel_rfl) (by kernel_rfl) (by kernel_rfl) (fun _ _ _ h => h) (Or.inr ⟨by kernel_rfl, rfl⟩) (by assumption) ?_
        (try simp only [Act.put])
        refine wpAnyH_take (i := 7) (oi := ⟨some 75, _, _, _, _, _⟩) (v := undef) rfl (by kernel_rfl) (by kernel_rfl) (by kernel_rfl) (fun _ _ _ h => h) (Or.inr ⟨by kernel_rfl, rfl⟩) (by assumption) ?_
        (try simp only [Act.put])
        refine wpAnyH_take (i := 8) (oi := ⟨some 76, _, _, _, _, _⟩) (v := ?_) rfl (by kernel_rfl) (by kernel_rfl) (by kernel_rfl) (fun _ _ _ h => h) (Or.inl ⟨by kernel_rfl, ?_⟩) (by assumption) ?_
        rotate_left
        · (intro ww hSw; (try dsimp only at hSw); go_simp); (try with_reducible rfl)
        (try simp only [Act.put])
        refine wpAnyH_take (i := 9) (oi := ⟨some 77, _, _, _, _, _⟩) (v := ?_) rfl (by kernel_rfl) (by kernel_rfl) (by kernel_rfl) (fun _ _ _ h => h) (Or.inl ⟨by kernel_rfl, ?_⟩) (by assumption) ?_
        rotate_left
        · (intro ww hSw; (try dsimp only at hSw); go_simp); (try with_reducible rfl)
        (try simp only [Act.put])
        refine wpAnyH_take (i := 10) (oi := ⟨some 78, _, _, _, _, _⟩) (v := undef) rfl (by kernel_rfl) (by kernel_rfl) (by kernel_rfl) (fun _ _ _ h => h) (Or.inr ⟨by kernel_rfl, rfl⟩) (by assumption) ?_
        (try simp only [Act.put])
        refine wpAnyH_take (i := 11) (oi := ⟨some 79, _, _, _, _, _⟩) (v := undef) rfl (by kernel_rfl) (by kernel_rfl) (by kernel_rfl) (fun _ _ _ h => h) (Or.inr ⟨by kernel_rfl, rfl⟩) (by assumption) ?_
        (try simp only [Act.put])
        refine wpAnyH_take (i := 12) (oi := ⟨some 80, _, _, _, _, _⟩) (v := ?_) rfl (by kernel_rfl) (by kernel_rfl) (by kernel_rfl) (fun _ _ _ h => h) (Or.inl ⟨by kernel_rfl, ?_⟩) (by assumption) ?_
        rotate_left
        · (intro ww hSw; (try dsimp only at hSw); go_simp); (try with_reducible rfl)
        (try simp only [Act.put])
        replace hR5 := blkD hR5
        replace hb5 := hb5.drew
        replace c0 := cellD c0
        replace c1 := cellD c1
        replace c2 := cellD c2
        replace c3 := cellD c3
        replace c4 := cellD c4
        replace c5 := cellD c5
        replace c6 := cellD c6
        replace c7 := cellD c7
        replace c8 := cellD c8
        replace c9 := cellD c9
        replace c10 := cellD c10
        replace c11 := cellD c11
        (try simp only [List.setIfInBounds_toArray, List.set_cons_zero, List.set_cons_succ])
        refine wpAnyH_ready (rs := [13]) (by kernel_rfl) (by simp) ?_
        refine AllReadyH.cons rfl (fun K hK => ?_) AllReadyH.nil
        refine wp_store_row 25 (.tmp 2) (.tmp 68) rfl w.heap.size #[.int .i64 ak, .string (bs ax), .string (bs ay), .string (bs az), .int .i64 bk, .string (bs bx), .string (bs by'), .string (bs bz), .int .i64 ck, .string (bs cx), .string (bs cy), .string (bs cz)] (by kernel_rfl) (by kernel_rfl) 25 (cells12 noTrip) (by first | exact hR5 | exact blkD hR5) (by kernel_rfl) rfl (by kernel_rfl) ?_
        change K (Act.put _ none undef) _
        replace hR5 := blk_rowD hR5 #[.int .i64 ak, .string (bs ax), .string (bs ay), .string (bs az), .int .i64 bk, .string (bs bx), .string (bs by'), .string (bs bz), .int .i64 ck, .string (bs cx), .string (bs cy), .string (bs cz)]
        replace hb5 := below_rowD hb5 (Nat.le_refl _) #[.int .i64 ak, .string (bs ax), .string (bs ay), .string (bs az), .int .i64 bk, .string (bs bx), .string (bs by'), .string (bs bz), .int .i64 ck, .string (bs cx), .string (bs cy), .string (bs cz)]
        replace c0 := cell_row c0 HXne.out #[.int .i64 ak, .string (bs ax), .string (bs ay), .string (bs az), .int .i64 bk, .string (bs bx), .string (bs by'), .string (bs bz), .int .i64 ck, .string (bs cx), .string (bs cy), .string (bs cz)]
        replace c1 := cell_row c1 HXne.out #[.int .i64 ak, .string (bs ax), .string (bs ay), .string (bs az), .int .i64 bk, .string (bs bx), .string (bs by'), .string (bs bz), .int .i64 ck, .string (bs cx), .string (bs cy), .string (bs cz)]
        replace c2 := cell_row c2 HXne.out #[.int .i64 ak, .string (bs ax), .string (bs ay), .string (bs az), .int .i64 bk, .string (bs bx), .string (bs by'), .string (bs bz), .int .i64 ck, .string (bs cx), .string (bs cy), .string (bs cz)]
        replace c3 := cell_row c3 HXne.out #[.int .i64 ak, .string (bs ax), .string (bs ay), .string (bs az), .int .i64 bk, .string (bs bx), .string (bs by'), .string (bs bz), .int .i64 ck, .string (bs cx), .string (bs cy), .string (bs cz)]
        replace c4 := cell_row c4 HXne.out #[.int .i64 ak, .string (bs ax), .string (bs ay), .string (bs az), .int .i64 bk, .string (bs bx), .string (bs by'), .string (bs bz), .int .i64 ck, .string (bs cx), .string (bs cy), .string (bs cz)]
        replace c5 := cell_row c5 HXne.out #[.int .i64 ak, .string (bs ax), .string (bs ay), .string (bs az), .int .i64 bk, .string (bs bx), .string (bs by'), .string (bs bz), .int .i64 ck, .string (bs cx), .string (bs cy), .string (bs cz)]
        replace c6 := cell_row c6 HXne.out #[.int .i64 ak, .string (bs ax), .string (bs ay), .string (bs az), .int .i64 bk, .string (bs bx), .string (bs by'), .string (bs bz), .int .i64 ck, .string (bs cx), .string (bs cy), .string (bs cz)]
        replace c7 := cell_row c7 HXne.out #[.int .i64 ak, .string (bs ax), .string (bs ay), .string (bs az), .int .i64 bk, .string (bs bx), .string (bs by'), .string (bs bz), .int .i64 ck, .string (bs cx), .string (bs cy), .string (bs cz)]
        replace c8 := cell_row c8 HXne.out #[.int .i64 ak, .string (bs ax), .string (bs ay), .string (bs az), .int .i64 bk, .string (bs bx), .string (bs by'), .string (bs bz), .int .i64 ck, .string (bs cx), .string (bs cy), .string (bs cz)]
        replace c9 := cell_row c9 HXne.out #[.int .i64 ak, .string (bs ax), .string (bs ay), .string (bs az), .int .i64 bk, .string (bs bx), .string (bs by'), .string (bs bz), .int .i64 ck, .string (bs cx), .string (bs cy), .string (bs cz)]
        replace c10 := cell_row c10 HXne.out #[.int .i64 ak, .string (bs ax), .string (bs ay), .string (bs az), .int .i64 bk, .string (bs bx), .string (bs by'), .string (bs bz), .int .i64 ck, .string (bs cx), .string (bs cy), .string (bs cz)]
        replace c11 := cell_row c11 HXne.out #[.int .i64 ak, .string (bs ax), .string (bs ay), .string (bs az), .int .i64 bk, .string (bs bx), .string (bs by'), .string (bs bz), .int .i64 ck, .string (bs cx), .string (bs cy), .string (bs cz)]
        (try simp only [Act.put])
        refine hK.out _ _ ?_ (fun hHeld => ?_)
        · (try dsimp only); first | exact ⟨c0, c1, c2, c3, c4, c5, c6, c7, c8, c9, c10, c11⟩ | go_keep
        clear hK K
        refine wpAnyH_take (i := 14) (oi := ⟨some 3, _, _, _, _, _⟩) (v := ?_) rfl (by kernel_rfl) (by kernel_rfl) (by kernel_rfl) (fun _ _ _ h => h) (Or.inl ⟨by kernel_rfl, ?_⟩) (by assumption) ?_
        rotate_left
        · (intro ww hSw; (try dsimp only at hSw); go_simp); (try with_reducible rfl)
        (try simp only [Act.put])
        refine wpAnyH_done (by kernel_rfl) ?_ _
        go_wp2_with fail
        (try simp only [List.setIfInBounds_toArray, List.set_cons_zero, List.set_cons_succ])
        exact one_ret _ _ w.heap.size ⟨⟨ak, ax, ay, az⟩, ⟨bk, bx, by', bz⟩, ⟨ck, cx, cy, cz⟩⟩ false _ _ (by first | rfl | simp) (by first | rfl | simp) (by first | exact hR5 | exact blkD hR5 | exact blkD2 hR5) (by first | exact hb5 | exact hb5.drew | exact hb5.drew.drew) (by rw [HONE.out, HV.out])
      have hk1 : 1 ≤ mc := by omega
      have g0 : decide ((0 : Int) < (mc : Int)) = true := decide_eq_true (by omega)
      have g0' : (0 : Int) < (mc : Int) := by omega
      have gN : 0 < mc := by omega
      have gD : decide (0 < mc) = true := decide_eq_true gN
      have gs0 : (0 : Int) ≤ (mc : Int) := by omega
      have gs1 : (mc : Int) ≤ (S3.size : Int) := by omega
      have htl : ((S3.extract mc S3.size).toList == [32, 46]) = (S3.data.toList.drop mc == [32, 46]) := by rw [drop_bs S3 mc, bs_toList]
      have htl2 : (⟨#[32, 46]⟩ : ByteArray).toList = [32, 46] := by rw [Lib.toList_data]
      cases hq : (S3.data.toList.drop mc == [32, 46]) with
      | false =>
        have HV := Lib.hid (show (decide (0 < mc) && (S3.data.toList.drop mc == [32, 46] && tripB ⟨⟨ak, ax, ay, az⟩, ⟨bk, bx, by', bz⟩, ⟨ck, cx, cy, cz⟩⟩)) = false by rw [hq]; simp)
        rw [hq] at htl
        clear hk hq
        refine wp_region_held_drew (S := (fun W => W.cell? ⟨X, 0, none⟩ = some (.int .i64 ak) ∧ W.cell? ⟨X, 1, none⟩ = some (.string (bs ax)) ∧ W.cell? ⟨X, 2, none⟩ = some (.string (bs ay)) ∧ W.cell? ⟨X, 3, none⟩ = some (.string (bs az)) ∧ W.cell? ⟨X, 4, none⟩ = some (.int .i64 bk) ∧ W.cell? ⟨X, 5, none⟩ = some (.string (bs bx)) ∧ W.cell? ⟨X, 6, none⟩ = some (.string (bs by')) ∧ W.cell? ⟨X, 7, none⟩ = some (.string (bs bz)) ∧ W.cell? ⟨X, 8, none⟩ = some (.int .i64 ck) ∧ W.cell? ⟨X, 9, none⟩ = some (.string (bs cx)) ∧ W.cell? ⟨X, 10, none⟩ = some (.string (bs cy)) ∧ W.cell? ⟨X, 11, none⟩ = some (.string (bs cz)))) (by kernel_rfl) ?_ (fun hHeld => ?_)
        · (try dsimp only); go_keep
        refine wpAnyH_take (i := 0) (oi := ⟨some 68, _, _, _, _, _⟩) (v := ?_) rfl (by kernel_rfl) (by kernel_rfl) (by kernel_rfl) (fun _ _ _ h => h) (Or.inl ⟨by kernel_rfl, ?_⟩) (by assumption) ?_
        rotate_left
        · (intro ww hSw; (try dsimp only at hSw); go_simp); (try with_reducible rfl)
        (try simp only [Act.put])
        refine wpAnyH_take (i := 1) (oi := ⟨some 69, _, _, _, _, _⟩) (v := ?_) rfl (by kernel_rfl) (by kernel_rfl) (by kernel_rfl) (fun _ _ _ h => h) (Or.inl ⟨by kernel_rfl, ?_⟩) (by assumption) ?_
        rotate_left
        · (intro ww hSw; (try dsimp only at hSw); go_simp); (try with_reducible rfl)
        (try simp only [Act.put])
        refine wpAnyH_take (i := 2) (oi := ⟨some 70, _, _, _, _, _⟩) (v := ?_) rfl (by kernel_rfl) (by kernel_rfl) (by kernel_rfl) (fun _ _ _ h => h) (Or.inl ⟨by kernel_rfl, ?_⟩) (by assumption) ?_
        rotate_left
        · (intro ww hSw; (try dsimp only at hSw); go_simp); (try with_reducible rfl)
        (try simp only [Act.put])
        refine wpAnyH_take (i := 3) (oi := ⟨some 71, _, _, _, _, _⟩) (v := ?_) rfl (by kernel_rfl) (by kernel_rfl) (by kernel_rfl) (fun _ _ _ h => h) (Or.inl ⟨by kernel_rfl, ?_⟩) (by assumption) ?_
        rotate_left
        · (intro ww hSw; (try dsimp only at hSw); go_simp); (try with_reducible rfl)
        (try simp only [Act.put])
        refine wpAnyH_take (i := 4) (oi := ⟨some 72, _, _, _, _, _⟩) (v := ?_) rfl (by kernel_rfl) (by kernel_rfl) (by kernel_rfl) (fun _ _ _ h => h) (Or.inl ⟨by kernel_rfl, ?_⟩) (by assumption) ?_
        rotate_left
        · (intro ww hSw; (try dsimp only at hSw); go_simp); (try with_reducible rfl)
        (try simp only [Act.put])
        refine wpAnyH_take (i := 5) (oi := ⟨some 73, _, _, _, _, _⟩) (v := ?_) rfl (by kernel_rfl) (by kernel_rfl) (by kernel_rfl) (fun _ _ _ h => h) (Or.inl ⟨by kernel_rfl, ?_⟩) (by assumption) ?_
        rotate_left
        · (intro ww hSw; (try dsimp only at hSw); go_simp); (try with_reducible rfl)
        (try simp only [Act.put])
        refine wpAnyH_take (i := 6) (oi := ⟨some 74, _, _, _, _, _⟩) (v := ?_) rfl (by kernel_rfl) (by kernel_rfl) (by kernel_rfl) (fun _ _ _ h => h) (Or.inl ⟨by kernel_rfl, ?_⟩) (by assumption) ?_
        rotate_left
        · (intro ww hSw; (try dsimp only at hSw); go_simp); (try with_reducible rfl)
        (try simp only [Act.put])
        refine wpAnyH_take (i := 7) (oi := ⟨some 75, _, _, _, _, _⟩) (v := ?_) rfl (by kernel_rfl) (by kernel_rfl) (by kernel_rfl) (fun _ _ _ h => h) (Or.inl ⟨by kernel_rfl, ?_⟩) (by assumption) ?_
        rotate_left
        · (intro ww hSw; (try dsimp only at hSw); go_simp); (try with_reducible rfl)
        (try simp only [Act.put])
        refine wpAnyH_take (i := 8) (oi := ⟨some 76, _, _, _, _, _⟩) (v := ?_) rfl (by kernel_rfl) (by kernel_rfl) (by kernel_rfl) (fun _ _ _ h => h) (Or.inl ⟨by kernel_rfl, ?_⟩) (by assumption) ?_
        rotate_left
        · (intro ww hSw; (try dsimp only at hSw); go_simp); (try with_reducible rfl)
        (try simp only [Act.put])
        refine wpAnyH_take (i := 9) (oi := ⟨some 77, _, _, _, _, _⟩) (v := ?_) rfl (by kernel_rfl) (by kernel_rfl) (by kernel_rfl) (fun _ _ _ h => h) (Or.inl ⟨by kernel_rfl, ?_⟩) (by assumption) ?_
        rotate_left
        · (intro ww hSw; (try dsimp only at hSw); go_simp); (try with_reducible rfl)
        (try simp only [Act.put])
        refine wpAnyH_take (i := 10) (oi := ⟨some 78, _, _, _, _, _⟩) (v := undef) rfl (by kernel_rfl) (by kernel_rfl) (by kernel_rfl) (fun _ _ _ h => h) (Or.inr ⟨by kernel_rfl, rfl⟩) (by assumption) ?_
        (try simp only [Act.put])
        refine wpAnyH_take (i := 11) (oi := ⟨some 79, _, _, _, _, _⟩) (v := undef) rfl (by kernel_rfl) (by kernel_rfl) (by kernel_rfl) (fun _ _ _ h => h) (Or.inr ⟨by kernel_rfl, rfl⟩) (by assumption) ?_
        (try simp only [Act.put])
        refine wpAnyH_take (i := 12) (oi := ⟨some 80, _, _, _, _, _⟩) (v := ?_) rfl (by kernel_rfl) (by kernel_rfl) (by kernel_rfl) (fun _ _ _ h => h) (Or.inl ⟨by kernel_rfl, ?_⟩) (by assumption) ?_
        rotate_left
        · (intro ww hSw; (try dsimp only at hSw); go_simp); (try with_reducible rfl)
        (try simp only [Act.put])
        replace hR5 := blkD hR5
        replace hb5 := hb5.drew
        replace c0 := cellD c0
        replace c1 := cellD c1
        replace c2 := cellD c2
        replace c3 := cellD c3
        replace c4 := cellD c4
        replace c5 := cellD c5
        replace c6 := cellD c6
        replace c7 := cellD c7
        replace c8 := cellD c8
        replace c9 := cellD c9
        replace c10 := cellD c10
        replace c11 := cellD c11
        (try simp only [List.setIfInBounds_toArray, List.set_cons_zero, List.set_cons_succ])
        refine wpAnyH_ready (rs := [13]) (by kernel_rfl) (by simp) ?_
        refine AllReadyH.cons rfl (fun K hK => ?_) AllReadyH.nil
        refine wp_store_row 25 (.tmp 2) (.tmp 68) rfl w.heap.size #[.int .i64 ak, .string (bs ax), .string (bs ay), .string (bs az), .int .i64 bk, .string (bs bx), .string (bs by'), .string (bs bz), .int .i64 ck, .string (bs cx), .string (bs cy), .string (bs cz)] (by kernel_rfl) (by kernel_rfl) 25 (cells12 noTrip) (by first | exact hR5 | exact blkD hR5) (by kernel_rfl) rfl (by kernel_rfl) ?_
        change K (Act.put _ none undef) _
        replace hR5 := blk_rowD hR5 #[.int .i64 ak, .string (bs ax), .string (bs ay), .string (bs az), .int .i64 bk, .string (bs bx), .string (bs by'), .string (bs bz), .int .i64 ck, .string (bs cx), .string (bs cy), .string (bs cz)]
        replace hb5 := below_rowD hb5 (Nat.le_refl _) #[.int .i64 ak, .string (bs ax), .string (bs ay), .string (bs az), .int .i64 bk, .string (bs bx), .string (bs by'), .string (bs bz), .int .i64 ck, .string (bs cx), .string (bs cy), .string (bs cz)]
        replace c0 := cell_row c0 HXne.out #[.int .i64 ak, .string (bs ax), .string (bs ay), .string (bs az), .int .i64 bk, .string (bs bx), .string (bs by'), .string (bs bz), .int .i64 ck, .string (bs cx), .string (bs cy), .string (bs cz)]
        replace c1 := cell_row c1 HXne.out #[.int .i64 ak, .string (bs ax), .string (bs ay), .string (bs az), .int .i64 bk, .string (bs bx), .string (bs by'), .string (bs bz), .int .i64 ck, .string (bs cx), .string (bs cy), .string (bs cz)]
        replace c2 := cell_row c2 HXne.out #[.int .i64 ak, .string (bs ax), .string (bs ay), .string (bs az), .int .i64 bk, .string (bs bx), .string (bs by'), .string (bs bz), .int .i64 ck, .string (bs cx), .string (bs cy), .string (bs cz)]
        replace c3 := cell_row c3 HXne.out #[.int .i64 ak, .string (bs ax), .string (bs ay), .string (bs az), .int .i64 bk, .string (bs bx), .string (bs by'), .string (bs bz), .int .i64 ck, .string (bs cx), .string (bs cy), .string (bs cz)]
        replace c4 := cell_row c4 HXne.out #[.int .i64 ak, .string (bs ax), .string (bs ay), .string (bs az), .int .i64 bk, .string (bs bx), .string (bs by'), .string (bs bz), .int .i64 ck, .string (bs cx), .string (bs cy), .string (bs cz)]
        replace c5 := cell_row c5 HXne.out #[.int .i64 ak, .string (bs ax), .string (bs ay), .string (bs az), .int .i64 bk, .string (bs bx), .string (bs by'), .string (bs bz), .int .i64 ck, .string (bs cx), .string (bs cy), .string (bs cz)]
        replace c6 := cell_row c6 HXne.out #[.int .i64 ak, .string (bs ax), .string (bs ay), .string (bs az), .int .i64 bk, .string (bs bx), .string (bs by'), .string (bs bz), .int .i64 ck, .string (bs cx), .string (bs cy), .string (bs cz)]
        replace c7 := cell_row c7 HXne.out #[.int .i64 ak, .string (bs ax), .string (bs ay), .string (bs az), .int .i64 bk, .string (bs bx), .string (bs by'), .string (bs bz), .int .i64 ck, .string (bs cx), .string (bs cy), .string (bs cz)]
        replace c8 := cell_row c8 HXne.out #[.int .i64 ak, .string (bs ax), .string (bs ay), .string (bs az), .int .i64 bk, .string (bs bx), .string (bs by'), .string (bs bz), .int .i64 ck, .string (bs cx), .string (bs cy), .string (bs cz)]
        replace c9 := cell_row c9 HXne.out #[.int .i64 ak, .string (bs ax), .string (bs ay), .string (bs az), .int .i64 bk, .string (bs bx), .string (bs by'), .string (bs bz), .int .i64 ck, .string (bs cx), .string (bs cy), .string (bs cz)]
        replace c10 := cell_row c10 HXne.out #[.int .i64 ak, .string (bs ax), .string (bs ay), .string (bs az), .int .i64 bk, .string (bs bx), .string (bs by'), .string (bs bz), .int .i64 ck, .string (bs cx), .string (bs cy), .string (bs cz)]
        replace c11 := cell_row c11 HXne.out #[.int .i64 ak, .string (bs ax), .string (bs ay), .string (bs az), .int .i64 bk, .string (bs bx), .string (bs by'), .string (bs bz), .int .i64 ck, .string (bs cx), .string (bs cy), .string (bs cz)]
        (try simp only [Act.put])
        refine hK.out _ _ ?_ (fun hHeld => ?_)
        · (try dsimp only); first | exact ⟨c0, c1, c2, c3, c4, c5, c6, c7, c8, c9, c10, c11⟩ | go_keep
        clear hK K
        refine wpAnyH_take (i := 14) (oi := ⟨some 3, _, _, _, _, _⟩) (v := ?_) rfl (by kernel_rfl) (by kernel_rfl) (by kernel_rfl) (fun _ _ _ h => h) (Or.inl ⟨by kernel_rfl, ?_⟩) (by assumption) ?_
        rotate_left
        · (intro ww hSw; (try dsimp only at hSw); go_simp); (try with_reducible rfl)
        (try simp only [Act.put])
        refine wpAnyH_done (by kernel_rfl) ?_ _
        go_wp2_with fail
        (try simp only [List.setIfInBounds_toArray, List.set_cons_zero, List.set_cons_succ])
        exact one_ret _ _ w.heap.size ⟨⟨ak, ax, ay, az⟩, ⟨bk, bx, by', bz⟩, ⟨ck, cx, cy, cz⟩⟩ false _ _ (by first | rfl | simp) (by first | rfl | simp) (by first | exact hR5 | exact blkD hR5 | exact blkD2 hR5) (by first | exact hb5 | exact hb5.drew | exact hb5.drew.drew) (by rw [HONE.out, HV.out])
      | true =>
        rw [hq] at htl
        obtain ⟨tb, htb⟩ : ∃ tb, tripB ⟨⟨ak, ax, ay, az⟩, ⟨bk, bx, by', bz⟩, ⟨ck, cx, cy, cz⟩⟩ = tb := ⟨_, rfl⟩
        have HV := Lib.hid (show (decide (0 < mc) && (S3.data.toList.drop mc == [32, 46] && tripB ⟨⟨ak, ax, ay, az⟩, ⟨bk, bx, by', bz⟩, ⟨ck, cx, cy, cz⟩⟩)) = tb by rw [hq, htb, decide_eq_true (by omega : 0 < mc)]; rfl)
        have HTB := Lib.hid htb
        clear hk hq htb
        refine wp_region_held_drew (S := (fun W => W.cell? ⟨X, 0, none⟩ = some (.int .i64 ak) ∧ W.cell? ⟨X, 1, none⟩ = some (.string (bs ax)) ∧ W.cell? ⟨X, 2, none⟩ = some (.string (bs ay)) ∧ W.cell? ⟨X, 3, none⟩ = some (.string (bs az)) ∧ W.cell? ⟨X, 4, none⟩ = some (.int .i64 bk) ∧ W.cell? ⟨X, 5, none⟩ = some (.string (bs bx)) ∧ W.cell? ⟨X, 6, none⟩ = some (.string (bs by')) ∧ W.cell? ⟨X, 7, none⟩ = some (.string (bs bz)) ∧ W.cell? ⟨X, 8, none⟩ = some (.int .i64 ck) ∧ W.cell? ⟨X, 9, none⟩ = some (.string (bs cx)) ∧ W.cell? ⟨X, 10, none⟩ = some (.string (bs cy)) ∧ W.cell? ⟨X, 11, none⟩ = some (.string (bs cz)))) (by kernel_rfl) ?_ (fun hHeld => ?_)
        · (try dsimp only); go_keep
        refine wpAnyH_take (i := 0) (v := ?_) rfl (by kernel_rfl) (by kernel_rfl) (by kernel_rfl) (fun _ _ _ h => h) (Or.inl ⟨by kernel_rfl, ?_⟩) (by assumption) ?_
        rotate_left
        · (intro ww hSw; (try dsimp only at hSw); go_simp); (try with_reducible rfl)
        (try simp only [Act.put])
        refine wpAnyH_take (i := 1) (v := ?_) rfl (by kernel_rfl) (by kernel_rfl) (by kernel_rfl) (fun _ _ _ h => h) (Or.inl ⟨by kernel_rfl, ?_⟩) (by assumption) ?_
        rotate_left
        · (intro ww hSw; (try dsimp only at hSw); go_simp); (try with_reducible rfl)
        (try simp only [Act.put])
        refine wpAnyH_take (i := 2) (v := ?_) rfl (by kernel_rfl) (by kernel_rfl) (by kernel_rfl) (fun _ _ _ h => h) (Or.inl ⟨by kernel_rfl, ?_⟩) (by assumption) ?_
        rotate_left
        · (intro ww hSw; (try dsimp only at hSw); go_simp); (try with_reducible rfl)
        (try simp only [Act.put])
        refine wpAnyH_take (i := 3) (v := ?_) rfl (by kernel_rfl) (by kernel_rfl) (by kernel_rfl) (fun _ _ _ h => h) (Or.inl ⟨by kernel_rfl, ?_⟩) (by assumption) ?_
        rotate_left
        · (intro ww hSw; (try dsimp only at hSw); go_simp); (try with_reducible rfl)
        (try simp only [Act.put])
        refine wpAnyH_take (i := 4) (v := ?_) rfl (by kernel_rfl) (by kernel_rfl) (by kernel_rfl) (fun _ _ _ h => h) (Or.inl ⟨by kernel_rfl, ?_⟩) (by assumption) ?_
        rotate_left
        · (intro ww hSw; (try dsimp only at hSw); go_simp); (try with_reducible rfl)
        (try simp only [Act.put])
        refine wpAnyH_take (i := 5) (v := ?_) rfl (by kernel_rfl) (by kernel_rfl) (by kernel_rfl) (fun _ _ _ h => h) (Or.inl ⟨by kernel_rfl, ?_⟩) (by assumption) ?_
        rotate_left
        · (intro ww hSw; (try dsimp only at hSw); go_simp); (try with_reducible rfl)
        (try simp only [Act.put])
        refine wpAnyH_take (i := 6) (v := ?_) rfl (by kernel_rfl) (by kernel_rfl) (by kernel_rfl) (fun _ _ _ h => h) (Or.inl ⟨by kernel_rfl, ?_⟩) (by assumption) ?_
        rotate_left
        · (intro ww hSw; (try dsimp only at hSw); go_simp); (try with_reducible rfl)
        (try simp only [Act.put])
        refine wpAnyH_take (i := 7) (v := ?_) rfl (by kernel_rfl) (by kernel_rfl) (by kernel_rfl) (fun _ _ _ h => h) (Or.inl ⟨by kernel_rfl, ?_⟩) (by assumption) ?_
        rotate_left
        · (intro ww hSw; (try dsimp only at hSw); go_simp); (try with_reducible rfl)
        (try simp only [Act.put])
        refine wpAnyH_take (i := 8) (v := ?_) rfl (by kernel_rfl) (by kernel_rfl) (by kernel_rfl) (fun _ _ _ h => h) (Or.inl ⟨by kernel_rfl, ?_⟩) (by assumption) ?_
        rotate_left
        · (intro ww hSw; (try dsimp only at hSw); go_simp); (try with_reducible rfl)
        (try simp only [Act.put])
        refine wpAnyH_take (i := 9) (v := ?_) rfl (by kernel_rfl) (by kernel_rfl) (by kernel_rfl) (fun _ _ _ h => h) (Or.inl ⟨by kernel_rfl, ?_⟩) (by assumption) ?_
        rotate_left
        · (intro ww hSw; (try dsimp only at hSw); go_simp); (try with_reducible rfl)
        (try simp only [Act.put])
        refine wpAnyH_take (i := 10) (v := ?_) rfl (by kernel_rfl) (by kernel_rfl) (by kernel_rfl) (fun _ _ _ h => h) (Or.inl ⟨by kernel_rfl, ?_⟩) (by assumption) ?_
        rotate_left
        · (intro ww hSw; (try dsimp only at hSw); go_simp); (try with_reducible rfl)
        (try simp only [Act.put])
        refine wpAnyH_ready (rs := [11]) (by kernel_rfl) (by simp) ?_
        refine AllReadyH.cons rfl (fun K hK => ?_) AllReadyH.nil
        go_simp
        refine (rTrip_calls ⟨⟨ak, ax, ay, az⟩, ⟨bk, bx, by', bz⟩, ⟨ck, cx, cy, cz⟩⟩ HOK.out _).mono ?_
        rintro e w6 ⟨rfl, hbv⟩
        rw [HTB.out]
        (try replace hbv := from_drew hbv)
        replace hR5 := blk_on hR5 hbv (blk_lt hR5)
        replace hb5 := hb5.trans (hbv.mono hb5.size)
        replace c0 := kept1 c0 hbv HXlt.out
        replace c1 := kept1 c1 hbv HXlt.out
        replace c2 := kept1 c2 hbv HXlt.out
        replace c3 := kept1 c3 hbv HXlt.out
        replace c4 := kept1 c4 hbv HXlt.out
        replace c5 := kept1 c5 hbv HXlt.out
        replace c6 := kept1 c6 hbv HXlt.out
        replace c7 := kept1 c7 hbv HXlt.out
        replace c8 := kept1 c8 hbv HXlt.out
        replace c9 := kept1 c9 hbv HXlt.out
        replace c10 := kept1 c10 hbv HXlt.out
        replace c11 := kept1 c11 hbv HXlt.out
        clear hbv
        go_wp2_with fail
        refine hK.out _ _ ?_ (fun hHeld => ?_)
        · (try dsimp only); go_keep
        clear hK K
        (try simp only [Act.put, List.setIfInBounds_toArray, List.set_cons_zero, List.set_cons_succ])
        refine wpAnyH_take (i := 12) (oi := ⟨some 80, _, _, _, _, _⟩) (v := ?_) rfl (by kernel_rfl) (by kernel_rfl) (by kernel_rfl) (fun _ _ _ h => h) (Or.inl ⟨by kernel_rfl, ?_⟩) (by assumption) ?_
        rotate_left
        · (intro ww hSw; (try dsimp only at hSw); go_simp); (try with_reducible rfl)
        (try simp only [Act.put])
        refine wpAnyH_ready (rs := [13]) (by kernel_rfl) (by simp) ?_
        refine AllReadyH.cons rfl (fun K hK => ?_) AllReadyH.nil
        refine wp_store_row 25 (.tmp 2) (.tmp 68) rfl w.heap.size #[.int .i64 ak, .string (bs ax), .string (bs ay), .string (bs az), .int .i64 bk, .string (bs bx), .string (bs by'), .string (bs bz), .int .i64 ck, .string (bs cx), .string (bs cy), .string (bs cz)] (by kernel_rfl) (by kernel_rfl) 25 (cells12 noTrip) (by first | exact hR5 | exact blkD hR5) (by kernel_rfl) rfl (by kernel_rfl) ?_
        change K (Act.put _ none undef) _
        replace hR5 := blk_rowD hR5 #[.int .i64 ak, .string (bs ax), .string (bs ay), .string (bs az), .int .i64 bk, .string (bs bx), .string (bs by'), .string (bs bz), .int .i64 ck, .string (bs cx), .string (bs cy), .string (bs cz)]
        replace hb5 := below_rowD hb5 (Nat.le_refl _) #[.int .i64 ak, .string (bs ax), .string (bs ay), .string (bs az), .int .i64 bk, .string (bs bx), .string (bs by'), .string (bs bz), .int .i64 ck, .string (bs cx), .string (bs cy), .string (bs cz)]
        replace c0 := cell_row c0 HXne.out #[.int .i64 ak, .string (bs ax), .string (bs ay), .string (bs az), .int .i64 bk, .string (bs bx), .string (bs by'), .string (bs bz), .int .i64 ck, .string (bs cx), .string (bs cy), .string (bs cz)]
        replace c1 := cell_row c1 HXne.out #[.int .i64 ak, .string (bs ax), .string (bs ay), .string (bs az), .int .i64 bk, .string (bs bx), .string (bs by'), .string (bs bz), .int .i64 ck, .string (bs cx), .string (bs cy), .string (bs cz)]
        replace c2 := cell_row c2 HXne.out #[.int .i64 ak, .string (bs ax), .string (bs ay), .string (bs az), .int .i64 bk, .string (bs bx), .string (bs by'), .string (bs bz), .int .i64 ck, .string (bs cx), .string (bs cy), .string (bs cz)]
        replace c3 := cell_row c3 HXne.out #[.int .i64 ak, .string (bs ax), .string (bs ay), .string (bs az), .int .i64 bk, .string (bs bx), .string (bs by'), .string (bs bz), .int .i64 ck, .string (bs cx), .string (bs cy), .string (bs cz)]
        replace c4 := cell_row c4 HXne.out #[.int .i64 ak, .string (bs ax), .string (bs ay), .string (bs az), .int .i64 bk, .string (bs bx), .string (bs by'), .string (bs bz), .int .i64 ck, .string (bs cx), .string (bs cy), .string (bs cz)]
        replace c5 := cell_row c5 HXne.out #[.int .i64 ak, .string (bs ax), .string (bs ay), .string (bs az), .int .i64 bk, .string (bs bx), .string (bs by'), .string (bs bz), .int .i64 ck, .string (bs cx), .string (bs cy), .string (bs cz)]
        replace c6 := cell_row c6 HXne.out #[.int .i64 ak, .string (bs ax), .string (bs ay), .string (bs az), .int .i64 bk, .string (bs bx), .string (bs by'), .string (bs bz), .int .i64 ck, .string (bs cx), .string (bs cy), .string (bs cz)]
        replace c7 := cell_row c7 HXne.out #[.int .i64 ak, .string (bs ax), .string (bs ay), .string (bs az), .int .i64 bk, .string (bs bx), .string (bs by'), .string (bs bz), .int .i64 ck, .string (bs cx), .string (bs cy), .string (bs cz)]
        replace c8 := cell_row c8 HXne.out #[.int .i64 ak, .string (bs ax), .string (bs ay), .string (bs az), .int .i64 bk, .string (bs bx), .string (bs by'), .string (bs bz), .int .i64 ck, .string (bs cx), .string (bs cy), .string (bs cz)]
        replace c9 := cell_row c9 HXne.out #[.int .i64 ak, .string (bs ax), .string (bs ay), .string (bs az), .int .i64 bk, .string (bs bx), .string (bs by'), .string (bs bz), .int .i64 ck, .string (bs cx), .string (bs cy), .string (bs cz)]
        replace c10 := cell_row c10 HXne.out #[.int .i64 ak, .string (bs ax), .string (bs ay), .string (bs az), .int .i64 bk, .string (bs bx), .string (bs by'), .string (bs bz), .int .i64 ck, .string (bs cx), .string (bs cy), .string (bs cz)]
        replace c11 := cell_row c11 HXne.out #[.int .i64 ak, .string (bs ax), .string (bs ay), .string (bs az), .int .i64 bk, .string (bs bx), .string (bs by'), .string (bs bz), .int .i64 ck, .string (bs cx), .string (bs cy), .string (bs cz)]
        (try simp only [Act.put])
        refine hK.out _ _ ?_ (fun hHeld => ?_)
        · (try dsimp only); first | exact ⟨c0, c1, c2, c3, c4, c5, c6, c7, c8, c9, c10, c11⟩ | go_keep
        clear hK K
        refine wpAnyH_take (i := 14) (oi := ⟨some 3, _, _, _, _, _⟩) (v := ?_) rfl (by kernel_rfl) (by kernel_rfl) (by kernel_rfl) (fun _ _ _ h => h) (Or.inl ⟨by kernel_rfl, ?_⟩) (by assumption) ?_
        rotate_left
        · (intro ww hSw; (try dsimp only at hSw); go_simp); (try with_reducible rfl)
        (try simp only [Act.put])
        refine wpAnyH_done (by kernel_rfl) ?_ _
        go_wp2_with fail
        (try simp only [List.setIfInBounds_toArray, List.set_cons_zero, List.set_cons_succ])
        exact one_ret _ _ w.heap.size ⟨⟨ak, ax, ay, az⟩, ⟨bk, bx, by', bz⟩, ⟨ck, cx, cy, cz⟩⟩ tb _ _ (by first | rfl | simp) (by first | rfl | simp) (by first | exact hR5 | exact blkD hR5 | exact blkD2 hR5) (by first | exact hb5 | exact hb5.drew | exact hb5.drew.drew) (by rw [HONE.out, HV.out])
    · have g1 : ((S2[mb].toNat : Int) != 32) = true := by simp [hm4]
      have HN := Lib.hid (one_none2 HT0.out (take_byte (L := S2.data.toList) (m := mb) (by rw [HP1.out]) (by rw [← Lib.size_eq]; exact hm3) (by rw [hget]; exact hm4)))
      clear hm0 hm2 hget hm4
      have hR6 : Blk (w2.alloc (.cells #[.int .i64 bk, .string (bs bx), .string (bs by'), .string (bs bz)] 23)) w.heap.size 25 (cells12 noTrip) := blk_on hR (box_below _ _) (blk_lt hR)
      have hb6 : Below w.heap.size w (w2.alloc (.cells #[.int .i64 bk, .string (bs bx), .string (bs by'), .string (bs bz)] 23)) := hb.alloc hb.size _
      have HR6 := Lib.hid hR6
      have HB6 := Lib.hid hb6
      clear hR6 hb6 hR hb
      go_wp2_with (refine store_row 25 (.tmp 2) (.tmp 54) ⟨rfl, rfl⟩ w.heap.size #[.int .i64 0, .string ⟨#[]⟩, .string ⟨#[]⟩, .string ⟨#[]⟩, .int .i64 0, .string ⟨#[]⟩, .string ⟨#[]⟩, .string ⟨#[]⟩, .int .i64 0, .string ⟨#[]⟩, .string ⟨#[]⟩, .string ⟨#[]⟩] (by kernel_rfl) (by kernel_rfl) 25 (cells12 noTrip) HR6.out (by kernel_rfl) rfl (by kernel_rfl) ?_)
      exact one_ret _ _ w.heap.size noTrip false _ _ rfl rfl (blk_rowD HR6.out _) (below_rowD HB6.out (Nat.le_refl _) _) HN.out
  · have g1 : ((s[ma].toNat : Int) != 32) = true := by simp [hm4]
    have HN := Lib.hid (one_none1 (take_byte (L := s.data.toList) (m := ma) (by rw [HP0.out]) (by rw [← Lib.size_eq]; exact hm3) (by rw [hget]; exact hm4)))
    clear hm0 hm2 hget hm4
    have hR6 : Blk (w1.alloc (.cells #[.int .i64 ak, .string (bs ax), .string (bs ay), .string (bs az)] 23)) w.heap.size 25 (cells12 noTrip) := blk_on hR (box_below _ _) (blk_lt hR)
    have hb6 : Below w.heap.size w (w1.alloc (.cells #[.int .i64 ak, .string (bs ax), .string (bs ay), .string (bs az)] 23)) := hb.alloc hb.size _
    have HR6 := Lib.hid hR6
    have HB6 := Lib.hid hb6
    clear hR6 hb6 hR hb
    go_wp2_with (refine store_row 25 (.tmp 2) (.tmp 30) ⟨rfl, rfl⟩ w.heap.size #[.int .i64 0, .string ⟨#[]⟩, .string ⟨#[]⟩, .string ⟨#[]⟩, .int .i64 0, .string ⟨#[]⟩, .string ⟨#[]⟩, .string ⟨#[]⟩, .int .i64 0, .string ⟨#[]⟩, .string ⟨#[]⟩, .string ⟨#[]⟩] (by kernel_rfl) (by kernel_rfl) 25 (cells12 noTrip) HR6.out (by kernel_rfl) rfl (by kernel_rfl) ?_)
    exact one_ret _ _ w.heap.size noTrip false _ _ rfl rfl (blk_rowD HR6.out _) (below_rowD HB6.out (Nat.le_refl _) _) HN.out

end Go.Proofs.Ythdhoaihmlodjaa
