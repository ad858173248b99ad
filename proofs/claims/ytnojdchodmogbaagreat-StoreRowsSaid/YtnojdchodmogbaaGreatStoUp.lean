/- Package term's and package triples' Compare, over a relation between worlds that also says that draws only grow more (slices.SortFunc asks for that). -/
import Derived.Test.YtnojdchodmogbaaGreatStoBlks
import Derived.Test.YtnojdchodmogbaaGreatTermCompare
import Derived.Sort.Grow
namespace Go.Proofs.YtnojdchodmogbaaGreat.Up
open Go.RowKit

structure Below (B : Nat) (w w' : World) : Prop where
  os : w'.os = w.os
  tape : w'.tape = w.tape
  output : w'.output = w.output
  size : w.heap.size ≤ w'.heap.size
  block : ∀ k, k < B → w'.heap[k]? = w.heap[k]?
  drawn : w.drawn ≤ w'.drawn
theorem Below.plain {B : Nat} {w w' : World} (h : Below B w w') : RowKit.Below B w w' := ⟨h.os, h.tape, h.output, h.size, h.block⟩
theorem Below.refl (B : Nat) (w : World) : Below B w w := ⟨rfl, rfl, rfl, Nat.le_refl _, fun _ _ => rfl, Nat.le_refl _⟩
theorem Below.trans {B : Nat} {a b c : World} (h : Below B a b) (k : Below B b c) : Below B a c :=
  ⟨k.os.trans h.os, k.tape.trans h.tape, k.output.trans h.output, Nat.le_trans h.size k.size, fun i hi => (k.block i hi).trans (h.block i hi), Nat.le_trans h.drawn k.drawn⟩
theorem Below.mono {B B' : Nat} {w w' : World} (h : Below B w w') (hB : B' ≤ B) : Below B' w w' := ⟨h.os, h.tape, h.output, h.size, fun k hk => h.block k (Nat.lt_of_lt_of_le hk hB), h.drawn⟩
theorem Below.drew {B : Nat} {a w : World} (h : Below B a w) : Below B a w.drew := ⟨h.os, h.tape, h.output, h.size, h.block, Nat.le_trans h.drawn (Nat.le_succ _)⟩
theorem Below.alloc {B : Nat} {a w : World} (h : Below B a w) (hB : B ≤ w.heap.size) (o : Obj) : Below B a (w.alloc o) :=
  h.trans ⟨rfl, rfl, rfl, by simp, fun k hk => Below.heap_alloc _ _ _ (by omega), Nat.le_refl _⟩
theorem Below.setCell {B : Nat} {a w : World} (h : Below B a w) {p : Addr} (hp : B ≤ p.block) (u : Value) : Below B a (w.setCell p u) :=
  h.trans ⟨rfl, rfl, rfl, by simp [World.setCell], fun k hk => Below.heap_setCell _ _ _ _ (by omega), Nat.le_refl _⟩
theorem Below.cell {B : Nat} {w w' : World} (h : Below B w w') {p : Addr} (hp : p.block < B) : w'.cell? p = w.cell? p := h.plain.cell hp
theorem Below.grow {w w' : World} (h : Below w.heap.size w w') : ∃ q os', w' = Sort.grow (w.drewN q) os' := by
  refine ⟨w'.drawn - w.drawn, w'.heap.extract w.heap.size w'.heap.size, ?_⟩
  cases w with
  | mk heap tape drawn os output =>
    cases w' with
    | mk heap' tape' drawn' os' output' =>
      obtain ⟨h1, h2, h3, h4, h5, h6⟩ := h
      dsimp only at *
      subst h1; subst h2; subst h3
      have e1 : drawn + (drawn' - drawn) = drawn' := by omega
      have e2 : heap ++ heap'.extract heap.size heap'.size = heap' := by
        apply Array.ext
        · simp; omega
        · intro j hj1 hj2
          by_cases hlt : j < heap.size
          · have := h5 j hlt
            rw [Array.getElem?_eq_getElem hj2, Array.getElem?_eq_getElem hlt] at this
            rw [Array.getElem_append_left hlt]
            exact (Option.some.inj this).symm
          · rw [Array.getElem_append_right (by omega)]
            simp only [Array.getElem_extract]
            congr 1; omega
      show World.mk heap' tape' drawn' os' output' = World.mk (heap ++ heap'.extract heap.size heap'.size) tape' (drawn + (drawn' - drawn)) os' output'
      rw [e1]
      congr 1
      exact e2.symm

theorem box_below (w : World) (o : Obj) : Below w.heap.size w (w.alloc o) := (Below.refl _ _).alloc (Nat.le_refl _) _
theorem two_alloc (w : World) (o o2 : Obj) : Below w.heap.size w ((w.alloc o).alloc o2) := (box_below w o).alloc (by simp) _
theorem from_drew {W W' : World} (h : Below W.drew.heap.size W.drew W') : Below W.heap.size W W' := (Below.refl W.heap.size W).drew.trans h
theorem drewN_below {B : Nat} {a w : World} (h : Below B a w) (n : Nat) : Below B a (w.drewN n) := ⟨h.os, h.tape, h.output, h.size, h.block, Nat.le_trans h.drawn (Nat.le_add_right _ _)⟩
theorem fb2 {B : Nat} {W W' W'' : World} (h : Below B W W') (h' : Below W'.heap.size W' W'') (hB : B ≤ W.heap.size) : Below B W W'' := h.trans (h'.mono (Nat.le_trans hB h.size))
theorem keptC {W W' : World} {B b o : Nat} {v : Value} (h : W.cell? ⟨b, o, none⟩ = some v) (hb : Below B W W') (hp : b < B) : W'.cell? ⟨b, o, none⟩ = some v := by rw [hb.cell (p := ⟨b, o, none⟩) hp]; exact h
theorem blk_on {W W' : World} {X B : Nat} {T : TypeId} {a : Array Value} (h : Blk W X T a) (hb : Below B W W') (hX : X < B) : Blk W' X T a := by unfold Blk at *; rw [hb.block X hX]; exact h
theorem below_set {B : Nat} {a W : World} (h : Below B a W) {X : Nat} (hX : B ≤ X) (i : Nat) (v : Value) : Below B a (W.setCell ⟨X, i, none⟩ v) := h.setCell hX v
theorem below_row {B : Nat} {a W : World} (h : Below B a W) {X : Nat} (hX : B ≤ X) (n : Array Value) : Below B a (W.setRow X n) :=
  ⟨h.os, h.tape, h.output, by simpa [World.setRow] using h.size, fun i hi => by rw [row_other W X n i (by omega)]; exact h.block i hi, h.drawn⟩

set_option maxHeartbeats 400000 in
theorem Compare_calls (k : Int) (x y z : ByteArray) (k' : Int) (x' y' z' : ByteArray) (w : World) :
    Calls Tryz.prog 80 #[.agg #[.int .i64 k, .string x, .string y, .string z], .agg #[.int .i64 k', .string x', .string y', .string z']] w fun e w' => e = .returned (.int .i64 (termCmp k x.data.toList y.data.toList z.data.toList k' x'.data.toList y'.data.toList z'.data.toList)) ∧ Below w.heap.size w w' := by
  go_enter Tryz.func80, Tryz.ntmps80
  go_wp2_with (go_at_call 91; refine (Tryz.strings_Compare _ _ _).mono ?_; rintro e w' ⟨rfl, rfl⟩)
  all_goals go_ret
  · exact ⟨ret_int (by unfold termCmp; rw [if_pos (by assumption)]), two_alloc _ _ _⟩
  · exact ⟨ret_int (by unfold termCmp; rw [if_neg (by omega), if_pos (by assumption)]), two_alloc _ _ _⟩
  · have e := other_of (a := x) (b := x') (by assumption)
    exact ⟨ret_int (by unfold termCmp; rw [if_neg (by omega), if_neg (by omega), if_pos e]), two_alloc _ _ _⟩
  · have e := same_of (a := x) (b := x') (by assumption)
    have e2 := other_of (a := y) (b := y') (by assumption)
    exact ⟨ret_int (by unfold termCmp; rw [if_neg (by omega), if_neg (by omega), if_neg (by omega), if_pos e2]), two_alloc _ _ _⟩
  · have e := same_of (a := x) (b := x') (by assumption)
    have e2 := same_of (a := y) (b := y') (by assumption)
    exact ⟨ret_int (by unfold termCmp; rw [if_neg (by omega), if_neg (by omega), if_neg (by omega), if_neg (by omega)]), two_alloc _ _ _⟩

set_option maxHeartbeats 400000 in
theorem terms_calls (k : Int) (x y z : ByteArray) (k' : Int) (x' y' z' : ByteArray) (k'' : Int) (x'' y'' z'' : ByteArray) (w : World) :
    Calls Tryz.prog 65 #[.agg #[.int .i64 k, .string x, .string y, .string z, .int .i64 k', .string x', .string y', .string z', .int .i64 k'', .string x'', .string y'', .string z'']] w fun e w' => e = .returned (.agg #[.int .i64 k, .string x, .string y, .string z, .int .i64 k', .string x', .string y', .string z', .int .i64 k'', .string x'', .string y'', .string z'']) ∧ Below w.heap.size w w' := by
  go_enter Tryz.func65, Tryz.ntmps65
  go_wp2
  refine bodyPost_ret (v := .agg #[.int .i64 k, .string x, .string y, .string z, .int .i64 k', .string x', .string y', .string z', .int .i64 k'', .string x'', .string y'', .string z'']) (by simp [results, Tryz.results65, go_sem]) rfl ⟨rfl, ?_⟩
  exact two_alloc _ _ _

/- what the rounds keep -/
def Even (W : World) (c1 c2 c3 : Int) (i : Value) (wr : World) : Prop := ∃ n : Nat, n ≤ 3 ∧ i = .int .i64 n ∧ Below W.heap.size W wr ∧ (1 ≤ n → c1 = 0) ∧ (2 ≤ n → c2 = 0) ∧ (3 ≤ n → c3 = 0)

set_option maxRecDepth 100000 in
set_option maxHeartbeats 4000000 in
theorem CompareFunc_calls (t u : TripL) (X Y : Nat) (w : World) (hX : Blk w X 99 (cells12 t)) (hY : Blk w Y 99 (cells12 u)) :
    Calls Tryz.prog 85 #[.slice (some ⟨X, 0, none⟩) 3 3, .slice (some ⟨Y, 0, none⟩) 3 3, (.func (.func 80) #[] #[])] w fun e w' => e = .returned (.int .i64 (tripCmp t u)) ∧ Below w.heap.size w w' := by
  obtain ⟨⟨ak, ax, ay, az⟩, ⟨bk, bx, by', bz⟩, ⟨ck, cx, cy, cz⟩⟩ := t
  obtain ⟨⟨ak2, ax2, ay2, az2⟩, ⟨bk2, bx2, by2, bz2⟩, ⟨ck2, cx2, cy2, cz2⟩⟩ := u
  go_enter Tryz.func85, Tryz.ntmps85
  go_wp2
  go_loopw [13] (fun i wr => Even w (termCmp ak ax ay az ak2 ax2 ay2 az2) (termCmp bk bx by' bz bk2 bx2 by2 bz2) (termCmp ck cx cy cz ck2 cx2 cy2 cz2) i wr) (fun i _ => 3 - (intOf i).toNat)
  case atStart => exact ⟨0, by omega, rfl, Below.refl _ _, fun h => by omega, fun h => by omega, fun h => by omega⟩
  case round =>
    obtain ⟨n, hn, rfl, hbw, p0, p1, p2⟩ := hrel
    have hX2 := blk_on hX hbw (blk_lt hX)
    have hY2 := blk_on hY hbw (blk_lt hY)
    have hzX := blk_lt hX2
    have hzY := blk_lt hY2
    rcases (by omega : n = 0 ∨ n = 1 ∨ n = 2 ∨ n = 3) with rfl | rfl | rfl | rfl
    · have q0 : wr.cell? ⟨X, 0, none⟩ = some (.int .i64 ak) := by rw [blk_cell hX2]; rfl
      have q1 : wr.cell? ⟨X, 1, none⟩ = some (.string (bs ax)) := by rw [blk_cell hX2]; rfl
      have q2 : wr.cell? ⟨X, 2, none⟩ = some (.string (bs ay)) := by rw [blk_cell hX2]; rfl
      have q3 : wr.cell? ⟨X, 3, none⟩ = some (.string (bs az)) := by rw [blk_cell hX2]; rfl
      have r0 : wr.cell? ⟨Y, 0, none⟩ = some (.int .i64 ak2) := by rw [blk_cell hY2]; rfl
      have r1 : wr.cell? ⟨Y, 1, none⟩ = some (.string (bs ax2)) := by rw [blk_cell hY2]; rfl
      have r2 : wr.cell? ⟨Y, 2, none⟩ = some (.string (bs ay2)) := by rw [blk_cell hY2]; rfl
      have r3 : wr.cell? ⟨Y, 3, none⟩ = some (.string (bs az2)) := by rw [blk_cell hY2]; rfl
      clear hX2 hY2
      by_cases hc : (termCmp ak ax ay az ak2 ax2 ay2 az2) = 0
      · have HC := Lib.hid hc
        have HE := Lib.hid (show Even w (termCmp ak ax ay az ak2 ax2 ay2 az2) (termCmp bk bx by' bz bk2 bx2 by2 bz2) (termCmp ck cx cy cz ck2 cx2 cy2 cz2) (.int .i64 ((1 : Nat) : Int)) w from ⟨1, by omega, rfl, Below.refl _ _, fun _ => hc, fun h => by omega, fun h => by omega⟩)
        clear hc p0 p1 p2
        go_wp2_with fail
        refine (Compare_calls ak (bs ax) (bs ay) (bs az) ak2 (bs ax2) (bs ay2) (bs az2) _).mono ?_
        rintro e w1 ⟨rfl, hb1⟩
        simp only [bs_data]
        have hb2 : Below w.heap.size w w1 := ((hbw.alloc hbw.size _).alloc (by have := hbw.size; simp; omega) _).trans (hb1.mono (by have := hbw.size; simp; omega))
        clear hb1
        rw [HC.out]
        go_wp2
        go_roundw
        case rel =>
          obtain ⟨m, hm, he, _, e0, e1, e2⟩ := HE.out
          have hm' : m = 1 := by simp at he; omega
          subst hm'
          exact ⟨1, by omega, by go_num, hb2, e0, e1, e2⟩
        case measure => simp [intOf]
      · have HR := Lib.hid (show tripCmp ⟨⟨ak, ax, ay, az⟩, ⟨bk, bx, by', bz⟩, ⟨ck, cx, cy, cz⟩⟩ ⟨⟨ak2, ax2, ay2, az2⟩, ⟨bk2, bx2, by2, bz2⟩, ⟨ck2, cx2, cy2, cz2⟩⟩ = (termCmp ak ax ay az ak2 ax2 ay2 az2) by
          unfold tripCmp TermL.cmp
          rw [if_pos hc])
        have hne : ((termCmp ak ax ay az ak2 ax2 ay2 az2) != 0) = true := by simpa using hc
        have HC := Lib.hid hne
        clear hc p0 p1 p2 hne
        obtain ⟨C, hC⟩ : ∃ C, (termCmp ak ax ay az ak2 ax2 ay2 az2) = C := ⟨_, rfl⟩
        rw [hC] at HC HR
        have HCC := Lib.hid hC
        clear hC
        go_wp2_with fail
        refine (Compare_calls ak (bs ax) (bs ay) (bs az) ak2 (bs ax2) (bs ay2) (bs az2) _).mono ?_
        rintro e w1 ⟨rfl, hb1⟩
        simp only [bs_data]
        have hb2 : Below w.heap.size w w1 := ((hbw.alloc hbw.size _).alloc (by have := hbw.size; simp; omega) _).trans (hb1.mono (by have := hbw.size; simp; omega))
        clear hb1
        rw [HCC.out]
        have hne := HC.out
        go_wp2
        go_ret
        exact ⟨by rw [HR.out]; rfl, hb2⟩
    · have q0 : wr.cell? ⟨X, 4, none⟩ = some (.int .i64 bk) := by rw [blk_cell hX2]; rfl
      have q1 : wr.cell? ⟨X, 5, none⟩ = some (.string (bs bx)) := by rw [blk_cell hX2]; rfl
      have q2 : wr.cell? ⟨X, 6, none⟩ = some (.string (bs by')) := by rw [blk_cell hX2]; rfl
      have q3 : wr.cell? ⟨X, 7, none⟩ = some (.string (bs bz)) := by rw [blk_cell hX2]; rfl
      have r0 : wr.cell? ⟨Y, 4, none⟩ = some (.int .i64 bk2) := by rw [blk_cell hY2]; rfl
      have r1 : wr.cell? ⟨Y, 5, none⟩ = some (.string (bs bx2)) := by rw [blk_cell hY2]; rfl
      have r2 : wr.cell? ⟨Y, 6, none⟩ = some (.string (bs by2)) := by rw [blk_cell hY2]; rfl
      have r3 : wr.cell? ⟨Y, 7, none⟩ = some (.string (bs bz2)) := by rw [blk_cell hY2]; rfl
      clear hX2 hY2
      by_cases hc : (termCmp bk bx by' bz bk2 bx2 by2 bz2) = 0
      · have HC := Lib.hid hc
        have HE := Lib.hid (show Even w (termCmp ak ax ay az ak2 ax2 ay2 az2) (termCmp bk bx by' bz bk2 bx2 by2 bz2) (termCmp ck cx cy cz ck2 cx2 cy2 cz2) (.int .i64 ((2 : Nat) : Int)) w from ⟨2, by omega, rfl, Below.refl _ _, fun _ => p0 (by omega), fun _ => hc, fun h => by omega⟩)
        clear hc p0 p1 p2
        go_wp2_with fail
        refine (Compare_calls bk (bs bx) (bs by') (bs bz) bk2 (bs bx2) (bs by2) (bs bz2) _).mono ?_
        rintro e w1 ⟨rfl, hb1⟩
        simp only [bs_data]
        have hb2 : Below w.heap.size w w1 := ((hbw.alloc hbw.size _).alloc (by have := hbw.size; simp; omega) _).trans (hb1.mono (by have := hbw.size; simp; omega))
        clear hb1
        rw [HC.out]
        go_wp2
        go_roundw
        case rel =>
          obtain ⟨m, hm, he, _, e0, e1, e2⟩ := HE.out
          have hm' : m = 2 := by simp at he; omega
          subst hm'
          exact ⟨2, by omega, by go_num, hb2, e0, e1, e2⟩
        case measure => simp [intOf]
      · have HR := Lib.hid (show tripCmp ⟨⟨ak, ax, ay, az⟩, ⟨bk, bx, by', bz⟩, ⟨ck, cx, cy, cz⟩⟩ ⟨⟨ak2, ax2, ay2, az2⟩, ⟨bk2, bx2, by2, bz2⟩, ⟨ck2, cx2, cy2, cz2⟩⟩ = (termCmp bk bx by' bz bk2 bx2 by2 bz2) by
          unfold tripCmp TermL.cmp
          rw [if_neg (by simpa using p0 (by omega)), if_pos hc])
        have hne : ((termCmp bk bx by' bz bk2 bx2 by2 bz2) != 0) = true := by simpa using hc
        have HC := Lib.hid hne
        clear hc p0 p1 p2 hne
        obtain ⟨C, hC⟩ : ∃ C, (termCmp bk bx by' bz bk2 bx2 by2 bz2) = C := ⟨_, rfl⟩
        rw [hC] at HC HR
        have HCC := Lib.hid hC
        clear hC
        go_wp2_with fail
        refine (Compare_calls bk (bs bx) (bs by') (bs bz) bk2 (bs bx2) (bs by2) (bs bz2) _).mono ?_
        rintro e w1 ⟨rfl, hb1⟩
        simp only [bs_data]
        have hb2 : Below w.heap.size w w1 := ((hbw.alloc hbw.size _).alloc (by have := hbw.size; simp; omega) _).trans (hb1.mono (by have := hbw.size; simp; omega))
        clear hb1
        rw [HCC.out]
        have hne := HC.out
        go_wp2
        go_ret
        exact ⟨by rw [HR.out]; rfl, hb2⟩
    · have q0 : wr.cell? ⟨X, 8, none⟩ = some (.int .i64 ck) := by rw [blk_cell hX2]; rfl
      have q1 : wr.cell? ⟨X, 9, none⟩ = some (.string (bs cx)) := by rw [blk_cell hX2]; rfl
      have q2 : wr.cell? ⟨X, 10, none⟩ = some (.string (bs cy)) := by rw [blk_cell hX2]; rfl
      have q3 : wr.cell? ⟨X, 11, none⟩ = some (.string (bs cz)) := by rw [blk_cell hX2]; rfl
      have r0 : wr.cell? ⟨Y, 8, none⟩ = some (.int .i64 ck2) := by rw [blk_cell hY2]; rfl
      have r1 : wr.cell? ⟨Y, 9, none⟩ = some (.string (bs cx2)) := by rw [blk_cell hY2]; rfl
      have r2 : wr.cell? ⟨Y, 10, none⟩ = some (.string (bs cy2)) := by rw [blk_cell hY2]; rfl
      have r3 : wr.cell? ⟨Y, 11, none⟩ = some (.string (bs cz2)) := by rw [blk_cell hY2]; rfl
      clear hX2 hY2
      by_cases hc : (termCmp ck cx cy cz ck2 cx2 cy2 cz2) = 0
      · have HC := Lib.hid hc
        have HE := Lib.hid (show Even w (termCmp ak ax ay az ak2 ax2 ay2 az2) (termCmp bk bx by' bz bk2 bx2 by2 bz2) (termCmp ck cx cy cz ck2 cx2 cy2 cz2) (.int .i64 ((3 : Nat) : Int)) w from ⟨3, by omega, rfl, Below.refl _ _, fun _ => p0 (by omega), fun _ => p1 (by omega), fun _ => hc⟩)
        clear hc p0 p1 p2
        go_wp2_with fail
        refine (Compare_calls ck (bs cx) (bs cy) (bs cz) ck2 (bs cx2) (bs cy2) (bs cz2) _).mono ?_
        rintro e w1 ⟨rfl, hb1⟩
        simp only [bs_data]
        have hb2 : Below w.heap.size w w1 := ((hbw.alloc hbw.size _).alloc (by have := hbw.size; simp; omega) _).trans (hb1.mono (by have := hbw.size; simp; omega))
        clear hb1
        rw [HC.out]
        go_wp2
        go_roundw
        case rel =>
          obtain ⟨m, hm, he, _, e0, e1, e2⟩ := HE.out
          have hm' : m = 3 := by simp at he; omega
          subst hm'
          exact ⟨3, by omega, by go_num, hb2, e0, e1, e2⟩
        case measure => simp [intOf]
      · have HR := Lib.hid (show tripCmp ⟨⟨ak, ax, ay, az⟩, ⟨bk, bx, by', bz⟩, ⟨ck, cx, cy, cz⟩⟩ ⟨⟨ak2, ax2, ay2, az2⟩, ⟨bk2, bx2, by2, bz2⟩, ⟨ck2, cx2, cy2, cz2⟩⟩ = (termCmp ck cx cy cz ck2 cx2 cy2 cz2) by
          unfold tripCmp TermL.cmp
          rw [if_neg (by simpa using p0 (by omega)), if_neg (by simpa using p1 (by omega))])
        have hne : ((termCmp ck cx cy cz ck2 cx2 cy2 cz2) != 0) = true := by simpa using hc
        have HC := Lib.hid hne
        clear hc p0 p1 p2 hne
        obtain ⟨C, hC⟩ : ∃ C, (termCmp ck cx cy cz ck2 cx2 cy2 cz2) = C := ⟨_, rfl⟩
        rw [hC] at HC HR
        have HCC := Lib.hid hC
        clear hC
        go_wp2_with fail
        refine (Compare_calls ck (bs cx) (bs cy) (bs cz) ck2 (bs cx2) (bs cy2) (bs cz2) _).mono ?_
        rintro e w1 ⟨rfl, hb1⟩
        simp only [bs_data]
        have hb2 : Below w.heap.size w w1 := ((hbw.alloc hbw.size _).alloc (by have := hbw.size; simp; omega) _).trans (hb1.mono (by have := hbw.size; simp; omega))
        clear hb1
        rw [HCC.out]
        have hne := HC.out
        go_wp2
        go_ret
        exact ⟨by rw [HR.out]; rfl, hb2⟩
    · have HR := Lib.hid (show tripCmp ⟨⟨ak, ax, ay, az⟩, ⟨bk, bx, by', bz⟩, ⟨ck, cx, cy, cz⟩⟩ ⟨⟨ak2, ax2, ay2, az2⟩, ⟨bk2, bx2, by2, bz2⟩, ⟨ck2, cx2, cy2, cz2⟩⟩ = 0 by
        unfold tripCmp TermL.cmp
        rw [if_neg (by simpa using p0 (by omega)), if_neg (by simpa using p1 (by omega))]; exact p2 (by omega))
      clear p0 p1 p2
      go_wp2
      go_ret
      exact ⟨by rw [HR.out]; rfl, hbw⟩

end Go.Proofs.YtnojdchodmogbaaGreat.Up
