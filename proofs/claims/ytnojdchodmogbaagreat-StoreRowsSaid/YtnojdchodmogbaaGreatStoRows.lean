/- Where the variables of a pattern stand first: package store's firstPlaces. A row of a table: package store's row. What a table's rows are in memory; laws on making slices and on a store of one cell into a row. -/
import Derived.Test.YtnojdchodmogbaaGreatStoGiven
import Derived.Test.YtnojdchodmogbaaGreatStoPlains
import Derived.Test.YtnojdchodmogbaaGreatShelfB
import Derived.Deep.OwnRows
namespace Go.Proofs.YtnojdchodmogbaaGreat
open Go.RowKit

theorem eql_at : EqlAt Tryz.prog 27 (fun x : TermL => .agg x.cells.toArray) teq :=
  ⟨fun x y w => eql_term x y w, GuardAt.agg _ (by kernel_rfl)⟩
instance : Inhabited TermL := ⟨noTerm⟩
/- a term among the first ones of an array of three -/
theorem among_calls (p : TripL) (X i : Nat) (x : TermL) (w : World) (hi : i ≤ 3) (h : Blk w X 99 (cells12 p)) :
    Calls Tryz.prog 68 #[.slice (some ⟨X, 0, none⟩) i 3, x.v] w fun e w' => e = .returned (.bool (([p.s, p.p, p.o].take i).any fun y => teq x y)) ∧ Below w.heap.size w w' := by
  have := AnyQ.slices_Contains (P := Tryz.prog) (α := TermL) Tryz.laysContains 4 (fun w => by exact Tryz.isAgg27 w) (fun w => by exact Tryz.sizeOf27 w) TermL.cells (fun _ => rfl) teq eql_at X 0 i 3 [p.s, p.p, p.o] x w (by simpa using hi) (by omega) (fun j hj c v hc => by
    have hj3 : j < 3 := by simpa using hj
    rw [Nat.zero_add, blk_cell h]
    rcases (by omega : j = 0 ∨ j = 1 ∨ j = 2) with rfl | rfl | rfl
    all_goals
      match c, hc with
      | 0, hc => exact hc
      | 1, hc => exact hc
      | 2, hc => exact hc
      | 3, hc => exact hc
      | c + 4, hc => simp [TermL.cells] at hc)
  exact this
theorem among_iff (p : TripL) (i : Nat) (hi : i < 3) (x : TermL) : ([p.s, p.p, p.o].take i).any (fun y => teq x y) = decide (¬ ∀ j, j < i → at3 p j ≠ x) := by
  have ht : ∀ y, teq x y = decide (y = x) := fun y => by
    by_cases e : y = x
    · rw [e, teq_self]; simp
    · rw [teq_ne (fun c => e c.symm)]; simp [e]
  rw [Bool.eq_iff_iff, decide_eq_true_eq]
  rcases (by omega : i = 0 ∨ i = 1 ∨ i = 2) with rfl | rfl | rfl
  · rw [all_none]; simp
  · rw [all_one]; simp [ht, at3]
  · rw [all_two]; simp [ht, at3]
    by_cases e : p.s = x <;> simp [e]

/- numbers as cells -/
def intCells (l : List Nat) : List Value := l.map fun i : Nat => Value.int .i64 (i : Int)
theorem intCells_length (l : List Nat) : (intCells l).length = l.length := by simp [intCells]
theorem intCells_append (l r : List Nat) : intCells (l ++ r) = intCells l ++ intCells r := by simp [intCells]
theorem info_int : (Tryz.prog.info? 3).map (fun i => (i.zero, i.size, i.bytes)) = some (some (.int .i64 0), 1, 8) := by kernel_rfl
theorem own_ne' {w : World} {B n size : Nat} {v : Value} {xs : List Value} {X : Nat} {T e : TypeId} {a : Array Value} (h : w.ownsRow B e size v n xs) (hX : Blk w X T a) (hT : T ≠ e) : v.ownBlock ≠ some X := by
  intro c
  rcases h.2 with ⟨hv, _⟩ | ⟨g, cap, cur, hv, hg, hh, r⟩
  · rw [hv] at c; simp [Value.ownBlock] at c
  · rw [hv] at c
    simp [Value.ownBlock] at c
    subst c
    unfold Blk at hX
    rw [hX] at hh
    injection hh with hh
    injection hh with _ h2 _
    exact hT h2
theorem arr_int : 99 ≠ 3 := by decide

/- what firstPlaces keeps between its rounds -/
def FirstR (w : World) (X : Nat) (p : TripL) (v i : Value) (wr : World) : Prop :=
  ∃ n : Nat, n ≤ 3 ∧ i = .int .i64 n ∧ wr.ownsRow w.heap.size 3 1 v (fpN p n).length (intCells (fpN p n)) ∧ Blk wr X 99 (cells12 p) ∧ Below w.heap.size w wr
def FirstT (p : TripL) (w : World) (e : Ending) (w' : World) : Prop :=
  ∃ v, e = .returned v ∧ w'.ownsRow w.heap.size 3 1 v (fpN p 3).length (intCells (fpN p 3)) ∧ Below w.heap.size w w'
theorem fp_yes {p : TripL} {i : Nat} (h : (at3 p i).k = 4) (h2 : ∀ j, j < i → at3 p j ≠ at3 p i) : fpN p (i + 1) = fpN p i ++ [i] := by
  conv => lhs; unfold fpN
  rw [if_pos ⟨h, h2⟩]
theorem fp_no {p : TripL} {i : Nat} (h : ¬ ((at3 p i).k = 4 ∧ ∀ j, j < i → at3 p j ≠ at3 p i)) : fpN p (i + 1) = fpN p i := by
  conv => lhs; unfold fpN
  rw [if_neg h]
theorem cell_one' (w : World) (x : Value) (T : TypeId) {X : Nat} (hX : X = w.heap.size) : ∀ j u, [x][j]? = some u → (w.alloc (.cells #[x] T)).cell? ((⟨X, 0, none⟩ : Addr).add j) = some u := by
  subst hX; exact cell_one_new w x T

set_option maxRecDepth 100000 in
set_option maxHeartbeats 8000000 in
theorem firstPlaces_calls (p : TripL) (w : World) : Calls Tryz.prog 43 #[p.v] w (FirstT p w) := by
  obtain ⟨i0, hi, hz0, hz1, hz2⟩ := info_parts info_int
  simp only [TripL.v]
  go_enter Tryz.func43, Tryz.ntmps43
  go_wp2_with fail
  refine (sterms_calls _ _ _ _ _ _ _ _ _ _ _ _ _).mono ?_
  rintro e w1 ⟨rfl, hb1⟩
  replace hb1 := one_box hb1
  go_wp2_with (refine whole_abs 99 (.tmp 4) (.tmp 7) ⟨rfl, rfl⟩ w1.heap.size #[.int .i64 p.s.k, .string (bs p.s.x), .string (bs p.s.y), .string (bs p.s.z), .int .i64 p.p.k, .string (bs p.p.x), .string (bs p.p.y), .string (bs p.p.z), .int .i64 p.o.k, .string (bs p.o.x), .string (bs p.o.y), .string (bs p.o.z)] (by kernel_rfl) (by kernel_rfl) 99 _ (blk_new _ _ _) (by kernel_rfl) (by kernel_rfl) (by kernel_rfl) ?_; intro w2 hX hG)
  have hb2 := Lib.hid (below_whole hb1 hG.out)
  obtain ⟨X, hXe⟩ : ∃ X, w1.heap.size = X := ⟨_, rfl⟩
  rw [hXe] at hX
  simp only [hXe]
  have HXE := Lib.hid hXe
  clear hXe hb1 hG
  go_loopw [3, 8] (fun v i wr => FirstR w X p v i wr) (fun _ i _ => 3 - (intOf i).toNat)
  case atStart => exact ⟨0, by omega, rfl, World.ownsRow_nil _ _ _ _, hX.out, hb2.out⟩
  case round =>
    obtain ⟨n, hn, rfl, hown, hX2, hbw⟩ := hrel
    by_cases hlt : n < 3
    · have g1 : (n : Int) < 3 := by omega
      have g0 : (0 : Int) ≤ (n : Int) := by omega
      have XN := Lib.hid (blk_at3 hX2 n hlt)
      have hpx := blk_lt hX2
      have HX2 := Lib.hid hX2
      have HO := Lib.hid hown
      have HB := Lib.hid hbw
      have hfl := Lib.hid (fpN_length p n)
      have hrow := Lib.hid (own_ne' hown hX2 arr_int)
      have AM := fun W (h : Blk W X 99 (cells12 p)) => among_calls p X n (at3 p n) W hn h
      rw [among_iff p n hlt] at AM
      have FY := fp_yes (p := p) (i := n)
      have FN := fp_no (p := p) (i := n)
      clear hX2 hown hbw
      by_cases h4 : (at3 p n).k = 4
      · have hq : ((at3 p n).k == 4) = true := beq_iff_eq.2 h4
        by_cases hin : ∀ j, j < n → at3 p j ≠ at3 p n
        · have E := Lib.hid (FY h4 hin)
          rw [decide_eq_false (by simpa using hin)] at AM
          have AMH := Lib.hid AM
          clear FY FN AM h4 hin
          generalize at3 p n = y at XN hq AMH
          go_wp2_with fail
          refine wp_region_held_drew (S := (fun W => Below wr.heap.size wr W)) (by kernel_rfl) ?_ (fun hHeld => ?_)
          · (try dsimp only); first | exact Below.refl _ _ | exact (Below.refl _ _).drew
          refine wpAnyH_take (i := 0) (oi := ⟨some 11, _, _, _, _, _⟩) (v := ?_) rfl (by kernel_rfl) (by kernel_rfl) (by kernel_rfl) (fun _ _ _ h => h) (Or.inl ⟨by kernel_rfl, ?_⟩) (by assumption) ?_
          rotate_left
          · (intro ww hSw; (try dsimp only at hSw); go_simp); (try with_reducible rfl)
          (try simp only [Act.put, List.setIfInBounds_toArray, List.set_cons_zero, List.set_cons_succ])
          refine wpAnyH_take (i := 1) (oi := ⟨some 12, _, _, _, _, _⟩) (v := ?_) rfl (by kernel_rfl) (by kernel_rfl) (by kernel_rfl) (fun _ _ _ h => h) (Or.inl ⟨by kernel_rfl, ?_⟩) (by assumption) ?_
          rotate_left
          · (intro ww hSw; (try dsimp only at hSw); go_simp); (try with_reducible rfl)
          (try simp only [Act.put, List.setIfInBounds_toArray, List.set_cons_zero, List.set_cons_succ])
          refine wpAnyH_take (i := 2) (oi := ⟨some 13, _, _, _, _, _⟩) (v := ?_) rfl (by kernel_rfl) (by kernel_rfl) (by kernel_rfl) (fun _ _ _ h => h) (Or.inl ⟨by kernel_rfl, ?_⟩) (by assumption) ?_
          rotate_left
          · (intro ww hSw; (try dsimp only at hSw); go_simp); (try with_reducible rfl)
          (try simp only [Act.put, List.setIfInBounds_toArray, List.set_cons_zero, List.set_cons_succ])
          refine wpAnyH_take (i := 3) (oi := ⟨some 14, _, _, _, _, _⟩) (v := ?_) rfl (by kernel_rfl) (by kernel_rfl) (by kernel_rfl) (fun _ _ _ h => h) (Or.inl ⟨by kernel_rfl, ?_⟩) (by assumption) ?_
          rotate_left
          · (intro ww hSw; (try dsimp only at hSw); obtain ⟨c0, c1, c2, c3⟩ := XN.out; replace c0 := keptC c0 hSw hpx; replace c1 := keptC c1 hSw hpx; replace c2 := keptC c2 hSw hpx; replace c3 := keptC c3 hSw hpx; go_simp); (try with_reducible rfl)
          (try simp only [Act.put, List.setIfInBounds_toArray, List.set_cons_zero, List.set_cons_succ])
          refine wpAnyH_take (i := 4) (oi := ⟨some 15, _, _, _, _, _⟩) (v := ?_) rfl (by kernel_rfl) (by kernel_rfl) (by kernel_rfl) (fun _ _ _ h => h) (Or.inl ⟨by kernel_rfl, ?_⟩) (by assumption) ?_
          rotate_left
          · (intro ww hSw; (try dsimp only at hSw); go_simp); (try with_reducible rfl)
          (try simp only [Act.put, List.setIfInBounds_toArray, List.set_cons_zero, List.set_cons_succ])
          refine wpAnyH_take (i := 5) (oi := ⟨some 16, _, _, _, _, _⟩) (v := ?_) rfl (by kernel_rfl) (by kernel_rfl) (by kernel_rfl) (fun _ _ _ h => h) (Or.inl ⟨by kernel_rfl, ?_⟩) (by assumption) ?_
          rotate_left
          · (intro ww hSw; (try dsimp only at hSw); go_simp); (try with_reducible rfl)
          (try simp only [Act.put, List.setIfInBounds_toArray, List.set_cons_zero, List.set_cons_succ])
          refine wpAnyH_take (i := 6) (oi := ⟨some 17, _, _, _, _, _⟩) (v := ?_) rfl (by kernel_rfl) (by kernel_rfl) (by kernel_rfl) (fun _ _ _ h => h) (Or.inl ⟨by kernel_rfl, ?_⟩) (by assumption) ?_
          rotate_left
          · (intro ww hSw; (try dsimp only at hSw); go_simp); (try with_reducible rfl)
          (try simp only [Act.put, List.setIfInBounds_toArray, List.set_cons_zero, List.set_cons_succ])
          refine wpAnyH_take (i := 7) (oi := ⟨some 18, _, _, _, _, _⟩) (v := .slice (some ⟨X, 0, none⟩) n 3) rfl (by kernel_rfl) (by kernel_rfl) (by kernel_rfl) (fun _ _ _ h => h) (Or.inl ⟨by kernel_rfl, ?_⟩) (by assumption) ?_
          · (intro ww hSw; (try dsimp only at hSw); have h1 : (0 : Int) ≤ (n : Int) := g0; have h2 : (n : Int) ≤ 3 := (by omega); go_simp; (try simp))
          (try simp only [Act.put, List.setIfInBounds_toArray, List.set_cons_zero, List.set_cons_succ])
          refine wpAnyH_take (i := 8) (oi := ⟨some 19, _, _, _, _, _⟩) (v := ?_) rfl (by kernel_rfl) (by kernel_rfl) (by kernel_rfl) (fun _ _ _ h => h) (Or.inl ⟨by kernel_rfl, ?_⟩) (by assumption) ?_
          rotate_left
          · (intro ww hSw; (try dsimp only at hSw); go_simp); (try with_reducible rfl)
          (try simp only [Act.put, List.setIfInBounds_toArray, List.set_cons_zero, List.set_cons_succ])
          refine wpAnyH_take (i := 9) (oi := ⟨some 20, _, _, _, _, _⟩) (v := ?_) rfl (by kernel_rfl) (by kernel_rfl) (by kernel_rfl) (fun _ _ _ h => h) (Or.inl ⟨by kernel_rfl, ?_⟩) (by assumption) ?_
          rotate_left
          · (intro ww hSw; (try dsimp only at hSw); go_simp); (try with_reducible rfl)
          (try simp only [Act.put, List.setIfInBounds_toArray, List.set_cons_zero, List.set_cons_succ])
          refine wpAnyH_take (i := 10) (oi := ⟨some 21, _, _, _, _, _⟩) (v := ?_) rfl (by kernel_rfl) (by kernel_rfl) (by kernel_rfl) (fun _ _ _ h => h) (Or.inl ⟨by kernel_rfl, ?_⟩) (by assumption) ?_
          rotate_left
          · (intro ww hSw; (try dsimp only at hSw); obtain ⟨c0, c1, c2, c3⟩ := XN.out; replace c0 := keptC c0 hSw hpx; replace c1 := keptC c1 hSw hpx; replace c2 := keptC c2 hSw hpx; replace c3 := keptC c3 hSw hpx; go_simp); (try with_reducible rfl)
          (try simp only [Act.put, List.setIfInBounds_toArray, List.set_cons_zero, List.set_cons_succ])
          refine wpAnyH_ready (rs := [11]) (by kernel_rfl) (by simp) ?_
          refine AllReadyH.cons rfl (fun K hK => ?_) AllReadyH.nil
          go_simp
          refine (AMH.out _ (by first | exact HX2.out | exact blkDrew HX2.out)).mono ?_
          rintro e w3 ⟨rfl, hbv⟩
          (first | replace hbv := from_drew hbv | skip)
          have HX3 := Lib.hid (blk_on HX2.out hbv hpx)
          have HB3 := Lib.hid (first_below HB.out hbv)
          have HO3 := Lib.hid (show World.ownsRow _ _ _ _ _ _ _ from rowOn HO.out hbv)
          go_wp2_with fail
          refine hK.out _ _ ?_ (fun hHeld => ?_)
          · (try dsimp only); first | exact hbv | exact hbv.drew
          clear hK K
          (try simp only [Act.put, List.setIfInBounds_toArray, List.set_cons_zero, List.set_cons_succ])
          refine wpAnyH_take (i := 12) (oi := ⟨some 23, _, _, _, _, _⟩) (v := ?_) rfl (by kernel_rfl) (by kernel_rfl) (by kernel_rfl) (fun _ _ _ h => h) (Or.inl ⟨by kernel_rfl, ?_⟩) (by assumption) ?_
          rotate_left
          · (intro ww hSw; (try dsimp only at hSw); go_simp); (try with_reducible rfl)
          (try simp only [Act.put, List.setIfInBounds_toArray, List.set_cons_zero, List.set_cons_succ])
          refine wpAnyH_take (i := 13) (oi := ⟨some 24, _, _, _, _, _⟩) (v := ?_) rfl (by kernel_rfl) (by kernel_rfl) (by kernel_rfl) (fun _ _ _ h => h) (Or.inl ⟨by kernel_rfl, ?_⟩) (by assumption) ?_
          rotate_left
          · (intro ww hSw; (try dsimp only at hSw); go_simp); (try with_reducible rfl)
          (try simp only [Act.put, List.setIfInBounds_toArray, List.set_cons_zero, List.set_cons_succ])
          refine wpAnyH_done (by kernel_rfl) ?_ _
          go_wp2_with (at_builtin; go_must (refine wpList_append_own_at _ rfl (.tmp 25) (.tmp 27) 81 rfl w.heap.size 3 i0 (.int .i64 0) 1 8 Tryz.underlying81 hi hz0 hz1 hz2 rfl (by decide) _ _ _ rfl (HO3.out.alloc _) ⟨w3.heap.size, 0, none⟩ 1 1 [.int .i64 n] rfl rfl (cell_one' _ _ _ rfl) (by intro u hu; simp at hu; rw [hu]; rfl) (by have := hfl.out; unfold maxLen; omega) (by have := hfl.out; omega) (by have := HB3.out.size; simp; omega) ?_; intro v4 w4 hO4 hG4 hN4 hA4; have HO4 := Lib.hid hO4; clear hO4 hN4; have HG4 := Lib.hid hG4; clear hG4 hA4))
          go_roundw
          case rel =>
            refine ⟨n + 1, by omega, by go_num, ?_, ?_, ?_⟩
            · rw [E.out, List.length_append, intCells_append]; exact HO4.out
            · have bx := blk_on HX3.out (box_below _ (.cells #[.int .i64 n] 3)) (blk_lt HX3.out)
              show _ = _
              rw [HG4.out.block X (blk_lt bx) (fun c => hrow.out c.symm)]; exact bx
            · exact (HB3.out.alloc HB3.out.size _).grown HG4.out (by have := HB3.out.size; simp; omega) (fun z hz => (HO.out.lt z hz).1)
          case measure => simp [intOf]; omega
        · have E := Lib.hid (FN (fun c => hin c.2))
          rw [decide_eq_true hin] at AM
          have AMH := Lib.hid AM
          clear FY FN AM h4 hin
          generalize at3 p n = y at XN hq AMH
          go_wp2_with fail
          refine wp_region_held_drew (S := (fun W => Below wr.heap.size wr W)) (by kernel_rfl) ?_ (fun hHeld => ?_)
          · (try dsimp only); first | exact Below.refl _ _ | exact (Below.refl _ _).drew
          refine wpAnyH_take (i := 0) (oi := ⟨some 11, _, _, _, _, _⟩) (v := ?_) rfl (by kernel_rfl) (by kernel_rfl) (by kernel_rfl) (fun _ _ _ h => h) (Or.inl ⟨by kernel_rfl, ?_⟩) (by assumption) ?_
          rotate_left
          · (intro ww hSw; (try dsimp only at hSw); go_simp); (try with_reducible rfl)
          (try simp only [Act.put, List.setIfInBounds_toArray, List.set_cons_zero, List.set_cons_succ])
          refine wpAnyH_take (i := 1) (oi := ⟨some 12, _, _, _, _, _⟩) (v := ?_) rfl (by kernel_rfl) (by kernel_rfl) (by kernel_rfl) (fun _ _ _ h => h) (Or.inl ⟨by kernel_rfl, ?_⟩) (by assumption) ?_
          rotate_left
          · (intro ww hSw; (try dsimp only at hSw); go_simp); (try with_reducible rfl)
          (try simp only [Act.put, List.setIfInBounds_toArray, List.set_cons_zero, List.set_cons_succ])
          refine wpAnyH_take (i := 2) (oi := ⟨some 13, _, _, _, _, _⟩) (v := ?_) rfl (by kernel_rfl) (by kernel_rfl) (by kernel_rfl) (fun _ _ _ h => h) (Or.inl ⟨by kernel_rfl, ?_⟩) (by assumption) ?_
          rotate_left
          · (intro ww hSw; (try dsimp only at hSw); go_simp); (try with_reducible rfl)
          (try simp only [Act.put, List.setIfInBounds_toArray, List.set_cons_zero, List.set_cons_succ])
          refine wpAnyH_take (i := 3) (oi := ⟨some 14, _, _, _, _, _⟩) (v := ?_) rfl (by kernel_rfl) (by kernel_rfl) (by kernel_rfl) (fun _ _ _ h => h) (Or.inl ⟨by kernel_rfl, ?_⟩) (by assumption) ?_
          rotate_left
          · (intro ww hSw; (try dsimp only at hSw); obtain ⟨c0, c1, c2, c3⟩ := XN.out; replace c0 := keptC c0 hSw hpx; replace c1 := keptC c1 hSw hpx; replace c2 := keptC c2 hSw hpx; replace c3 := keptC c3 hSw hpx; go_simp); (try with_reducible rfl)
          (try simp only [Act.put, List.setIfInBounds_toArray, List.set_cons_zero, List.set_cons_succ])
          refine wpAnyH_take (i := 4) (oi := ⟨some 15, _, _, _, _, _⟩) (v := ?_) rfl (by kernel_rfl) (by kernel_rfl) (by kernel_rfl) (fun _ _ _ h => h) (Or.inl ⟨by kernel_rfl, ?_⟩) (by assumption) ?_
          rotate_left
          · (intro ww hSw; (try dsimp only at hSw); go_simp); (try with_reducible rfl)
          (try simp only [Act.put, List.setIfInBounds_toArray, List.set_cons_zero, List.set_cons_succ])
          refine wpAnyH_take (i := 5) (oi := ⟨some 16, _, _, _, _, _⟩) (v := ?_) rfl (by kernel_rfl) (by kernel_rfl) (by kernel_rfl) (fun _ _ _ h => h) (Or.inl ⟨by kernel_rfl, ?_⟩) (by assumption) ?_
          rotate_left
          · (intro ww hSw; (try dsimp only at hSw); go_simp); (try with_reducible rfl)
          (try simp only [Act.put, List.setIfInBounds_toArray, List.set_cons_zero, List.set_cons_succ])
          refine wpAnyH_take (i := 6) (oi := ⟨some 17, _, _, _, _, _⟩) (v := ?_) rfl (by kernel_rfl) (by kernel_rfl) (by kernel_rfl) (fun _ _ _ h => h) (Or.inl ⟨by kernel_rfl, ?_⟩) (by assumption) ?_
          rotate_left
          · (intro ww hSw; (try dsimp only at hSw); go_simp); (try with_reducible rfl)
          (try simp only [Act.put, List.setIfInBounds_toArray, List.set_cons_zero, List.set_cons_succ])
          refine wpAnyH_take (i := 7) (oi := ⟨some 18, _, _, _, _, _⟩) (v := .slice (some ⟨X, 0, none⟩) n 3) rfl (by kernel_rfl) (by kernel_rfl) (by kernel_rfl) (fun _ _ _ h => h) (Or.inl ⟨by kernel_rfl, ?_⟩) (by assumption) ?_
          · (intro ww hSw; (try dsimp only at hSw); have h1 : (0 : Int) ≤ (n : Int) := g0; have h2 : (n : Int) ≤ 3 := (by omega); go_simp; (try simp))
          (try simp only [Act.put, List.setIfInBounds_toArray, List.set_cons_zero, List.set_cons_succ])
          refine wpAnyH_take (i := 8) (oi := ⟨some 19, _, _, _, _, _⟩) (v := ?_) rfl (by kernel_rfl) (by kernel_rfl) (by kernel_rfl) (fun _ _ _ h => h) (Or.inl ⟨by kernel_rfl, ?_⟩) (by assumption) ?_
          rotate_left
          · (intro ww hSw; (try dsimp only at hSw); go_simp); (try with_reducible rfl)
          (try simp only [Act.put, List.setIfInBounds_toArray, List.set_cons_zero, List.set_cons_succ])
          refine wpAnyH_take (i := 9) (oi := ⟨some 20, _, _, _, _, _⟩) (v := ?_) rfl (by kernel_rfl) (by kernel_rfl) (by kernel_rfl) (fun _ _ _ h => h) (Or.inl ⟨by kernel_rfl, ?_⟩) (by assumption) ?_
          rotate_left
          · (intro ww hSw; (try dsimp only at hSw); go_simp); (try with_reducible rfl)
          (try simp only [Act.put, List.setIfInBounds_toArray, List.set_cons_zero, List.set_cons_succ])
          refine wpAnyH_take (i := 10) (oi := ⟨some 21, _, _, _, _, _⟩) (v := ?_) rfl (by kernel_rfl) (by kernel_rfl) (by kernel_rfl) (fun _ _ _ h => h) (Or.inl ⟨by kernel_rfl, ?_⟩) (by assumption) ?_
          rotate_left
          · (intro ww hSw; (try dsimp only at hSw); obtain ⟨c0, c1, c2, c3⟩ := XN.out; replace c0 := keptC c0 hSw hpx; replace c1 := keptC c1 hSw hpx; replace c2 := keptC c2 hSw hpx; replace c3 := keptC c3 hSw hpx; go_simp); (try with_reducible rfl)
          (try simp only [Act.put, List.setIfInBounds_toArray, List.set_cons_zero, List.set_cons_succ])
          refine wpAnyH_ready (rs := [11]) (by kernel_rfl) (by simp) ?_
          refine AllReadyH.cons rfl (fun K hK => ?_) AllReadyH.nil
          go_simp
          refine (AMH.out _ (by first | exact HX2.out | exact blkDrew HX2.out)).mono ?_
          rintro e w3 ⟨rfl, hbv⟩
          (first | replace hbv := from_drew hbv | skip)
          have HX3 := Lib.hid (blk_on HX2.out hbv hpx)
          have HB3 := Lib.hid (first_below HB.out hbv)
          have HO3 := Lib.hid (show World.ownsRow _ _ _ _ _ _ _ from rowOn HO.out hbv)
          go_wp2_with fail
          refine hK.out _ _ ?_ (fun hHeld => ?_)
          · (try dsimp only); first | exact hbv | exact hbv.drew
          clear hK K
          (try simp only [Act.put, List.setIfInBounds_toArray, List.set_cons_zero, List.set_cons_succ])
          refine wpAnyH_take (i := 12) (oi := ⟨some 23, _, _, _, _, _⟩) (v := ?_) rfl (by kernel_rfl) (by kernel_rfl) (by kernel_rfl) (fun _ _ _ h => h) (Or.inl ⟨by kernel_rfl, ?_⟩) (by assumption) ?_
          rotate_left
          · (intro ww hSw; (try dsimp only at hSw); go_simp); (try with_reducible rfl)
          (try simp only [Act.put, List.setIfInBounds_toArray, List.set_cons_zero, List.set_cons_succ])
          refine wpAnyH_take (i := 13) (oi := ⟨some 24, _, _, _, _, _⟩) (v := ?_) rfl (by kernel_rfl) (by kernel_rfl) (by kernel_rfl) (fun _ _ _ h => h) (Or.inl ⟨by kernel_rfl, ?_⟩) (by assumption) ?_
          rotate_left
          · (intro ww hSw; (try dsimp only at hSw); go_simp); (try with_reducible rfl)
          (try simp only [Act.put, List.setIfInBounds_toArray, List.set_cons_zero, List.set_cons_succ])
          refine wpAnyH_done (by kernel_rfl) ?_ _
          go_wp2
          go_roundw
          case rel => exact ⟨n + 1, by omega, by go_num, by rw [E.out]; exact HO3.out, HX3.out, HB3.out⟩
          case measure => simp [intOf]; omega
      · have hq : ((at3 p n).k == 4) = false := beq_eq_false_iff_ne.2 h4
        have E := Lib.hid (FN (fun c => h4 c.1))
        clear FY FN AM h4
        generalize at3 p n = y at XN hq
        go_wp2_with fail
        refine wp_region_held_drew (S := (fun W => Below wr.heap.size wr W)) (by kernel_rfl) ?_ (fun hHeld => ?_)
        · (try dsimp only); first | exact Below.refl _ _ | exact (Below.refl _ _).drew
        refine wpAnyH_take (i := 0) (oi := ⟨some 11, _, _, _, _, _⟩) (v := ?_) rfl (by kernel_rfl) (by kernel_rfl) (by kernel_rfl) (fun _ _ _ h => h) (Or.inl ⟨by kernel_rfl, ?_⟩) (by assumption) ?_
        rotate_left
        · (intro ww hSw; (try dsimp only at hSw); go_simp); (try with_reducible rfl)
        (try simp only [Act.put, List.setIfInBounds_toArray, List.set_cons_zero, List.set_cons_succ])
        refine wpAnyH_take (i := 1) (oi := ⟨some 12, _, _, _, _, _⟩) (v := ?_) rfl (by kernel_rfl) (by kernel_rfl) (by kernel_rfl) (fun _ _ _ h => h) (Or.inl ⟨by kernel_rfl, ?_⟩) (by assumption) ?_
        rotate_left
        · (intro ww hSw; (try dsimp only at hSw); go_simp); (try with_reducible rfl)
        (try simp only [Act.put, List.setIfInBounds_toArray, List.set_cons_zero, List.set_cons_succ])
        refine wpAnyH_take (i := 2) (oi := ⟨some 13, _, _, _, _, _⟩) (v := ?_) rfl (by kernel_rfl) (by kernel_rfl) (by kernel_rfl) (fun _ _ _ h => h) (Or.inl ⟨by kernel_rfl, ?_⟩) (by assumption) ?_
        rotate_left
        · (intro ww hSw; (try dsimp only at hSw); go_simp); (try with_reducible rfl)
        (try simp only [Act.put, List.setIfInBounds_toArray, List.set_cons_zero, List.set_cons_succ])
        refine wpAnyH_take (i := 3) (oi := ⟨some 14, _, _, _, _, _⟩) (v := ?_) rfl (by kernel_rfl) (by kernel_rfl) (by kernel_rfl) (fun _ _ _ h => h) (Or.inl ⟨by kernel_rfl, ?_⟩) (by assumption) ?_
        rotate_left
        · (intro ww hSw; (try dsimp only at hSw); obtain ⟨c0, c1, c2, c3⟩ := XN.out; replace c0 := keptC c0 hSw hpx; replace c1 := keptC c1 hSw hpx; replace c2 := keptC c2 hSw hpx; replace c3 := keptC c3 hSw hpx; go_simp); (try with_reducible rfl)
        (try simp only [Act.put, List.setIfInBounds_toArray, List.set_cons_zero, List.set_cons_succ])
        refine wpAnyH_take (i := 4) (oi := ⟨some 15, _, _, _, _, _⟩) (v := ?_) rfl (by kernel_rfl) (by kernel_rfl) (by kernel_rfl) (fun _ _ _ h => h) (Or.inl ⟨by kernel_rfl, ?_⟩) (by assumption) ?_
        rotate_left
        · (intro ww hSw; (try dsimp only at hSw); go_simp); (try with_reducible rfl)
        (try simp only [Act.put, List.setIfInBounds_toArray, List.set_cons_zero, List.set_cons_succ])
        refine wpAnyH_take (i := 5) (oi := ⟨some 16, _, _, _, _, _⟩) (v := ?_) rfl (by kernel_rfl) (by kernel_rfl) (by kernel_rfl) (fun _ _ _ h => h) (Or.inl ⟨by kernel_rfl, ?_⟩) (by assumption) ?_
        rotate_left
        · (intro ww hSw; (try dsimp only at hSw); go_simp); (try with_reducible rfl)
        (try simp only [Act.put, List.setIfInBounds_toArray, List.set_cons_zero, List.set_cons_succ])
        refine wpAnyH_take (i := 6) (oi := ⟨some 17, _, _, _, _, _⟩) (v := undef) rfl (by kernel_rfl) (by kernel_rfl) (by kernel_rfl) (fun _ _ _ h => h) (Or.inr ⟨by kernel_rfl, rfl⟩) (by assumption) ?_
        (try simp only [Act.put, List.setIfInBounds_toArray, List.set_cons_zero, List.set_cons_succ])
        refine wpAnyH_take (i := 7) (oi := ⟨some 18, _, _, _, _, _⟩) (v := undef) rfl (by kernel_rfl) (by kernel_rfl) (by kernel_rfl) (fun _ _ _ h => h) (Or.inr ⟨by kernel_rfl, rfl⟩) (by assumption) ?_
        (try simp only [Act.put, List.setIfInBounds_toArray, List.set_cons_zero, List.set_cons_succ])
        refine wpAnyH_take (i := 8) (oi := ⟨some 19, _, _, _, _, _⟩) (v := undef) rfl (by kernel_rfl) (by kernel_rfl) (by kernel_rfl) (fun _ _ _ h => h) (Or.inr ⟨by kernel_rfl, rfl⟩) (by assumption) ?_
        (try simp only [Act.put, List.setIfInBounds_toArray, List.set_cons_zero, List.set_cons_succ])
        refine wpAnyH_take (i := 9) (oi := ⟨some 20, _, _, _, _, _⟩) (v := undef) rfl (by kernel_rfl) (by kernel_rfl) (by kernel_rfl) (fun _ _ _ h => h) (Or.inr ⟨by kernel_rfl, rfl⟩) (by assumption) ?_
        (try simp only [Act.put, List.setIfInBounds_toArray, List.set_cons_zero, List.set_cons_succ])
        refine wpAnyH_take (i := 10) (oi := ⟨some 21, _, _, _, _, _⟩) (v := undef) rfl (by kernel_rfl) (by kernel_rfl) (by kernel_rfl) (fun _ _ _ h => h) (Or.inr ⟨by kernel_rfl, rfl⟩) (by assumption) ?_
        (try simp only [Act.put, List.setIfInBounds_toArray, List.set_cons_zero, List.set_cons_succ])
        refine wpAnyH_take (i := 11) (oi := ⟨some 22, _, _, _, _, _⟩) (v := undef) rfl (by kernel_rfl) (by kernel_rfl) (by kernel_rfl) (fun _ _ _ h => h) (Or.inr ⟨by kernel_rfl, rfl⟩) (by assumption) ?_
        (try simp only [Act.put, List.setIfInBounds_toArray, List.set_cons_zero, List.set_cons_succ])
        refine wpAnyH_take (i := 12) (oi := ⟨some 23, _, _, _, _, _⟩) (v := undef) rfl (by kernel_rfl) (by kernel_rfl) (by kernel_rfl) (fun _ _ _ h => h) (Or.inr ⟨by kernel_rfl, rfl⟩) (by assumption) ?_
        (try simp only [Act.put, List.setIfInBounds_toArray, List.set_cons_zero, List.set_cons_succ])
        refine wpAnyH_take (i := 13) (oi := ⟨some 24, _, _, _, _, _⟩) (v := ?_) rfl (by kernel_rfl) (by kernel_rfl) (by kernel_rfl) (fun _ _ _ h => h) (Or.inl ⟨by kernel_rfl, ?_⟩) (by assumption) ?_
        rotate_left
        · (intro ww hSw; (try dsimp only at hSw); go_simp); (try with_reducible rfl)
        (try simp only [Act.put, List.setIfInBounds_toArray, List.set_cons_zero, List.set_cons_succ])
        refine wpAnyH_done (by kernel_rfl) ?_ _
        go_wp2
        go_roundw
        case rel => exact ⟨n + 1, by omega, by go_num, by rw [E.out]; exact HO.out, HX2.out, by first | exact HB.out | exact HB.out.drew⟩
        case measure => simp [intOf]; omega
    · obtain rfl : n = 3 := by omega
      go_wp2
      go_ret
      exact ⟨_, rfl, hown, hbw⟩

end Go.Proofs.YtnojdchodmogbaaGreat

namespace Go.Proofs.YtnojdchodmogbaaGreat
open Go.RowKit

/- terms as cells -/
def cellsT (l : List TermL) : List Value := l.flatMap TermL.cells
theorem cellsT_length (l : List TermL) : (cellsT l).length = l.length * 4 := by
  induction l with
  | nil => rfl
  | cons t r ih => unfold cellsT at *; rw [List.flatMap_cons, List.length_append, ih, List.length_cons]; show 4 + _ = _; omega
theorem cellsT_append (l r : List TermL) : cellsT (l ++ r) = cellsT l ++ cellsT r := by unfold cellsT; exact List.flatMap_append
theorem cellsT_cons (t : TermL) (r : List TermL) : cellsT (t :: r) = t.cells ++ cellsT r := by unfold cellsT; exact List.flatMap_cons
theorem cellsT_at : ∀ (L : List TermL) (k : Nat) (hk : k < L.length) (i : Nat), i < 4 → (cellsT L)[k * 4 + i]? = L[k].cells[i]? := by
  intro L
  induction L with
  | nil => intro k hk; simp at hk
  | cons t r ih =>
    intro k hk i hi
    rw [cellsT_cons]
    cases k with
    | zero => rw [List.getElem?_append_left (by show _ < 4; omega)]; simp
    | succ k =>
      rw [List.getElem?_append_right (by show 4 ≤ _; omega)]
      rw [show (k + 1) * 4 + i - t.cells.length = k * 4 + i by show (k + 1) * 4 + i - 4 = _; omega]
      exact ih k (by simpa using hk) i hi
theorem cellsT_set (a : List TermL) (x y : TermL) (r : List TermL) : (cellsT (a ++ x :: r)).take (a.length * 4) ++ y.cells ++ (cellsT (a ++ x :: r)).drop (a.length * 4 + y.cells.length) = cellsT (a ++ y :: r) := by
  rw [cellsT_append, cellsT_cons, cellsT_append, cellsT_cons, ← cellsT_length a, List.take_left]
  rw [show (cellsT a).length + y.cells.length = (cellsT a ++ x.cells).length by rw [List.length_append]; rfl, ← List.append_assoc (cellsT a), List.drop_left, List.append_assoc]
theorem info_term : (Tryz.prog.info? 27).map (fun i => (i.zero, i.size, i.bytes)) = some (some noTerm.v, 4, 56) := by kernel_rfl
theorem made_terms (n : Nat) (h : n ≤ 3) : (madeCells noTerm.v.cells (n * 4)).toList = cellsT (List.replicate n noTerm) := by
  rcases (by omega : n = 0 ∨ n = 1 ∨ n = 2 ∨ n = 3) with rfl | rfl | rfl | rfl <;> kernel_rfl
/- a row that was made whole -/
theorem blk_made {w : World} {B g n size : Nat} {e : TypeId} {xs : List Value} (h : w.ownsRow B e size (.slice (some ⟨g, 0, none⟩) n n) n xs) : Blk w g e xs.toArray := by
  rcases h.2 with ⟨e0, _⟩ | ⟨g', cap, cur, e0, hb, hg, hn, hm, hs, ht⟩
  · cases e0
  · injection e0 with e1 _ e3
    injection e1 with e1
    injection e1 with e1
    subst e1; subst e3
    rw [List.take_of_length_le (by rw [Array.length_toList, hs]; exact Nat.le_refl _)] at ht
    unfold Blk
    rw [← ht]
    simpa using hg
/- a term stored into a row; the world behind it is a name -/
theorem term_abs {ops : Array Oper} {rest : List Oper} {o : Oper} {a : Act} {w : World} {Q : Exit → Act → World → Prop} (x y : Operand) (ho : o.op = .store 27 x y ∧ o.guard = none)
    (g off : Nat) (cells : Array Value) (hx : a.eval x = .pointer (some ⟨g, off, none⟩)) (hy : a.eval y = .agg cells) (hi : (Tryz.prog.info? 27).map (·.size) = some cells.size) (h1 : cells.all (·.oneCell') = true)
    (xs ys : List Value) (hR : Blk w g 27 xs.toArray) (e : xs.take off ++ cells.toList ++ xs.drop (off + cells.toList.length) = ys) (hfit : off + cells.toList.length ≤ xs.length)
    (h : ∀ w', Hid (Blk w' g 27 ys.toArray) → Hid (w.grownBy w' (some g)) → wpList Tryz.prog ops Q rest (a.put o.dst undef) w') : wpList Tryz.prog ops Q (o :: rest) a w := by
  refine wpList_store_at ho.2 27 x y ho.1 g off cells hx hy 27 xs.toArray hR hi (by simpa using hfit) h1 (h _ ?_ (grown_set _ _ _))
  show Blk _ _ _ _
  rw [List.toList_toArray, e]
  exact blk_row hR _
theorem term_arr : 99 ≠ 27 := by decide
theorem blk_kinds {w : World} {X Y : Nat} {T U : TypeId} {a b : Array Value} (h : Blk w X T a) (k : Blk w Y U b) (hT : T ≠ U) : X ≠ Y := by
  intro e
  subst e
  unfold Blk at *
  rw [k] at h
  injection h with h
  injection h with _ h2 _
  exact hT h2.symm

/- what row leaves -/
def RowT (l : List TermL) (w : World) (e : Ending) (w' : World) : Prop := ∃ g, e = .returned (.slice (some ⟨g, 0, none⟩) l.length l.length) ∧ w.heap.size ≤ g ∧ Blk w' g 27 (cellsT l).toArray ∧ Below w.heap.size w w'

theorem ints_cell {w : World} {g : Nat} {l : List Nat} (h : ∀ j u, (intCells l)[j]? = some u → w.cell? ⟨g, j, none⟩ = some u) (j : Nat) (hj : j < l.length) : w.cell? ⟨g, j, none⟩ = some (.int .i64 (l[j] : Nat)) :=
  h j _ (by simp [intCells, hj])

set_option maxRecDepth 100000 in
set_option maxHeartbeats 4000000 in
theorem row_calls (p : TripL) (l : List Nat) (v : Value) (w : World) (hl : l.length ≤ 3) (h3 : ∀ i ∈ l, i < 3) (hv : Reads w v l.length (intCells l)) :
    Calls Tryz.prog 44 #[p.v, v] w (RowT (l.map (at3 p)) w) := by
  obtain ⟨i0, hi, hz0, hz1, hz2⟩ := info_parts info_term
  obtain ⟨N, hN⟩ : ∃ N, l.length = N := ⟨_, rfl⟩
  have hcases : (N = 0 ∧ v = .slice none 0 0) ∨ ∃ g cap, v = .slice (some ⟨g, 0, none⟩) N cap ∧ g < w.heap.size ∧ N ≤ cap ∧ ∀ j (h : j < l.length), w.cell? ⟨g, j, none⟩ = some (.int .i64 (l[j] : Nat)) := by
    rw [hN] at hv
    rcases hv with ⟨rfl, h0⟩ | ⟨g, cap, rfl, hg, hn, hm, hc⟩
    · exact .inl ⟨h0, rfl⟩
    · exact .inr ⟨g, cap, rfl, hg, hn, fun j hj => ints_cell hc j hj⟩
  clear hv
  rw [hN] at hl
  have HN := Lib.hid hN
  have H3 := Lib.hid h3
  clear hN h3
  simp only [TripL.v]
  rcases hcases with ⟨h0, rfl⟩ | ⟨g, cap, rfl, hg, hcap, hc⟩
  · subst h0
    go_enter Tryz.func44, Tryz.ntmps44
    go_wp2_with fail
    refine (sterms_calls _ _ _ _ _ _ _ _ _ _ _ _ _).mono ?_
    rintro e w1 ⟨rfl, hb1⟩
    replace hb1 := one_box hb1
    go_wp2_with (first | (refine whole_abs 99 (.tmp 5) (.tmp 10) ⟨rfl, rfl⟩ w1.heap.size #[.int .i64 p.s.k, .string (bs p.s.x), .string (bs p.s.y), .string (bs p.s.z), .int .i64 p.p.k, .string (bs p.p.x), .string (bs p.p.y), .string (bs p.p.z), .int .i64 p.o.k, .string (bs p.o.x), .string (bs p.o.y), .string (bs p.o.z)] (by kernel_rfl) (by kernel_rfl) 99 _ (blk_new _ _ _) (by kernel_rfl) (by kernel_rfl) (by kernel_rfl) ?_; intro w2 hX hG) | (refine wpList_make_full _ rfl (.tmp 12) (.tmp 12) 65 rfl w.heap.size 27 i0 noTerm.v 4 Tryz.underlying65 hi hz0 hz1 .i64 .i64 0 0 0 (by kernel_rfl) (by kernel_rfl) rfl rfl (by omega) (by unfold maxLen; omega) (by have := (below_whole hb1 hG.out).size; omega) ?_; intro w3 hO hG3; have HO := Lib.hid hO; clear hO; have HG3 := Lib.hid hG3; clear hG3))
    have hb2 := Lib.hid (below_whole hb1 hG.out)
    go_loopw [16] (fun i wr => i = .int .i64 0 ∧ wr = w3) (fun _ _ => 0)
    case atStart => exact ⟨rfl, rfl⟩
    case round =>
      obtain ⟨rfl, rfl⟩ := hrel
      go_wp2
      go_ret
      have e : l = [] := List.eq_nil_of_length_eq_zero HN.out
      subst e
      have hO2 := HO.out
      rw [made_terms 0 (by omega)] at hO2
      exact ⟨_, rfl, hb2.out.size, blk_made hO2, hb2.out.grown HG3.out hb2.out.size (fun k hk => by cases hk)⟩
  · go_enter Tryz.func44, Tryz.ntmps44
    go_wp2_with fail
    refine (sterms_calls _ _ _ _ _ _ _ _ _ _ _ _ _).mono ?_
    rintro e w1 ⟨rfl, hb1⟩
    replace hb1 := one_box hb1
    go_wp2_with (first | (refine whole_abs 99 (.tmp 5) (.tmp 10) ⟨rfl, rfl⟩ w1.heap.size #[.int .i64 p.s.k, .string (bs p.s.x), .string (bs p.s.y), .string (bs p.s.z), .int .i64 p.p.k, .string (bs p.p.x), .string (bs p.p.y), .string (bs p.p.z), .int .i64 p.o.k, .string (bs p.o.x), .string (bs p.o.y), .string (bs p.o.z)] (by kernel_rfl) (by kernel_rfl) 99 _ (blk_new _ _ _) (by kernel_rfl) (by kernel_rfl) (by kernel_rfl) ?_; intro w2 hX hG) | (refine wpList_make_full _ rfl (.tmp 12) (.tmp 12) 65 rfl w.heap.size 27 i0 noTerm.v 4 Tryz.underlying65 hi hz0 hz1 .i64 .i64 N N N (by kernel_rfl) (by kernel_rfl) rfl rfl (by rw [hz2]; omega) (by unfold maxLen; omega) (by have := (below_whole hb1 hG.out).size; omega) ?_; intro w3 hO hG3; have HO := Lib.hid hO; clear hO; have HG3 := Lib.hid hG3; clear hG3))
    have hb2 := Lib.hid (below_whole hb1 hG.out)
    have hb3 := Lib.hid (hb2.out.grown HG3.out hb2.out.size (fun k hk => by cases hk))
    have hX3 : Hid (Blk w3 w1.heap.size 99 #[.int .i64 p.s.k, .string (bs p.s.x), .string (bs p.s.y), .string (bs p.s.z), .int .i64 p.p.k, .string (bs p.p.x), .string (bs p.p.y), .string (bs p.p.z), .int .i64 p.o.k, .string (bs p.o.x), .string (bs p.o.y), .string (bs p.o.z)]) := by
      show _ = _
      rw [HG3.out.block _ (blk_lt hX.out) (by simp)]; exact hX.out
    have hX3' : Hid (Blk w3 w1.heap.size 99 (cells12 p)) := hX3.out
    have hR3 : Hid (Blk w3 w2.heap.size 27 (cellsT (List.replicate N noTerm)).toArray) := by
      show Blk _ _ _ _
      have := blk_made HO.out
      rwa [made_terms N hl] at this
    obtain ⟨X, hXe⟩ : ∃ X, w1.heap.size = X := ⟨_, rfl⟩
    obtain ⟨G, hGe⟩ : ∃ G, w2.heap.size = G := ⟨_, rfl⟩
    have hGw : Hid (w.heap.size ≤ G) := by show _ ≤ _; rw [← hGe]; exact hb2.out.size
    have hXw : Hid (w.heap.size ≤ X) := by show _ ≤ _; rw [← hXe]; exact hb1.size
    rw [hXe] at hX3'
    rw [hGe] at hR3
    simp only [hXe, hGe]
    have HXE := Lib.hid hXe
    clear hXe hGe hX3 hb1 hX hG
    go_loopw [16] (fun i wr => ∃ k : Nat, k ≤ N ∧ i = .int .i64 k ∧ Blk wr G 27 (cellsT ((l.take k).map (at3 p) ++ List.replicate (N - k) noTerm)).toArray ∧ Blk wr X 99 (cells12 p) ∧ Below w.heap.size w wr) (fun i _ => N - (intOf i).toNat)
    case atStart => exact ⟨0, Nat.zero_le _, rfl, by simpa using hR3.out, hX3'.out, hb3.out⟩
    case round =>
      obtain ⟨k, hk, rfl, hR, hX2, hbw⟩ := hrel
      by_cases hlt : k < N
      · have hkl : k < l.length := by rw [HN.out]; exact hlt
        have g1 : (0 : Int) ≤ (k : Int) := by omega
        have g2 : (k : Int) < (N : Int) := by omega
        have ci := keptC (hc k hkl) hbw hg
        have h3k := H3.out l[k] (List.getElem_mem hkl)
        have ht : Hid (l.take (k + 1) = l.take k ++ [l[k]]) := List.take_succ_eq_append_getElem hkl
        have hlen : Hid ((l.take k).length = k) := by show _ = _; rw [List.length_take]; omega
        generalize l[k] = m at ci h3k ht
        have g3 : (0 : Int) ≤ (m : Int) := by omega
        have g4 : (m : Int) < 3 := by omega
        obtain ⟨c0, c1, c2, c3⟩ := blk_at3 hX2 m h3k
        have HEQ : Hid ((cellsT ((l.take k).map (at3 p) ++ List.replicate (N - k) noTerm)).take (k * 4) ++ (at3 p m).cells ++ (cellsT ((l.take k).map (at3 p) ++ List.replicate (N - k) noTerm)).drop (k * 4 + (at3 p m).cells.length) = cellsT ((l.take (k + 1)).map (at3 p) ++ List.replicate (N - (k + 1)) noTerm)) := by
          show _ = _
          obtain ⟨j, hj⟩ : ∃ j, N - k = j + 1 := ⟨N - k - 1, by omega⟩
          have := cellsT_set ((l.take k).map (at3 p)) noTerm (at3 p m) (List.replicate j noTerm)
          rw [List.length_map, hlen.out] at this
          rw [hj, List.replicate_succ, this, ht.out, List.map_append, show N - (k + 1) = j by omega]
          simp
        have HFIT : Hid (k * 4 + 4 ≤ (cellsT ((l.take k).map (at3 p) ++ List.replicate (N - k) noTerm)).length) := by
          show _ ≤ _
          rw [cellsT_length, List.length_append, List.length_map, hlen.out, List.length_replicate]; omega
        generalize at3 p m = y at c0 c1 c2 c3 HEQ
        have HR := Lib.hid hR
        have HX2 := Lib.hid hX2
        have HBW := Lib.hid hbw
        clear hR hX2 hbw
        go_wp2_with (refine term_abs (.tmp 26) (.tmp 25) ⟨rfl, rfl⟩ G (k * 4) #[.int .i64 y.k, .string (bs y.x), .string (bs y.y), .string (bs y.z)] (by kernel_rfl) (by kernel_rfl) (by kernel_rfl) (by kernel_rfl) _ _ HR.out HEQ.out HFIT.out ?_; intro w4 hR4 hG4)
        go_roundw
        case rel =>
          have hX4 : Blk _ X 99 (cells12 p) := (hG4.out.block X (blk_lt HX2.out) (fun c => blk_kinds HX2.out HR.out term_arr (by injection c))).trans HX2.out
          exact ⟨k + 1, by omega, by go_num, hR4.out, hX4, HBW.out.grown hG4.out HBW.out.size (fun z hz => by injection hz with hz; have := hGw.out; omega)⟩
        case measure => simp [intOf]; omega
      · obtain rfl : k = N := by omega
        rw [List.take_of_length_le (by rw [HN.out]; exact Nat.le_refl _), Nat.sub_self, List.replicate_zero, List.append_nil] at hR
        have HR := Lib.hid hR
        clear hR
        go_wp2
        go_ret
        exact ⟨G, by rw [List.length_map, HN.out]; rfl, hGw.out, HR.out, hbw⟩

end Go.Proofs.YtnojdchodmogbaaGreat

namespace Go.Proofs.YtnojdchodmogbaaGreat
open Go.RowKit

theorem owns_on {w w' : World} {B C n size : Nat} {e : TypeId} {v : Value} {xs : List Value} (h : w.ownsRow B e size v n xs) (hb : Below C w w') (hC : w.heap.size ≤ C) : w'.ownsRow B e size v n xs := by
  refine ⟨h.1, ?_⟩
  rcases h.2 with h0 | ⟨g, cap, cur, hv, hg, hh, r⟩
  · exact .inl h0
  · exact .inr ⟨g, cap, cur, hv, hg, by rw [hb.block g (Nat.lt_of_lt_of_le (Array.getElem?_eq_some_iff.1 hh).1 hC)]; exact hh, r⟩
theorem owns_base {w : World} {B B' n size : Nat} {e : TypeId} {v : Value} {xs : List Value} (h : w.ownsRow B e size v n xs) (hB : B' ≤ B) : w.ownsRow B' e size v n xs := by
  refine ⟨h.1, ?_⟩
  rcases h.2 with h0 | ⟨g, cap, cur, hv, hg, r⟩
  · exact .inl h0
  · exact .inr ⟨g, cap, cur, hv, Nat.le_trans hB hg, r⟩
theorem owns_set {w w' : World} {B G n size : Nat} {e T : TypeId} {v : Value} {xs : List Value} {c : Array Value} (h : w.ownsRow B e size v n xs) (k : Blk w G T c) (hne : e ≠ T) (hG : w.grownBy w' (some G)) : w'.ownsRow B e size v n xs := by
  refine ⟨h.1, ?_⟩
  rcases h.2 with h0 | ⟨g, cap, cur, hv, hg, hh, r⟩
  · exact .inl h0
  · refine .inr ⟨g, cap, cur, hv, hg, ?_, r⟩
    have hk : Blk w g e cur := hh
    rw [hG.block g (Array.getElem?_eq_some_iff.1 hh).1 (fun c => blk_kinds hk k hne (by injection c))]
    exact hh
theorem blk_grown {w w' : World} {X G : Nat} {T U : TypeId} {a c : Array Value} (h : Blk w X T a) (k : Blk w G U c) (hne : T ≠ U) (hG : w.grownBy w' (some G)) : Blk w' X T a :=
  (hG.block X (blk_lt h) (fun c => blk_kinds h k hne (by injection c))).trans h
theorem owns_slice {w : World} {B n size : Nat} {e : TypeId} {v : Value} {xs : List Value} (h : w.ownsRow B e size v n xs) : ∃ a c, v = .slice a n c := by
  rcases h.2 with ⟨h0, h1⟩ | ⟨g, cap, cur, hv, _⟩
  · subst h1; exact ⟨_, _, h0⟩
  · exact ⟨_, _, hv⟩

section
variable {P : Program}
theorem wp_make_blk {o : Oper} {a : Act} {w : World} {K : Act → World → Prop} {Q : Exit → Act → World → Prop} (l c : Operand) (t : TypeId) (hop : o.op = Op.makeSlice t l c)
    (e : TypeId) (i : TypeInfo) (z : Value) (size : Nat) (h1 : P.underlying t = some (.slice e)) (h2 : P.info? e = some i) (h3 : i.zero = some z) (h4 : i.size = size)
    (kl kc : IntKind) (n : Nat) (hl : a.eval l = .int kl n) (hc : a.eval c = .int kc n) (b2 : i.bytes * n ≤ 281474976710656) (b3 : n ≤ maxLen) (G : Nat) (hG : w.heap.size = G)
    (hK : ∀ w', Blk w' G e (madeCells z.cells (n * size)) → Below w.heap.size w w' → K (a.put o.dst (.slice (some ⟨G, 0, none⟩) n n)) w') : o.wp P a w K Q := by
  obtain ⟨w', hrun, r1, r2⟩ := run_make_full (P := P) w w.heap.size t e i z size h1 h2 h3 h4 kl kc n b2 b3 (Nat.le_refl _)
  subst hG
  unfold Oper.wp
  simp [execOp, hop, hl, hc, hrun, Result.andThen]
  refine hK _ ?_ ?_
  · have := blk_made r1
    simpa using this
  · exact (Below.refl w.heap.size w).grown r2 (Nat.le_refl _) (fun k hk => by cases hk)

theorem run_storeVar_one (w : World) (g off : Nat) (t ty : TypeId) (old : Array Value) (v : Value) (hg : w.heap[g]? = some (.cells old t (0, 0))) (hi : (P.info? ty).map (·.size) = some 1) (hv : v.cells = #[v])
    (ho : off < old.size) (h1 : v.oneCell' = true) :
    (storeVar ty ⟨g, off, none⟩ v).run P w = .ok () (w.setRow g (old.toList.take off ++ [v] ++ old.toList.drop (off + 1)).toArray) := by
  have := run_storeCells_at P g off t [v] 0 old w hg (by simp; omega) (fun u hu => by simp at hu; rw [hu]; exact h1)
  rw [Nat.add_zero] at this
  cases hq : P.info? ty with
  | none => simp [hq] at hi
  | some i =>
    have hs : i.size = 1 := by simp [hq] at hi; omega
    simp [storeVar, sizeOf, typeInfo, hq, hv, hs]
    simpa using this
theorem wp_store_one {o : Oper} {a : Act} {w : World} {K : Act → World → Prop} {Q : Exit → Act → World → Prop} (ty : TypeId) (x y : Operand) (ho : o.op = .store ty x y)
    (g off : Nat) (v : Value) (hx : a.eval x = .pointer (some ⟨g, off, none⟩)) (hy : a.eval y = v) (hv : v.cells = #[v]) (h1 : v.oneCell' = true)
    (t : TypeId) (xs ys : List Value) (hR : Blk w g t xs.toArray) (hi : (P.info? ty).map (·.size) = some 1)
    (hold : off < xs.length) (e : xs.take off ++ [v] ++ xs.drop (off + 1) = ys)
    (h : ∀ w', Blk w' g t ys.toArray → w.grownBy w' (some g) → K (a.put o.dst undef) w') : o.wp P a w K Q := by
  have hrun := run_storeVar_one (P := P) w g off t ty xs.toArray v hR hi hv (by simpa using hold) h1
  rw [List.toList_toArray, e] at hrun
  unfold Oper.wp execOp
  simp only [ho, hx, hy, Instr.storeAt, Instr.sureAddr, Sem.run_bind, Sem.run_pure, Result.andThen_ok, hrun]
  exact h _ (blk_row hR _) (grown_set _ _ _)
end

/- a table's rows -/
def nilV : Value := .slice none 0 0
def rowV (n g : Nat) : Value := .slice (some ⟨g, 0, none⟩) n n
theorem made_rows (N : Nat) : madeCells (Value.slice none 0 0).cells (N * 1) = (List.replicate N nilV).toArray := by
  have hc : (Value.slice none 0 0).cells = #[nilV] := rfl
  rw [hc, Nat.mul_one]
  unfold madeCells
  apply Array.ext
  · simp
  · intro i h1 h2
    simp [Nat.mod_one]

def RowsR (p : TripL) (M : List TripL) (n N k B G : Nat) (W : World) : Prop :=
  ∃ gs : List Nat, gs.length = k ∧ Blk W G 65 (gs.map (rowV n) ++ List.replicate (N - k) nilV).toArray ∧
    ∀ i g : Nat, gs[i]? = some g → B ≤ g ∧ ∃ t : TripL, M[i]? = some t ∧ Blk W g 27 (cellsT (rowP p t)).toArray
theorem rows_start {p : TripL} {M : List TripL} {n N B G : Nat} {W : World} (h : Blk W G 65 (List.replicate N nilV).toArray) : RowsR p M n N 0 B G W :=
  ⟨[], rfl, by simpa using h, fun i g hg => by simp at hg⟩
theorem rows_on {p : TripL} {M : List TripL} {n N k B G C : Nat} {W W' : World} (h : RowsR p M n N k B G W) (hb : Below C W W') (hC : W.heap.size ≤ C) : RowsR p M n N k B G W' := by
  obtain ⟨gs, hl, hG, hr⟩ := h
  refine ⟨gs, hl, blk_on hG hb (Nat.lt_of_lt_of_le (blk_lt hG) hC), fun i g hg => ?_⟩
  obtain ⟨h1, t, ht, hB⟩ := hr i g hg
  exact ⟨h1, t, ht, blk_on hB hb (Nat.lt_of_lt_of_le (blk_lt hB) hC)⟩
theorem row_term : 27 ≠ 65 := by decide
theorem rows_more {p t : TripL} {M : List TripL} {n N k B G g : Nat} {W : World} (h : RowsR p M n N k B G W) (hk : k < N) (ht : M[k]? = some t) (hg : Blk W g 27 (cellsT (rowP p t)).toArray) (hB : B ≤ g) :
    ∃ xs ys : List Value, Blk W G 65 xs.toArray ∧ k < xs.length ∧ xs.take k ++ [rowV n g] ++ xs.drop (k + 1) = ys ∧ ∀ W', Blk W' G 65 ys.toArray → W.grownBy W' (some G) → RowsR p M n N (k + 1) B G W' := by
  obtain ⟨gs, hl, hG, hr⟩ := h
  obtain ⟨j, hj⟩ : ∃ j, N - k = j + 1 := ⟨N - k - 1, by omega⟩
  refine ⟨_, (gs ++ [g]).map (rowV n) ++ List.replicate (N - (k + 1)) nilV, hG, by simp; omega, ?_, fun W' h1 h2 => ⟨gs ++ [g], by simp [hl], h1, fun i x hx => ?_⟩⟩
  · rw [hj, List.replicate_succ, show N - (k + 1) = j by omega]
    have hm : (gs.map (rowV n)).length = k := by rw [List.length_map, hl]
    rw [← hm, List.take_left, show (gs.map (rowV n)).length + 1 = (gs.map (rowV n) ++ [nilV]).length by simp, List.append_cons (List.map (rowV n) gs) nilV (List.replicate j nilV), List.drop_left]
    simp
  · have old : ∀ y (T : TripL), Blk W y 27 (cellsT (rowP p T)).toArray → Blk W' y 27 (cellsT (rowP p T)).toArray := fun y T hy => blk_grown hy hG row_term h2
    rw [List.getElem?_append] at hx
    split at hx
    · obtain ⟨a1, T, a2, a3⟩ := hr i x hx
      exact ⟨a1, T, a2, old _ _ a3⟩
    · rename_i hlt
      have e0 : i - gs.length = 0 := by
        rcases Nat.eq_zero_or_pos (i - gs.length) with h | h
        · exact h
        · rw [List.getElem?_eq_none (by show 1 ≤ _; omega)] at hx; cases hx
      rw [e0] at hx
      simp at hx
      subst hx
      have : i = k := by omega
      subst this
      exact ⟨hB, t, ht, old _ _ hg⟩

/- a table in memory -/
def TableT (w : World) (B : Nat) (tv : Value) (p : TripL) (M : List TripL) : Prop :=
  ∃ vv G, tv = .agg #[vv, .slice (some ⟨G, 0, none⟩) M.length M.length] ∧ w.ownsRow B 9 1 vv (varsL p).length (textCells (varsL p)) ∧ B ≤ G ∧ RowsR p M (varsL p).length M.length M.length B G w
def noTable : Value := .agg #[.slice none 0 0, .slice none 0 0]
/- what Match leaves -/
def MatchT (ok : Bool) (p : TripL) (M : List TripL) (w : World) (e : Ending) (w' : World) : Prop :=
  Below w.heap.size w w' ∧ if ok then ∃ tv, e = .returned (.tuple #[tv, .int .i64 0]) ∧ TableT w' w.heap.size tv p M else e = .returned (.tuple #[noTable, .int .i64 2])
theorem fp_vars {p : TripL} (hp : patB p = true) : (fpN p 3).length = (varsL p).length := by
  have := congrArg List.length (row_eq hp p)
  unfold rowP at this
  simpa using this

end Go.Proofs.YtnojdchodmogbaaGreat
