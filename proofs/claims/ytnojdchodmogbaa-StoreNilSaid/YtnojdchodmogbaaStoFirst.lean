/- Where the variables of a pattern stand first: package store's firstPlaces. -/
import Derived.Test.YtnojdchodmogbaaStoGiven
import Derived.Test.YtnojdchodmogbaaStoSegPlain
import Derived.Test.YtnojdchodmogbaaShelfB
namespace Go.Proofs.Ytnojdchodmogbaa
open Go.RowKit

theorem eql_at : EqlAt Try.prog 23 (fun x : TermL => .agg x.cells.toArray) teq :=
  ⟨fun x y w => eql_term x y w, GuardAt.agg _ (by kernel_rfl)⟩
instance : Inhabited TermL := ⟨noTerm⟩
/- a term among the first ones of an array of three -/
theorem among_calls (p : TripL) (X i : Nat) (x : TermL) (w : World) (hi : i ≤ 3) (h : Blk w X 72 (cells12 p)) :
    Calls Try.prog 42 #[.slice (some ⟨X, 0, none⟩) i 3, x.v] w fun e w' => e = .returned (.bool (([p.s, p.p, p.o].take i).any fun y => teq x y)) ∧ Below w.heap.size w w' := by
  have := AnyQ.slices_Contains (P := Try.prog) (α := TermL) Try.laysContains 4 (fun w => by exact Try.isAgg23 w) (fun w => by exact Try.sizeOf23 w) TermL.cells (fun _ => rfl) teq eql_at X 0 i 3 [p.s, p.p, p.o] x w (by simpa using hi) (by omega) (fun j hj c v hc => by
    have hj3 : j < 3 := by simpa using hj
    rw [Nat.zero_add, blk_cell h]
    rcases (by omega : j = 0 ∨ j = 1 ∨ j = 2) with rfl | rfl | rfl
    all_goals
      match c, hc with
      | 0, hc => exact hc
      | 1, hc => exact hc
      | 2, hc => exact hc
      | 3, hc => exact hc
      | c + 4, hc => simp [TermL.cells] at hc)
  exact this
theorem among_iff (p : TripL) (i : Nat) (hi : i < 3) (x : TermL) : ([p.s, p.p, p.o].take i).any (fun y => teq x y) = decide (¬ ∀ j, j < i → at3 p j ≠ x) := by
  have ht : ∀ y, teq x y = decide (y = x) := fun y => by
    by_cases e : y = x
    · rw [e, teq_self]; simp
    · rw [teq_ne (fun c => e c.symm)]; simp [e]
  rw [Bool.eq_iff_iff, decide_eq_true_eq]
  rcases (by omega : i = 0 ∨ i = 1 ∨ i = 2) with rfl | rfl | rfl
  · rw [all_none]; simp
  · rw [all_one]; simp [ht, at3]
  · rw [all_two]; simp [ht, at3]
    by_cases e : p.s = x <;> simp [e]

/- numbers as cells -/
def intCells (l : List Nat) : List Value := l.map fun i : Nat => Value.int .i64 (i : Int)
theorem intCells_length (l : List Nat) : (intCells l).length = l.length := by simp [intCells]
theorem intCells_append (l r : List Nat) : intCells (l ++ r) = intCells l ++ intCells r := by simp [intCells]
theorem info_int : (Try.prog.info? 3).map (fun i => (i.zero, i.size, i.bytes)) = some (some (.int .i64 0), 1, 8) := by kernel_rfl
theorem own_ne' {w : World} {B n size : Nat} {v : Value} {xs : List Value} {X : Nat} {T e : TypeId} {a : Array Value} (h : w.ownsRow B e size v n xs) (hX : Blk w X T a) (hT : T ≠ e) : v.ownBlock ≠ some X := by
  intro c
  rcases h.2 with ⟨hv, _⟩ | ⟨g, cap, cur, hv, hg, hh, r⟩
  · rw [hv] at c; simp [Value.ownBlock] at c
  · rw [hv] at c
    simp [Value.ownBlock] at c
    subst c
    unfold Blk at hX
    rw [hX] at hh
    injection hh with hh
    injection hh with _ h2 _
    exact hT h2
theorem arr_int : 72 ≠ 3 := by decide

/- what firstPlaces keeps between its rounds -/
def FirstR (w : World) (X : Nat) (p : TripL) (v i : Value) (wr : World) : Prop :=
  ∃ n : Nat, n ≤ 3 ∧ i = .int .i64 n ∧ wr.ownsRow w.heap.size 3 1 v (fpN p n).length (intCells (fpN p n)) ∧ Blk wr X 72 (cells12 p) ∧ Below w.heap.size w wr
def FirstT (p : TripL) (w : World) (e : Ending) (w' : World) : Prop :=
  ∃ v, e = .returned v ∧ w'.ownsRow w.heap.size 3 1 v (fpN p 3).length (intCells (fpN p 3)) ∧ Below w.heap.size w w'
theorem fp_yes {p : TripL} {i : Nat} (h : (at3 p i).k = 4) (h2 : ∀ j, j < i → at3 p j ≠ at3 p i) : fpN p (i + 1) = fpN p i ++ [i] := by
  conv => lhs; unfold fpN
  rw [if_pos ⟨h, h2⟩]
theorem fp_no {p : TripL} {i : Nat} (h : ¬ ((at3 p i).k = 4 ∧ ∀ j, j < i → at3 p j ≠ at3 p i)) : fpN p (i + 1) = fpN p i := by
  conv => lhs; unfold fpN
  rw [if_neg h]
theorem cell_one' (w : World) (x : Value) (T : TypeId) {X : Nat} (hX : X = w.heap.size) : ∀ j u, [x][j]? = some u → (w.alloc (.cells #[x] T)).cell? ((⟨X, 0, none⟩ : Addr).add j) = some u := by
  subst hX; exact cell_one_new w x T

set_option maxRecDepth 100000 in
set_option maxHeartbeats 8000000 in
theorem firstPlaces_calls (p : TripL) (w : World) : Calls Try.prog 19 #[p.v] w (FirstT p w) := by
  obtain ⟨i0, hi, hz0, hz1, hz2⟩ := info_parts info_int
  simp only [TripL.v]
  go_enter Try.func19, Try.ntmps19
  go_wp2_with fail
  refine (sterms_calls _ _ _ _ _ _ _ _ _ _ _ _ _).mono ?_
  rintro e w1 ⟨rfl, hb1⟩
  replace hb1 := one_box hb1
  go_wp2_with (refine whole_abs 72 (.tmp 4) (.tmp 7) ⟨rfl, rfl⟩ w1.heap.size #[.int .i64 p.s.k, .string (bs p.s.x), .string (bs p.s.y), .string (bs p.s.z), .int .i64 p.p.k, .string (bs p.p.x), .string (bs p.p.y), .string (bs p.p.z), .int .i64 p.o.k, .string (bs p.o.x), .string (bs p.o.y), .string (bs p.o.z)] (by kernel_rfl) (by kernel_rfl) 72 _ (blk_new _ _ _) (by kernel_rfl) (by kernel_rfl) (by kernel_rfl) ?_; intro w2 hX hG)
  have hb2 := Lib.hid (below_whole hb1 hG.out)
  obtain ⟨X, hXe⟩ : ∃ X, w1.heap.size = X := ⟨_, rfl⟩
  rw [hXe] at hX
  simp only [hXe]
  have HXE := Lib.hid hXe
  clear hXe hb1 hG
  go_loopw [3, 8] (fun v i wr => FirstR w X p v i wr) (fun _ i _ => 3 - (intOf i).toNat)
  case atStart => exact ⟨0, by omega, rfl, World.ownsRow_nil _ _ _ _, hX.out, hb2.out⟩
  case round =>
    obtain ⟨n, hn, rfl, hown, hX2, hbw⟩ := hrel
    by_cases hlt : n < 3
    · have g1 : (n : Int) < 3 := by omega
      have g0 : (0 : Int) ≤ (n : Int) := by omega
      have XN := Lib.hid (blk_at3 hX2 n hlt)
      have hpx := blk_lt hX2
      have HX2 := Lib.hid hX2
      have HO := Lib.hid hown
      have HB := Lib.hid hbw
      have hfl := Lib.hid (fpN_length p n)
      have hrow := Lib.hid (own_ne' hown hX2 arr_int)
      have AM := fun W (h : Blk W X 72 (cells12 p)) => among_calls p X n (at3 p n) W hn h
      rw [among_iff p n hlt] at AM
      have FY := fp_yes (p := p) (i := n)
      have FN := fp_no (p := p) (i := n)
      clear hX2 hown hbw
      by_cases h4 : (at3 p n).k = 4
      · have hq : ((at3 p n).k == 4) = true := beq_iff_eq.2 h4
        by_cases hin : ∀ j, j < n → at3 p j ≠ at3 p n
        · have E := Lib.hid (FY h4 hin)
          rw [decide_eq_false (by simpa using hin)] at AM
          have AMH := Lib.hid AM
          clear FY FN AM h4 hin
          generalize at3 p n = y at XN hq AMH
          go_wp2_with fail
          refine wp_region_held_drew (S := (fun W => Below wr.heap.size wr W)) (by kernel_rfl) ?_ (fun hHeld => ?_)
          · (try dsimp only); first | exact Below.refl _ _ | exact (Below.refl _ _).drew
          refine wpAnyH_take (i := 0) (oi := ⟨some 11, _, _, _, _, _⟩) (v := ?_) rfl (by kernel_rfl) (by kernel_rfl) (by kernel_rfl) (fun _ _ _ h => h) (Or.inl ⟨by kernel_rfl, ?_⟩) (by assumption) ?_
          rotate_left
          · (intro ww hSw; (try dsimp only at hSw); go_simp); (try with_reducible rfl)
          (try simp only [Act.put, List.setIfInBounds_toArray, List.set_cons_zero, List.set_cons_succ])
          refine wpAnyH_take (i := 1) (oi := ⟨some 12, _, _, _, _, _⟩) (v := ?_) rfl (by kernel_rfl) (by kernel_rfl) (by kernel_rfl) (fun _ _ _ h => h) (Or.inl ⟨by kernel_rfl, ?_⟩) (by assumption) ?_
          rotate_left
          · (intro ww hSw; (try dsimp only at hSw); go_simp); (try with_reducible rfl)
          (try simp only [Act.put, List.setIfInBounds_toArray, List.set_cons_zero, List.set_cons_succ])
          refine wpAnyH_take (i := 2) (oi := ⟨some 13, _, _, _, _, _⟩) (v := ?_) rfl (by kernel_rfl) (by kernel_rfl) (by kernel_rfl) (fun _ _ _ h => h) (Or.inl ⟨by kernel_rfl, ?_⟩) (by assumption) ?_
          rotate_left
          · (intro ww hSw; (try dsimp only at hSw); go_simp); (try with_reducible rfl)
          (try simp only [Act.put, List.setIfInBounds_toArray, List.set_cons_zero, List.set_cons_succ])
          refine wpAnyH_take (i := 3) (oi := ⟨some 14, _, _, _, _, _⟩) (v := ?_) rfl (by kernel_rfl) (by kernel_rfl) (by kernel_rfl) (fun _ _ _ h => h) (Or.inl ⟨by kernel_rfl, ?_⟩) (by assumption) ?_
          rotate_left
          · (intro ww hSw; (try dsimp only at hSw); obtain ⟨c0, c1, c2, c3⟩ := XN.out; replace c0 := keptC c0 hSw hpx; replace c1 := keptC c1 hSw hpx; replace c2 := keptC c2 hSw hpx; replace c3 := keptC c3 hSw hpx; go_simp); (try with_reducible rfl)
          (try simp only [Act.put, List.setIfInBounds_toArray, List.set_cons_zero, List.set_cons_succ])
          refine wpAnyH_take (i := 4) (oi := ⟨some 15, _, _, _, _, _⟩) (v := ?_) rfl (by kernel_rfl) (by kernel_rfl) (by kernel_rfl) (fun _ _ _ h => h) (Or.inl ⟨by kernel_rfl, ?_⟩) (by assumption) ?_
          rotate_left
          · (intro ww hSw; (try dsimp only at hSw); go_simp); (try with_reducible rfl)
          (try simp only [Act.put, List.setIfInBounds_toArray, List.set_cons_zero, List.set_cons_succ])
          refine wpAnyH_take (i := 5) (oi := ⟨some 16, _, _, _, _, _⟩) (v := ?_) rfl (by kernel_rfl) (by kernel_rfl) (by kernel_rfl) (fun _ _ _ h => h) (Or.inl ⟨by kernel_rfl, ?_⟩) (by assumption) ?_
          rotate_left
          · (intro ww hSw; (try dsimp only at hSw); go_simp); (try with_reducible rfl)
          (try simp only [Act.put, List.setIfInBounds_toArray, List.set_cons_zero, List.set_cons_succ])
          refine wpAnyH_take (i := 6) (oi := ⟨some 17, _, _, _, _, _⟩) (v := ?_) rfl (by kernel_rfl) (by kernel_rfl) (by kernel_rfl) (fun _ _ _ h => h) (Or.inl ⟨by kernel_rfl, ?_⟩) (by assumption) ?_
          rotate_left
          · (intro ww hSw; (try dsimp only at hSw); go_simp); (try with_reducible rfl)
          (try simp only [Act.put, List.setIfInBounds_toArray, List.set_cons_zero, List.set_cons_succ])
          refine wpAnyH_take (i := 7) (oi := ⟨some 18, _, _, _, _, _⟩) (v := .slice (some ⟨X, 0, none⟩) n 3) rfl (by kernel_rfl) (by kernel_rfl) (by kernel_rfl) (fun _ _ _ h => h) (Or.inl ⟨by kernel_rfl, ?_⟩) (by assumption) ?_
          · (intro ww hSw; (try dsimp only at hSw); have h1 : (0 : Int) ≤ (n : Int) := g0; have h2 : (n : Int) ≤ 3 := (by omega); go_simp; (try simp))
          (try simp only [Act.put, List.setIfInBounds_toArray, List.set_cons_zero, List.set_cons_succ])
          refine wpAnyH_take (i := 8) (oi := ⟨some 19, _, _, _, _, _⟩) (v := ?_) rfl (by kernel_rfl) (by kernel_rfl) (by kernel_rfl) (fun _ _ _ h => h) (Or.inl ⟨by kernel_rfl, ?_⟩) (by assumption) ?_
          rotate_left
          · (intro ww hSw; (try dsimp only at hSw); go_simp); (try with_reducible rfl)
          (try simp only [Act.put, List.setIfInBounds_toArray, List.set_cons_zero, List.set_cons_succ])
          refine wpAnyH_take (i := 9) (oi := ⟨some 20, _, _, _, _, _⟩) (v := ?_) rfl (by kernel_rfl) (by kernel_rfl) (by kernel_rfl) (fun _ _ _ h => h) (Or.inl ⟨by kernel_rfl, ?_⟩) (by assumption) ?_
          rotate_left
          · (intro ww hSw; (try dsimp only at hSw); go_simp); (try with_reducible rfl)
          (try simp only [Act.put, List.setIfInBounds_toArray, List.set_cons_zero, List.set_cons_succ])
          refine wpAnyH_take (i := 10) (oi := ⟨some 21, _, _, _, _, _⟩) (v := ?_) rfl (by kernel_rfl) (by kernel_rfl) (by kernel_rfl) (fun _ _ _ h => h) (Or.inl ⟨by kernel_rfl, ?_⟩) (by assumption) ?_
          rotate_left
          · (intro ww hSw; (try dsimp only at hSw); obtain ⟨c0, c1, c2, c3⟩ := XN.out; replace c0 := keptC c0 hSw hpx; replace c1 := keptC c1 hSw hpx; replace c2 := keptC c2 hSw hpx; replace c3 := keptC c3 hSw hpx; go_simp); (try with_reducible rfl)
          (try simp only [Act.put, List.setIfInBounds_toArray, List.set_cons_zero, List.set_cons_succ])
          refine wpAnyH_ready (rs := [11]) (by kernel_rfl) (by simp) ?_
          refine AllReadyH.cons rfl (fun K hK => ?_) AllReadyH.nil
          go_simp
          refine (AMH.out _ (by first | exact HX2.out | exact blkDrew HX2.out)).mono ?_
          rintro e w3 ⟨rfl, hbv⟩
          (first | replace hbv := from_drew hbv | skip)
          have HX3 := Lib.hid (blk_on HX2.out hbv hpx)
          have HB3 := Lib.hid (first_below HB.out hbv)
          have HO3 := Lib.hid (show World.ownsRow _ _ _ _ _ _ _ from rowOn HO.out hbv)
          go_wp2_with fail
          refine hK.out _ _ ?_ (fun hHeld => ?_)
          · (try dsimp only); first | exact hbv | exact hbv.drew
          clear hK K
          (try simp only [Act.put, List.setIfInBounds_toArray, List.set_cons_zero, List.set_cons_succ])
          refine wpAnyH_take (i := 12) (oi := ⟨some 23, _, _, _, _, _⟩) (v := ?_) rfl (by kernel_rfl) (by kernel_rfl) (by kernel_rfl) (fun _ _ _ h => h) (Or.inl ⟨by kernel_rfl, ?_⟩) (by assumption) ?_
          rotate_left
          · (intro ww hSw; (try dsimp only at hSw); go_simp); (try with_reducible rfl)
          (try simp only [Act.put, List.setIfInBounds_toArray, List.set_cons_zero, List.set_cons_succ])
          refine wpAnyH_take (i := 13) (oi := ⟨some 24, _, _, _, _, _⟩) (v := ?_) rfl (by kernel_rfl) (by kernel_rfl) (by kernel_rfl) (fun _ _ _ h => h) (Or.inl ⟨by kernel_rfl, ?_⟩) (by assumption) ?_
          rotate_left
          · (intro ww hSw; (try dsimp only at hSw); go_simp); (try with_reducible rfl)
          (try simp only [Act.put, List.setIfInBounds_toArray, List.set_cons_zero, List.set_cons_succ])
          refine wpAnyH_done (by kernel_rfl) ?_ _
          go_wp2_with (at_builtin; go_must (refine wpList_append_own_at _ rfl (.tmp 25) (.tmp 27) 52 rfl w.heap.size 3 i0 (.int .i64 0) 1 8 Try.underlying52 hi hz0 hz1 hz2 rfl (by decide) _ _ _ rfl (HO3.out.alloc _) ⟨w3.heap.size, 0, none⟩ 1 1 [.int .i64 n] rfl rfl (cell_one' _ _ _ rfl) (by intro u hu; simp at hu; rw [hu]; rfl) (by have := hfl.out; unfold maxLen; omega) (by have := hfl.out; omega) (by have := HB3.out.size; simp; omega) ?_; intro v4 w4 hO4 hG4 hN4 hA4; have HO4 := Lib.hid hO4; clear hO4 hN4; have HG4 := Lib.hid hG4; clear hG4 hA4))
          go_roundw
          case rel =>
            refine ⟨n + 1, by omega, by go_num, ?_, ?_, ?_⟩
            · rw [E.out, List.length_append, intCells_append]; exact HO4.out
            · have bx := blk_on HX3.out (box_below _ (.cells #[.int .i64 n] 3)) (blk_lt HX3.out)
              show _ = _
              rw [HG4.out.block X (blk_lt bx) (fun c => hrow.out c.symm)]; exact bx
            · exact (HB3.out.alloc HB3.out.size _).grown HG4.out (by have := HB3.out.size; simp; omega) (fun z hz => (HO.out.lt z hz).1)
          case measure => simp [intOf]; omega
        · have E := Lib.hid (FN (fun c => hin c.2))
          rw [decide_eq_true hin] at AM
          have AMH := Lib.hid AM
          clear FY FN AM h4 hin
          generalize at3 p n = y at XN hq AMH
          go_wp2_with fail
          refine wp_region_held_drew (S := (fun W => Below wr.heap.size wr W)) (by kernel_rfl) ?_ (fun hHeld => ?_)
          · (try dsimp only); first | exact Below.refl _ _ | exact (Below.refl _ _).drew
          refine wpAnyH_take (i := 0) (oi := ⟨some 11, _, _, _, _, _⟩) (v := ?_) rfl (by kernel_rfl) (by kernel_rfl) (by kernel_rfl) (fun _ _ _ h => h) (Or.inl ⟨by kernel_rfl, ?_⟩) (by assumption) ?_
          rotate_left
          · (intro ww hSw; (try dsimp only at hSw); go_simp); (try with_reducible rfl)
          (try simp only [Act.put, List.setIfInBounds_toArray, List.set_cons_zero, List.set_cons_succ])
          refine wpAnyH_take (i := 1) (oi := ⟨some 12, _, _, _, _, _⟩) (v := ?_) rfl (by kernel_rfl) (by kernel_rfl) (by kernel_rfl) (fun _ _ _ h => h) (Or.inl ⟨by kernel_rfl, ?_⟩) (by assumption) ?_
          rotate_left
          · (intro ww hSw; (try dsimp only at hSw); go_simp); (try with_reducible rfl)
          (try simp only [Act.put, List.setIfInBounds_toArray, List.set_cons_zero, List.set_cons_succ])
          refine wpAnyH_take (i := 2) (oi := ⟨some 13, _, _, _, _, _⟩) (v := ?_) rfl (by kernel_rfl) (by kernel_rfl) (by kernel_rfl) (fun _ _ _ h => h) (Or.inl ⟨by kernel_rfl, ?_⟩) (by assumption) ?_
          rotate_left
          · (intro ww hSw; (try dsimp only at hSw); go_simp); (try with_reducible rfl)
          (try simp only [Act.put, List.setIfInBounds_toArray, List.set_cons_zero, List.set_cons_succ])
          refine wpAnyH_take (i := 3) (oi := ⟨some 14, _, _, _, _, _⟩) (v := ?_) rfl (by kernel_rfl) (by kernel_rfl) (by kernel_rfl) (fun _ _ _ h => h) (Or.inl ⟨by kernel_rfl, ?_⟩) (by assumption) ?_
          rotate_left
          · (intro ww hSw; (try dsimp only at hSw); obtain ⟨c0, c1, c2, c3⟩ := XN.out; replace c0 := keptC c0 hSw hpx; replace c1 := keptC c1 hSw hpx; replace c2 := keptC c2 hSw hpx; replace c3 := keptC c3 hSw hpx; go_simp); (try with_reducible rfl)
          (try simp only [Act.put, List.setIfInBounds_toArray, List.set_cons_zero, List.set_cons_succ])
          refine wpAnyH_take (i := 4) (oi := ⟨some 15, _, _, _, _, _⟩) (v := ?_) rfl (by kernel_rfl) (by kernel_rfl) (by kernel_rfl) (fun _ _ _ h => h) (Or.inl ⟨by kernel_rfl, ?_⟩) (by assumption) ?_
          rotate_left
          · (intro ww hSw; (try dsimp only at hSw); go_simp); (try with_reducible rfl)
          (try simp only [Act.put, List.setIfInBounds_toArray, List.set_cons_zero, List.set_cons_succ])
          refine wpAnyH_take (i := 5) (oi := ⟨some 16, _, _, _, _, _⟩) (v := ?_) rfl (by kernel_rfl) (by kernel_rfl) (by kernel_rfl) (fun _ _ _ h => h) (Or.inl ⟨by kernel_rfl, ?_⟩) (by assumption) ?_
          rotate_left
          · (intro ww hSw; (try dsimp only at hSw); go_simp); (try with_reducible rfl)
          (try simp only [Act.put, List.setIfInBounds_toArray, List.set_cons_zero, List.set_cons_succ])
          refine wpAnyH_take (i := 6) (oi := ⟨some 17, _, _, _, _, _⟩) (v := ?_) rfl (by kernel_rfl) (by kernel_rfl) (by kernel_rfl) (fun _ _ _ h => h) (Or.inl ⟨by kernel_rfl, ?_⟩) (by assumption) ?_
          rotate_left
          · (intro ww hSw; (try dsimp only at hSw); go_simp); (try with_reducible rfl)
          (try simp only [Act.put, List.setIfInBounds_toArray, List.set_cons_zero, List.set_cons_succ])
          refine wpAnyH_take (i := 7) (oi := ⟨some 18, _, _, _, _, _⟩) (v := .slice (some ⟨X, 0, none⟩) n 3) rfl (by kernel_rfl) (by kernel_rfl) (by kernel_rfl) (fun _ _ _ h => h) (Or.inl ⟨by kernel_rfl, ?_⟩) (by assumption) ?_
          · (intro ww hSw; (try dsimp only at hSw); have h1 : (0 : Int) ≤ (n : Int) := g0; have h2 : (n : Int) ≤ 3 := (by omega); go_simp; (try simp))
          (try simp only [Act.put, List.setIfInBounds_toArray, List.set_cons_zero, List.set_cons_succ])
          refine wpAnyH_take (i := 8) (oi := ⟨some 19, _, _, _, _, _⟩) (v := ?_) rfl (by kernel_rfl) (by kernel_rfl) (by kernel_rfl) (fun _ _ _ h => h) (Or.inl ⟨by kernel_rfl, ?_⟩) (by assumption) ?_
          rotate_left
          · (intro ww hSw; (try dsimp only at hSw); go_simp); (try with_reducible rfl)
          (try simp only [Act.put, List.setIfInBounds_toArray, List.set_cons_zero, List.set_cons_succ])
          refine wpAnyH_take (i := 9) (oi := ⟨some 20, _, _, _, _, _⟩) (v := ?_) rfl (by kernel_rfl) (by kernel_rfl) (by kernel_rfl) (fun _ _ _ h => h) (Or.inl ⟨by kernel_rfl, ?_⟩) (by assumption) ?_
          rotate_left
          · (intro ww hSw; (try dsimp only at hSw); go_simp); (try with_reducible rfl)
          (try simp only [Act.put, List.setIfInBounds_toArray, List.set_cons_zero, List.set_cons_succ])
          refine wpAnyH_take (i := 10) (oi := ⟨some 21, _, _, _, _, _⟩) (v := ?_) rfl (by kernel_rfl) (by kernel_rfl) (by kernel_rfl) (fun _ _ _ h => h) (Or.inl ⟨by kernel_rfl, ?_⟩) (by assumption) ?_
          rotate_left
          · (intro ww hSw; (try dsimp only at hSw); obtain ⟨c0, c1, c2, c3⟩ := XN.out; replace c0 := keptC c0 hSw hpx; replace c1 := keptC c1 hSw hpx; replace c2 := keptC c2 hSw hpx; replace c3 := keptC c3 hSw hpx; go_simp); (try with_reducible rfl)
          (try simp only [Act.put, List.setIfInBounds_toArray, List.set_cons_zero, List.set_cons_succ])
          refine wpAnyH_ready (rs := [11]) (by kernel_rfl) (by simp) ?_
          refine AllReadyH.cons rfl (fun K hK => ?_) AllReadyH.nil
          go_simp
          refine (AMH.out _ (by first | exact HX2.out | exact blkDrew HX2.out)).mono ?_
          rintro e w3 ⟨rfl, hbv⟩
          (first | replace hbv := from_drew hbv | skip)
          have HX3 := Lib.hid (blk_on HX2.out hbv hpx)
          have HB3 := Lib.hid (first_below HB.out hbv)
          have HO3 := Lib.hid (show World.ownsRow _ _ _ _ _ _ _ from rowOn HO.out hbv)
          go_wp2_with fail
          refine hK.out _ _ ?_ (fun hHeld => ?_)
          · (try dsimp only); first | exact hbv | exact hbv.drew
          clear hK K
          (try simp only [Act.put, List.setIfInBounds_toArray, List.set_cons_zero, List.set_cons_succ])
          refine wpAnyH_take (i := 12) (oi := ⟨some 23, _, _, _, _, _⟩) (v := ?_) rfl (by kernel_rfl) (by kernel_rfl) (by kernel_rfl) (fun _ _ _ h => h) (Or.inl ⟨by kernel_rfl, ?_⟩) (by assumption) ?_
          rotate_left
          · (intro ww hSw; (try dsimp only at hSw); go_simp); (try with_reducible rfl)
          (try simp only [Act.put, List.setIfInBounds_toArray, List.set_cons_zero, List.set_cons_succ])
          refine wpAnyH_take (i := 13) (oi := ⟨some 24, _, _, _, _, _⟩) (v := ?_) rfl (by kernel_rfl) (by kernel_rfl) (by kernel_rfl) (fun _ _ _ h => h) (Or.inl ⟨by kernel_rfl, ?_⟩) (by assumption) ?_
          rotate_left
          · (intro ww hSw; (try dsimp only at hSw); go_simp); (try with_reducible rfl)
          (try simp only [Act.put, List.setIfInBounds_toArray, List.set_cons_zero, List.set_cons_succ])
          refine wpAnyH_done (by kernel_rfl) ?_ _
          go_wp2
          go_roundw
          case rel => exact ⟨n + 1, by omega, by go_num, by rw [E.out]; exact HO3.out, HX3.out, HB3.out⟩
          case measure => simp [intOf]; omega
      · have hq : ((at3 p n).k == 4) = false := beq_eq_false_iff_ne.2 h4
        have E := Lib.hid (FN (fun c => h4 c.1))
        clear FY FN AM h4
        generalize at3 p n = y at XN hq
        go_wp2_with fail
        refine wp_region_held_drew (S := (fun W => Below wr.heap.size wr W)) (by kernel_rfl) ?_ (fun hHeld => ?_)
        · (try dsimp only); first | exact Below.refl _ _ | exact (Below.refl _ _).drew
        refine wpAnyH_take (i := 0) (oi := ⟨some 11, _, _, _, _, _⟩) (v := ?_) rfl (by kernel_rfl) (by kernel_rfl) (by kernel_rfl) (fun _ _ _ h => h) (Or.inl ⟨by kernel_rfl, ?_⟩) (by assumption) ?_
        rotate_left
        · (intro ww hSw; (try dsimp only at hSw); go_simp); (try with_reducible rfl)
        (try simp only [Act.put, List.setIfInBounds_toArray, List.set_cons_zero, List.set_cons_succ])
        refine wpAnyH_take (i := 1) (oi := ⟨some 12, _, _, _, _, _⟩) (v := ?_) rfl (by kernel_rfl) (by kernel_rfl) (by kernel_rfl) (fun _ _ _ h => h) (Or.inl ⟨by kernel_rfl, ?_⟩) (by assumption) ?_
        rotate_left
        · (intro ww hSw; (try dsimp only at hSw); go_simp); (try with_reducible rfl)
        (try simp only [Act.put, List.setIfInBounds_toArray, List.set_cons_zero, List.set_cons_succ])
        refine wpAnyH_take (i := 2) (oi := ⟨some 13, _, _, _, _, _⟩) (v := ?_) rfl (by kernel_rfl) (by kernel_rfl) (by kernel_rfl) (fun _ _ _ h => h) (Or.inl ⟨by kernel_rfl, ?_⟩) (by assumption) ?_
        rotate_left
        · (intro ww hSw; (try dsimp only at hSw); go_simp); (try with_reducible rfl)
        (try simp only [Act.put, List.setIfInBounds_toArray, List.set_cons_zero, List.set_cons_succ])
        refine wpAnyH_take (i := 3) (oi := ⟨some 14, _, _, _, _, _⟩) (v := ?_) rfl (by kernel_rfl) (by kernel_rfl) (by kernel_rfl) (fun _ _ _ h => h) (Or.inl ⟨by kernel_rfl, ?_⟩) (by assumption) ?_
        rotate_left
        · (intro ww hSw; (try dsimp only at hSw); obtain ⟨c0, c1, c2, c3⟩ := XN.out; replace c0 := keptC c0 hSw hpx; replace c1 := keptC c1 hSw hpx; replace c2 := keptC c2 hSw hpx; replace c3 := keptC c3 hSw hpx; go_simp); (try with_reducible rfl)
        (try simp only [Act.put, List.setIfInBounds_toArray, List.set_cons_zero, List.set_cons_succ])
        refine wpAnyH_take (i := 4) (oi := ⟨some 15, _, _, _, _, _⟩) (v := ?_) rfl (by kernel_rfl) (by kernel_rfl) (by kernel_rfl) (fun _ _ _ h => h) (Or.inl ⟨by kernel_rfl, ?_⟩) (by assumption) ?_
        rotate_left
        · (intro ww hSw; (try dsimp only at hSw); go_simp); (try with_reducible rfl)
        (try simp only [Act.put, List.setIfInBounds_toArray, List.set_cons_zero, List.set_cons_succ])
        refine wpAnyH_take (i := 5) (oi := ⟨some 16, _, _, _, _, _⟩) (v := ?_) rfl (by kernel_rfl) (by kernel_rfl) (by kernel_rfl) (fun _ _ _ h => h) (Or.inl ⟨by kernel_rfl, ?_⟩) (by assumption) ?_
        rotate_left
        · (intro ww hSw; (try dsimp only at hSw); go_simp); (try with_reducible rfl)
        (try simp only [Act.put, List.setIfInBounds_toArray, List.set_cons_zero, List.set_cons_succ])
        refine wpAnyH_take (i := 6) (oi := ⟨some 17, _, _, _, _, _⟩) (v := undef) rfl (by kernel_rfl) (by kernel_rfl) (by kernel_rfl) (fun _ _ _ h => h) (Or.inr ⟨by kernel_rfl, rfl⟩) (by assumption) ?_
        (try simp only [Act.put, List.setIfInBounds_toArray, List.set_cons_zero, List.set_cons_succ])
        refine wpAnyH_take (i := 7) (oi := ⟨some 18, _, _, _, _, _⟩) (v := undef) rfl (by kernel_rfl) (by kernel_rfl) (by kernel_rfl) (fun _ _ _ h => h) (Or.inr ⟨by kernel_rfl, rfl⟩) (by assumption) ?_
        (try simp only [Act.put, List.setIfInBounds_toArray, List.set_cons_zero, List.set_cons_succ])
        refine wpAnyH_take (i := 8) (oi := ⟨some 19, _, _, _, _, _⟩) (v := undef) rfl (by kernel_rfl) (by kernel_rfl) (by kernel_rfl) (fun _ _ _ h => h) (Or.inr ⟨by kernel_rfl, rfl⟩) (by assumption) ?_
        (try simp only [Act.put, List.setIfInBounds_toArray, List.set_cons_zero, List.set_cons_succ])
        refine wpAnyH_take (i := 9) (oi := ⟨some 20, _, _, _, _, _⟩) (v := undef) rfl (by kernel_rfl) (by kernel_rfl) (by kernel_rfl) (fun _ _ _ h => h) (Or.inr ⟨by kernel_rfl, rfl⟩) (by assumption) ?_
        (try simp only [Act.put, List.setIfInBounds_toArray, List.set_cons_zero, List.set_cons_succ])
        refine wpAnyH_take (i := 10) (oi := ⟨some 21, _, _, _, _, _⟩) (v := undef) rfl (by kernel_rfl) (by kernel_rfl) (by kernel_rfl) (fun _ _ _ h => h) (Or.inr ⟨by kernel_rfl, rfl⟩) (by assumption) ?_
        (try simp only [Act.put, List.setIfInBounds_toArray, List.set_cons_zero, List.set_cons_succ])
        refine wpAnyH_take (i := 11) (oi := ⟨some 22, _, _, _, _, _⟩) (v := undef) rfl (by kernel_rfl) (by kernel_rfl) (by kernel_rfl) (fun _ _ _ h => h) (Or.inr ⟨by kernel_rfl, rfl⟩) (by assumption) ?_
        (try simp only [Act.put, List.setIfInBounds_toArray, List.set_cons_zero, List.set_cons_succ])
        refine wpAnyH_take (i := 12) (oi := ⟨some 23, _, _, _, _, _⟩) (v := undef) rfl (by kernel_rfl) (by kernel_rfl) (by kernel_rfl) (fun _ _ _ h => h) (Or.inr ⟨by kernel_rfl, rfl⟩) (by assumption) ?_
        (try simp only [Act.put, List.setIfInBounds_toArray, List.set_cons_zero, List.set_cons_succ])
        refine wpAnyH_take (i := 13) (oi := ⟨some 24, _, _, _, _, _⟩) (v := ?_) rfl (by kernel_rfl) (by kernel_rfl) (by kernel_rfl) (fun _ _ _ h => h) (Or.inl ⟨by kernel_rfl, ?_⟩) (by assumption) ?_
        rotate_left
        · (intro ww hSw; (try dsimp only at hSw); go_simp); (try with_reducible rfl)
        (try simp only [Act.put, List.setIfInBounds_toArray, List.set_cons_zero, List.set_cons_succ])
        refine wpAnyH_done (by kernel_rfl) ?_ _
        go_wp2
        go_roundw
        case rel => exact ⟨n + 1, by omega, by go_num, by rw [E.out]; exact HO.out, HX2.out, by first | exact HB.out | exact HB.out.drew⟩
        case measure => simp [intOf]; omega
    · obtain rfl : n = 3 := by omega
      go_wp2
      go_ret
      exact ⟨_, rfl, hown, hbw⟩

end Go.Proofs.Ytnojdchodmogbaa
