/- A row of a table: package store's row. -/
import Derived.Test.YtnojdchodmogbaaStoFirst
import Derived.Deep.OwnRows
namespace Go.Proofs.Ytnojdchodmogbaa
open Go.RowKit

/- terms as cells -/
def cellsT (l : List TermL) : List Value := l.flatMap TermL.cells
theorem cellsT_length (l : List TermL) : (cellsT l).length = l.length * 4 := by
  induction l with
  | nil => rfl
  | cons t r ih => unfold cellsT at *; rw [List.flatMap_cons, List.length_append, ih, List.length_cons]; show 4 + _ = _; omega
theorem cellsT_append (l r : List TermL) : cellsT (l ++ r) = cellsT l ++ cellsT r := by unfold cellsT; exact List.flatMap_append
theorem cellsT_cons (t : TermL) (r : List TermL) : cellsT (t :: r) = t.cells ++ cellsT r := by unfold cellsT; exact List.flatMap_cons
theorem cellsT_at : ∀ (L : List TermL) (k : Nat) (hk : k < L.length) (i : Nat), i < 4 → (cellsT L)[k * 4 + i]? = L[k].cells[i]? := by
  intro L
  induction L with
  | nil => intro k hk; simp at hk
  | cons t r ih =>
    intro k hk i hi
    rw [cellsT_cons]
    cases k with
    | zero => rw [List.getElem?_append_left (by show _ < 4; omega)]; simp
    | succ k =>
      rw [List.getElem?_append_right (by show 4 ≤ _; omega)]
      rw [show (k + 1) * 4 + i - t.cells.length = k * 4 + i by show (k + 1) * 4 + i - 4 = _; omega]
      exact ih k (by simpa using hk) i hi
theorem cellsT_set (a : List TermL) (x y : TermL) (r : List TermL) : (cellsT (a ++ x :: r)).take (a.length * 4) ++ y.cells ++ (cellsT (a ++ x :: r)).drop (a.length * 4 + y.cells.length) = cellsT (a ++ y :: r) := by
  rw [cellsT_append, cellsT_cons, cellsT_append, cellsT_cons, ← cellsT_length a, List.take_left]
  rw [show (cellsT a).length + y.cells.length = (cellsT a ++ x.cells).length by rw [List.length_append]; rfl, ← List.append_assoc (cellsT a), List.drop_left, List.append_assoc]
theorem info_term : (Try.prog.info? 23).map (fun i => (i.zero, i.size, i.bytes)) = some (some noTerm.v, 4, 56) := by kernel_rfl
theorem made_terms (n : Nat) (h : n ≤ 3) : (madeCells noTerm.v.cells (n * 4)).toList = cellsT (List.replicate n noTerm) := by
  rcases (by omega : n = 0 ∨ n = 1 ∨ n = 2 ∨ n = 3) with rfl | rfl | rfl | rfl <;> kernel_rfl
/- a row that was made whole -/
theorem blk_made {w : World} {B g n size : Nat} {e : TypeId} {xs : List Value} (h : w.ownsRow B e size (.slice (some ⟨g, 0, none⟩) n n) n xs) : Blk w g e xs.toArray := by
  rcases h.2 with ⟨e0, _⟩ | ⟨g', cap, cur, e0, hb, hg, hn, hm, hs, ht⟩
  · cases e0
  · injection e0 with e1 _ e3
    injection e1 with e1
    injection e1 with e1
    subst e1; subst e3
    rw [List.take_of_length_le (by rw [Array.length_toList, hs]; exact Nat.le_refl _)] at ht
    unfold Blk
    rw [← ht]
    simpa using hg
/- a term stored into a row; the world behind it is a name -/
theorem term_abs {ops : Array Oper} {rest : List Oper} {o : Oper} {a : Act} {w : World} {Q : Exit → Act → World → Prop} (x y : Operand) (ho : o.op = .store 23 x y ∧ o.guard = none)
    (g off : Nat) (cells : Array Value) (hx : a.eval x = .pointer (some ⟨g, off, none⟩)) (hy : a.eval y = .agg cells) (hi : (Try.prog.info? 23).map (·.size) = some cells.size) (h1 : cells.all (·.oneCell') = true)
    (xs ys : List Value) (hR : Blk w g 23 xs.toArray) (e : xs.take off ++ cells.toList ++ xs.drop (off + cells.toList.length) = ys) (hfit : off + cells.toList.length ≤ xs.length)
    (h : ∀ w', Hid (Blk w' g 23 ys.toArray) → Hid (w.grownBy w' (some g)) → wpList Try.prog ops Q rest (a.put o.dst undef) w') : wpList Try.prog ops Q (o :: rest) a w := by
  refine wpList_store_at ho.2 23 x y ho.1 g off cells hx hy 23 xs.toArray hR hi (by simpa using hfit) h1 (h _ ?_ (grown_set _ _ _))
  show Blk _ _ _ _
  rw [List.toList_toArray, e]
  exact blk_row hR _
theorem term_arr : 72 ≠ 23 := by decide
theorem blk_kinds {w : World} {X Y : Nat} {T U : TypeId} {a b : Array Value} (h : Blk w X T a) (k : Blk w Y U b) (hT : T ≠ U) : X ≠ Y := by
  intro e
  subst e
  unfold Blk at *
  rw [k] at h
  injection h with h
  injection h with _ h2 _
  exact hT h2.symm

/- what row leaves -/
def RowT (l : List TermL) (w : World) (e : Ending) (w' : World) : Prop := ∃ g, e = .returned (.slice (some ⟨g, 0, none⟩) l.length l.length) ∧ w.heap.size ≤ g ∧ Blk w' g 23 (cellsT l).toArray ∧ Below w.heap.size w w'

theorem ints_cell {w : World} {g : Nat} {l : List Nat} (h : ∀ j u, (intCells l)[j]? = some u → w.cell? ⟨g, j, none⟩ = some u) (j : Nat) (hj : j < l.length) : w.cell? ⟨g, j, none⟩ = some (.int .i64 (l[j] : Nat)) :=
  h j _ (by simp [intCells, hj])

set_option maxRecDepth 100000 in
set_option maxHeartbeats 4000000 in
theorem row_calls (p : TripL) (l : List Nat) (v : Value) (w : World) (hl : l.length ≤ 3) (h3 : ∀ i ∈ l, i < 3) (hv : Reads w v l.length (intCells l)) :
    Calls Try.prog 20 #[p.v, v] w (RowT (l.map (at3 p)) w) := by
  obtain ⟨i0, hi, hz0, hz1, hz2⟩ := info_parts info_term
  obtain ⟨N, hN⟩ : ∃ N, l.length = N := ⟨_, rfl⟩
  have hcases : (N = 0 ∧ v = .slice none 0 0) ∨ ∃ g cap, v = .slice (some ⟨g, 0, none⟩) N cap ∧ g < w.heap.size ∧ N ≤ cap ∧ ∀ j (h : j < l.length), w.cell? ⟨g, j, none⟩ = some (.int .i64 (l[j] : Nat)) := by
    rw [hN] at hv
    rcases hv with ⟨rfl, h0⟩ | ⟨g, cap, rfl, hg, hn, hm, hc⟩
    · exact .inl ⟨h0, rfl⟩
    · exact .inr ⟨g, cap, rfl, hg, hn, fun j hj => ints_cell hc j hj⟩
  clear hv
  rw [hN] at hl
  have HN := Lib.hid hN
  have H3 := Lib.hid h3
  clear hN h3
  simp only [TripL.v]
  rcases hcases with ⟨h0, rfl⟩ | ⟨g, cap, rfl, hg, hcap, hc⟩
  · subst h0
    go_enter Try.func20, Try.ntmps20
    go_wp2_with fail
    refine (sterms_calls _ _ _ _ _ _ _ _ _ _ _ _ _).mono ?_
    rintro e w1 ⟨rfl, hb1⟩
    replace hb1 := one_box hb1
    go_wp2_with (first | (refine whole_abs 72 (.tmp 5) (.tmp 10) ⟨rfl, rfl⟩ w1.heap.size #[.int .i64 p.s.k, .string (bs p.s.x), .string (bs p.s.y), .string (bs p.s.z), .int .i64 p.p.k, .string (bs p.p.x), .string (bs p.p.y), .string (bs p.p.z), .int .i64 p.o.k, .string (bs p.o.x), .string (bs p.o.y), .string (bs p.o.z)] (by kernel_rfl) (by kernel_rfl) 72 _ (blk_new _ _ _) (by kernel_rfl) (by kernel_rfl) (by kernel_rfl) ?_; intro w2 hX hG) | (refine wpList_make_full _ rfl (.tmp 12) (.tmp 12) 54 rfl w.heap.size 23 i0 noTerm.v 4 Try.underlying54 hi hz0 hz1 .i64 .i64 0 0 0 (by kernel_rfl) (by kernel_rfl) rfl rfl (by omega) (by unfold maxLen; omega) (by have := (below_whole hb1 hG.out).size; omega) ?_; intro w3 hO hG3; have HO := Lib.hid hO; clear hO; have HG3 := Lib.hid hG3; clear hG3))
    have hb2 := Lib.hid (below_whole hb1 hG.out)
    go_loopw [16] (fun i wr => i = .int .i64 0 ∧ wr = w3) (fun _ _ => 0)
    case atStart => exact ⟨rfl, rfl⟩
    case round =>
      obtain ⟨rfl, rfl⟩ := hrel
      go_wp2
      go_ret
      have e : l = [] := List.eq_nil_of_length_eq_zero HN.out
      subst e
      have hO2 := HO.out
      rw [made_terms 0 (by omega)] at hO2
      exact ⟨_, rfl, hb2.out.size, blk_made hO2, hb2.out.grown HG3.out hb2.out.size (fun k hk => by cases hk)⟩
  · go_enter Try.func20, Try.ntmps20
    go_wp2_with fail
    refine (sterms_calls _ _ _ _ _ _ _ _ _ _ _ _ _).mono ?_
    rintro e w1 ⟨rfl, hb1⟩
    replace hb1 := one_box hb1
    go_wp2_with (first | (refine whole_abs 72 (.tmp 5) (.tmp 10) ⟨rfl, rfl⟩ w1.heap.size #[.int .i64 p.s.k, .string (bs p.s.x), .string (bs p.s.y), .string (bs p.s.z), .int .i64 p.p.k, .string (bs p.p.x), .string (bs p.p.y), .string (bs p.p.z), .int .i64 p.o.k, .string (bs p.o.x), .string (bs p.o.y), .string (bs p.o.z)] (by kernel_rfl) (by kernel_rfl) 72 _ (blk_new _ _ _) (by kernel_rfl) (by kernel_rfl) (by kernel_rfl) ?_; intro w2 hX hG) | (refine wpList_make_full _ rfl (.tmp 12) (.tmp 12) 54 rfl w.heap.size 23 i0 noTerm.v 4 Try.underlying54 hi hz0 hz1 .i64 .i64 N N N (by kernel_rfl) (by kernel_rfl) rfl rfl (by rw [hz2]; omega) (by unfold maxLen; omega) (by have := (below_whole hb1 hG.out).size; omega) ?_; intro w3 hO hG3; have HO := Lib.hid hO; clear hO; have HG3 := Lib.hid hG3; clear hG3))
    have hb2 := Lib.hid (below_whole hb1 hG.out)
    have hb3 := Lib.hid (hb2.out.grown HG3.out hb2.out.size (fun k hk => by cases hk))
    have hX3 : Hid (Blk w3 w1.heap.size 72 #[.int .i64 p.s.k, .string (bs p.s.x), .string (bs p.s.y), .string (bs p.s.z), .int .i64 p.p.k, .string (bs p.p.x), .string (bs p.p.y), .string (bs p.p.z), .int .i64 p.o.k, .string (bs p.o.x), .string (bs p.o.y), .string (bs p.o.z)]) := by
      show _ = _
      rw [HG3.out.block _ (blk_lt hX.out) (by simp)]; exact hX.out
    have hX3' : Hid (Blk w3 w1.heap.size 72 (cells12 p)) := hX3.out
    have hR3 : Hid (Blk w3 w2.heap.size 23 (cellsT (List.replicate N noTerm)).toArray) := by
      show Blk _ _ _ _
      have := blk_made HO.out
      rwa [made_terms N hl] at this
    obtain ⟨X, hXe⟩ : ∃ X, w1.heap.size = X := ⟨_, rfl⟩
    obtain ⟨G, hGe⟩ : ∃ G, w2.heap.size = G := ⟨_, rfl⟩
    have hGw : Hid (w.heap.size ≤ G) := by show _ ≤ _; rw [← hGe]; exact hb2.out.size
    have hXw : Hid (w.heap.size ≤ X) := by show _ ≤ _; rw [← hXe]; exact hb1.size
    rw [hXe] at hX3'
    rw [hGe] at hR3
    simp only [hXe, hGe]
    have HXE := Lib.hid hXe
    clear hXe hGe hX3 hb1 hX hG
    go_loopw [16] (fun i wr => ∃ k : Nat, k ≤ N ∧ i = .int .i64 k ∧ Blk wr G 23 (cellsT ((l.take k).map (at3 p) ++ List.replicate (N - k) noTerm)).toArray ∧ Blk wr X 72 (cells12 p) ∧ Below w.heap.size w wr) (fun i _ => N - (intOf i).toNat)
    case atStart => exact ⟨0, Nat.zero_le _, rfl, by simpa using hR3.out, hX3'.out, hb3.out⟩
    case round =>
      obtain ⟨k, hk, rfl, hR, hX2, hbw⟩ := hrel
      by_cases hlt : k < N
      · have hkl : k < l.length := by rw [HN.out]; exact hlt
        have g1 : (0 : Int) ≤ (k : Int) := by omega
        have g2 : (k : Int) < (N : Int) := by omega
        have ci := keptC (hc k hkl) hbw hg
        have h3k := H3.out l[k] (List.getElem_mem hkl)
        have ht : Hid (l.take (k + 1) = l.take k ++ [l[k]]) := List.take_succ_eq_append_getElem hkl
        have hlen : Hid ((l.take k).length = k) := by show _ = _; rw [List.length_take]; omega
        generalize l[k] = m at ci h3k ht
        have g3 : (0 : Int) ≤ (m : Int) := by omega
        have g4 : (m : Int) < 3 := by omega
        obtain ⟨c0, c1, c2, c3⟩ := blk_at3 hX2 m h3k
        have HEQ : Hid ((cellsT ((l.take k).map (at3 p) ++ List.replicate (N - k) noTerm)).take (k * 4) ++ (at3 p m).cells ++ (cellsT ((l.take k).map (at3 p) ++ List.replicate (N - k) noTerm)).drop (k * 4 + (at3 p m).cells.length) = cellsT ((l.take (k + 1)).map (at3 p) ++ List.replicate (N - (k + 1)) noTerm)) := by
          show _ = _
          obtain ⟨j, hj⟩ : ∃ j, N - k = j + 1 := ⟨N - k - 1, by omega⟩
          have := cellsT_set ((l.take k).map (at3 p)) noTerm (at3 p m) (List.replicate j noTerm)
          rw [List.length_map, hlen.out] at this
          rw [hj, List.replicate_succ, this, ht.out, List.map_append, show N - (k + 1) = j by omega]
          simp
        have HFIT : Hid (k * 4 + 4 ≤ (cellsT ((l.take k).map (at3 p) ++ List.replicate (N - k) noTerm)).length) := by
          show _ ≤ _
          rw [cellsT_length, List.length_append, List.length_map, hlen.out, List.length_replicate]; omega
        generalize at3 p m = y at c0 c1 c2 c3 HEQ
        have HR := Lib.hid hR
        have HX2 := Lib.hid hX2
        have HBW := Lib.hid hbw
        clear hR hX2 hbw
        go_wp2_with (refine term_abs (.tmp 26) (.tmp 25) ⟨rfl, rfl⟩ G (k * 4) #[.int .i64 y.k, .string (bs y.x), .string (bs y.y), .string (bs y.z)] (by kernel_rfl) (by kernel_rfl) (by kernel_rfl) (by kernel_rfl) _ _ HR.out HEQ.out HFIT.out ?_; intro w4 hR4 hG4)
        go_roundw
        case rel =>
          have hX4 : Blk _ X 72 (cells12 p) := (hG4.out.block X (blk_lt HX2.out) (fun c => blk_kinds HX2.out HR.out term_arr (by injection c))).trans HX2.out
          exact ⟨k + 1, by omega, by go_num, hR4.out, hX4, HBW.out.grown hG4.out HBW.out.size (fun z hz => by injection hz with hz; have := hGw.out; omega)⟩
        case measure => simp [intOf]; omega
      · obtain rfl : k = N := by omega
        rw [List.take_of_length_le (by rw [HN.out]; exact Nat.le_refl _), Nat.sub_self, List.replicate_zero, List.append_nil] at hR
        have HR := Lib.hid hR
        clear hR
        go_wp2
        go_ret
        exact ⟨G, by rw [List.length_map, HN.out]; rfl, hGw.out, HR.out, hbw⟩

end Go.Proofs.Ytnojdchodmogbaa
