/- The given places of a pattern: package store's given, refused. -/
import Derived.Test.YtnojdchodmogbaaGreatStoKepts
import Derived.Test.YtnojdchodmogbaaGreatStoPlains
namespace Go.Proofs.YtnojdchodmogbaaGreat
open Go.RowKit

/- a whole array stored into a block that is known whole; the world behind it is a name -/
theorem whole_abs {ops : Array Oper} {rest : List Oper} {o : Oper} {a : Act} {w : World} {Q : Exit → Act → World → Prop} (ty : TypeId) (x y : Operand) (ho : o.op = .store ty x y ∧ o.guard = none)
    (g : Nat) (cells : Array Value) (hx : a.eval x = .pointer (some ⟨g, 0, none⟩)) (hy : a.eval y = .agg cells) (T : TypeId) (old : Array Value) (hg : Blk w g T old) (hi : (Tryz.prog.info? ty).map (·.size) = some cells.size)
    (hold : old.size = cells.size) (h1 : cells.all (·.oneCell') = true)
    (h : ∀ w', Hid (Blk w' g T cells) → Hid (w.grownBy w' (some g)) → wpList Tryz.prog ops Q rest (a.put o.dst undef) w') : wpList Tryz.prog ops Q (o :: rest) a w :=
  wpList_store_row ho.2 ty x y ho.1 g cells hx hy T old hg hi hold h1 (h _ (blk_row hg cells) (grown_set _ _ _))
/- the world behind a box, a call and a new block that is stored into -/
theorem below_whole {w w1 w2 : World} {o : Obj} (h1 : Below w.heap.size w w1) (h2 : (w1.alloc o).grownBy w2 (some w1.heap.size)) : Below w.heap.size w w2 :=
  (h1.alloc h1.size o).grown h2 (by have := h1.size; simp; omega) (fun k hk => by injection hk with hk; have := h1.size; omega)

/- what given keeps between its rounds -/
def GivenR (w : World) (X : Nat) (p : TripL) (f c i : Value) (wr : World) : Prop :=
  ∃ n : Nat, n ≤ 3 ∧ i = .int .i64 n ∧ f = .int .i64 (gv p n).1 ∧ c = .int .i64 (gv p n).2 ∧ Blk wr X 99 (cells12 p) ∧ Below w.heap.size w wr

theorem gv_var {p : TripL} {i : Nat} (h : (at3 p i).k = 4) : gv p (i + 1) = gv p i := by
  conv => lhs; unfold gv
  rw [if_pos h]
theorem gv_turn {p : TripL} {i : Nat} (h : ¬ (at3 p i).k = 4) (h2 : (at3 p ((i + 2) % 3)).k = 4) : gv p (i + 1) = (i, (gv p i).2 + 1) := by
  conv => lhs; unfold gv
  rw [if_neg h, if_pos h2]
theorem gv_stay {p : TripL} {i : Nat} (h : ¬ (at3 p i).k = 4) (h2 : ¬ (at3 p ((i + 2) % 3)).k = 4) : gv p (i + 1) = ((gv p i).1, (gv p i).2 + 1) := by
  conv => lhs; unfold gv
  rw [if_neg h, if_neg h2]

set_option maxRecDepth 100000 in
set_option maxHeartbeats 4000000 in
theorem given_calls (p : TripL) (w : World) :
    Calls Tryz.prog 70 #[p.v] w fun e w' => e = .returned (.tuple #[.int .i64 (gv p 3).1, .int .i64 (gv p 3).2]) ∧ Below w.heap.size w w' := by
  simp only [TripL.v]
  go_enter Tryz.func70, Tryz.ntmps70
  go_wp2_with fail
  refine (sterms_calls _ _ _ _ _ _ _ _ _ _ _ _ _).mono ?_
  rintro e w1 ⟨rfl, hb1⟩
  replace hb1 := one_box hb1
  go_wp2_with (refine whole_abs 99 (.tmp 6) (.tmp 9) ⟨rfl, rfl⟩ w1.heap.size #[.int .i64 p.s.k, .string (bs p.s.x), .string (bs p.s.y), .string (bs p.s.z), .int .i64 p.p.k, .string (bs p.p.x), .string (bs p.p.y), .string (bs p.p.z), .int .i64 p.o.k, .string (bs p.o.x), .string (bs p.o.y), .string (bs p.o.z)] (by kernel_rfl) (by kernel_rfl) 99 _ (blk_new _ _ _) (by kernel_rfl) (by kernel_rfl) (by kernel_rfl) ?_; intro w2 hX hG)
  have hb2 := Lib.hid (below_whole hb1 hG.out)
  obtain ⟨X, hXe⟩ : ∃ X, w1.heap.size = X := ⟨_, rfl⟩
  rw [hXe] at hX
  simp only [hXe]
  have HXE := Lib.hid hXe
  clear hXe hb1 hG
  go_loopw [4, 5, 10] (fun f c i wr => GivenR w X p f c i wr) (fun _ _ i _ => 3 - (intOf i).toNat)
  case atStart => exact ⟨0, by omega, rfl, rfl, rfl, hX.out, hb2.out⟩
  case round =>
    obtain ⟨n, hn, rfl, rfl, rfl, hX2, hbw⟩ := hrel
    have hg2 := gv_le p n hn
    have HX2 := Lib.hid hX2
    have HBW := Lib.hid hbw
    clear hX2 hbw
    rcases (by omega : n = 0 ∨ n = 1 ∨ n = 2 ∨ n = 3) with rfl | rfl | rfl | rfl
    · have q0 : wr.cell? ⟨X, 0, none⟩ = some (.int .i64 p.s.k) := by rw [blk_cell HX2.out]; rfl
      have q2 : wr.cell? ⟨X, 8, none⟩ = some (.int .i64 p.o.k) := by rw [blk_cell HX2.out]; rfl
      have GV := Lib.hid (gv_var (p := p) (i := 0))
      have GT := Lib.hid (gv_turn (p := p) (i := 0))
      have GS := Lib.hid (gv_stay (p := p) (i := 0))
      obtain ⟨f, hf⟩ : ∃ f, (gv p 0).1 = f := ⟨_, rfl⟩
      obtain ⟨c, hc⟩ : ∃ c, (gv p 0).2 = c := ⟨_, rfl⟩
      have hwr : IntKind.i64.wrap ((c : Int) + 1) = (c : Int) + 1 := by simp [IntKind.wrap, IntKind.bits, IntKind.signed]; omega
      rw [hf] at hg2
      simp only [hf, hc]
      have HF := Lib.hid hf
      have HC := Lib.hid hc
      clear hf hc
      by_cases h1 : p.s.k = 4
      · have g1 : (p.s.k == 4) = true := beq_iff_eq.2 h1
        have E := Lib.hid (GV.out h1)
        clear h1
        go_wp2
        go_roundw
        case rel => exact ⟨1, by omega, by go_num, by rw [E.out, HF.out], by rw [E.out, HC.out], HX2.out, HBW.out⟩
        case measure => simp [intOf]
      · have g1 : (p.s.k == 4) = false := beq_eq_false_iff_ne.2 h1
        by_cases h2 : p.o.k = 4
        · have g2 : (p.o.k == 4) = true := beq_iff_eq.2 h2
          have E := Lib.hid (GT.out h1 h2)
          clear h1 h2
          go_wp2
          go_roundw
          case rel => exact ⟨1, by omega, by go_num, by (rw [E.out]) <;> (first | rfl | go_num), by (rw [E.out, HC.out]) <;> (first | rfl | go_num), HX2.out, HBW.out⟩
          case measure => simp [intOf]
        · have g2 : (p.o.k == 4) = false := beq_eq_false_iff_ne.2 h2
          have E := Lib.hid (GS.out h1 h2)
          clear h1 h2
          go_wp2
          go_roundw
          case rel => exact ⟨1, by omega, by go_num, by rw [E.out, HF.out], by (rw [E.out, HC.out]) <;> (first | rfl | go_num), HX2.out, HBW.out⟩
          case measure => simp [intOf]
    · have q1 : wr.cell? ⟨X, 4, none⟩ = some (.int .i64 p.p.k) := by rw [blk_cell HX2.out]; rfl
      have q0 : wr.cell? ⟨X, 0, none⟩ = some (.int .i64 p.s.k) := by rw [blk_cell HX2.out]; rfl
      have GV := Lib.hid (gv_var (p := p) (i := 1))
      have GT := Lib.hid (gv_turn (p := p) (i := 1))
      have GS := Lib.hid (gv_stay (p := p) (i := 1))
      obtain ⟨f, hf⟩ : ∃ f, (gv p 1).1 = f := ⟨_, rfl⟩
      obtain ⟨c, hc⟩ : ∃ c, (gv p 1).2 = c := ⟨_, rfl⟩
      have hwr : IntKind.i64.wrap ((c : Int) + 1) = (c : Int) + 1 := by simp [IntKind.wrap, IntKind.bits, IntKind.signed]; omega
      rw [hf] at hg2
      simp only [hf, hc]
      have HF := Lib.hid hf
      have HC := Lib.hid hc
      clear hf hc
      by_cases h1 : p.p.k = 4
      · have g1 : (p.p.k == 4) = true := beq_iff_eq.2 h1
        have E := Lib.hid (GV.out h1)
        clear h1
        go_wp2
        go_roundw
        case rel => exact ⟨2, by omega, by go_num, by rw [E.out, HF.out], by rw [E.out, HC.out], HX2.out, HBW.out⟩
        case measure => simp [intOf]
      · have g1 : (p.p.k == 4) = false := beq_eq_false_iff_ne.2 h1
        by_cases h2 : p.s.k = 4
        · have g2 : (p.s.k == 4) = true := beq_iff_eq.2 h2
          have E := Lib.hid (GT.out h1 h2)
          clear h1 h2
          go_wp2
          go_roundw
          case rel => exact ⟨2, by omega, by go_num, by (rw [E.out]) <;> (first | rfl | go_num), by (rw [E.out, HC.out]) <;> (first | rfl | go_num), HX2.out, HBW.out⟩
          case measure => simp [intOf]
        · have g2 : (p.s.k == 4) = false := beq_eq_false_iff_ne.2 h2
          have E := Lib.hid (GS.out h1 h2)
          clear h1 h2
          go_wp2
          go_roundw
          case rel => exact ⟨2, by omega, by go_num, by rw [E.out, HF.out], by (rw [E.out, HC.out]) <;> (first | rfl | go_num), HX2.out, HBW.out⟩
          case measure => simp [intOf]
    · have q2 : wr.cell? ⟨X, 8, none⟩ = some (.int .i64 p.o.k) := by rw [blk_cell HX2.out]; rfl
      have q1 : wr.cell? ⟨X, 4, none⟩ = some (.int .i64 p.p.k) := by rw [blk_cell HX2.out]; rfl
      have GV := Lib.hid (gv_var (p := p) (i := 2))
      have GT := Lib.hid (gv_turn (p := p) (i := 2))
      have GS := Lib.hid (gv_stay (p := p) (i := 2))
      obtain ⟨f, hf⟩ : ∃ f, (gv p 2).1 = f := ⟨_, rfl⟩
      obtain ⟨c, hc⟩ : ∃ c, (gv p 2).2 = c := ⟨_, rfl⟩
      have hwr : IntKind.i64.wrap ((c : Int) + 1) = (c : Int) + 1 := by simp [IntKind.wrap, IntKind.bits, IntKind.signed]; omega
      rw [hf] at hg2
      simp only [hf, hc]
      have HF := Lib.hid hf
      have HC := Lib.hid hc
      clear hf hc
      by_cases h1 : p.o.k = 4
      · have g1 : (p.o.k == 4) = true := beq_iff_eq.2 h1
        have E := Lib.hid (GV.out h1)
        clear h1
        go_wp2
        go_roundw
        case rel => exact ⟨3, by omega, by go_num, by rw [E.out, HF.out], by rw [E.out, HC.out], HX2.out, HBW.out⟩
        case measure => simp [intOf]
      · have g1 : (p.o.k == 4) = false := beq_eq_false_iff_ne.2 h1
        by_cases h2 : p.p.k = 4
        · have g2 : (p.p.k == 4) = true := beq_iff_eq.2 h2
          have E := Lib.hid (GT.out h1 h2)
          clear h1 h2
          go_wp2
          go_roundw
          case rel => exact ⟨3, by omega, by go_num, by (rw [E.out]) <;> (first | rfl | go_num), by (rw [E.out, HC.out]) <;> (first | rfl | go_num), HX2.out, HBW.out⟩
          case measure => simp [intOf]
        · have g2 : (p.p.k == 4) = false := beq_eq_false_iff_ne.2 h2
          have E := Lib.hid (GS.out h1 h2)
          clear h1 h2
          go_wp2
          go_roundw
          case rel => exact ⟨3, by omega, by go_num, by rw [E.out, HF.out], by (rw [E.out, HC.out]) <;> (first | rfl | go_num), HX2.out, HBW.out⟩
          case measure => simp [intOf]
    · go_wp2
      go_ret2
      exact ⟨rfl, HBW.out⟩

set_option maxHeartbeats 1000000 in
theorem refused_calls (b : Nat) (p : TripL) (hp : p.ok) (w : World) :
    Calls Tryz.prog 40 #[.pointer (some ⟨b, 0, none⟩), p.v] w fun e w' => e = .returned (.int .i64 (formZ (patB p))) ∧ Below w.heap.size w w' := by
  have HP := Lib.hid hp
  clear hp
  simp only [TripL.v]
  go_enter Tryz.func40, Tryz.ntmps40
  go_wp2_with fail
  refine (tPattern_calls p HP.out _).mono ?_
  rintro e w1 ⟨rfl, hb⟩
  go_wp2
  go_ret
  exact ⟨rfl, one_box hb⟩
theorem refused_nil (p : TripL) (w : World) :
    Calls Tryz.prog 40 #[.pointer none, p.v] w fun e w' => e = .returned (.int .i64 7) ∧ Below w.heap.size w w' := by
  simp only [TripL.v]
  go_enter Tryz.func40, Tryz.ntmps40
  go_wp2
  go_ret
  exact ⟨rfl, box_below _ _⟩

end Go.Proofs.YtnojdchodmogbaaGreat
