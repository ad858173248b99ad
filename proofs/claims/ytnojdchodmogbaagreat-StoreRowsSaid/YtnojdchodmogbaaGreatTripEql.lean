/- Two arrays of three terms, held against each other as they are. -/
import Derived.Test.YtnojdchodmogbaaGreatStoBlks
import Derived.Test.YtnojdchodmogbaaGreatTermCompare
namespace Go.Proofs.YtnojdchodmogbaaGreat
open Go.RowKit

def teq (a b : TermL) : Bool := (a.k == b.k) && ((bs a.x).toList == (bs b.x).toList && ((bs a.y).toList == (bs b.y).toList && (bs a.z).toList == (bs b.z).toList))

set_option maxRecDepth 100000 in
theorem fields_term : (Tryz.prog.fieldsOf 27).toList = [{ name := "Kind", type := 3, offset := 0, embedded := false, tag := "", pkgPath := "", byteOffset := 0 }, { name := "Text", type := 9, offset := 1, embedded := false, tag := "", pkgPath := "", byteOffset := 8 }, { name := "Type", type := 9, offset := 2, embedded := false, tag := "", pkgPath := "", byteOffset := 24 }, { name := "Lang", type := 9, offset := 3, embedded := false, tag := "", pkgPath := "", byteOffset := 40 }] := by kernel_rfl

set_option maxRecDepth 100000 in
theorem run_part_int (cs : Array Value) (off : Nat) (v : Value) (w : World) (h : cs[off]? = some v) : (part 3 cs off).run Tryz.prog w = .ok v w := by
  simp [part, h, Tryz.isAgg3, go_sem]
set_option maxRecDepth 100000 in
theorem run_part_string (cs : Array Value) (off : Nat) (v : Value) (w : World) (h : cs[off]? = some v) : (part 9 cs off).run Tryz.prog w = .ok v w := by
  simp [part, h, Tryz.isAgg9, go_sem]

set_option maxRecDepth 100000 in
theorem eq_term (d : Nat) (a b : TermL) (w : World) : (Op.equalIn (d + 2) 27 a.v b.v).run Tryz.prog w = .ok (teq a b) w := by
  unfold TermL.v
  rw [run_equalIn_agg w (d + 1) 27 _ _ Tryz.underlying27 (by kernel_rfl), fields_term]
  have e1 : (Op.equalIn (d + 1) 3 (.int .i64 a.k) (.int .i64 b.k)).run Tryz.prog w = .ok (a.k == b.k) w := run_equalIn_int w d 3 .i64 .i64 _ _ Tryz.underlying3
  have e2 : ∀ s t : ByteArray, (Op.equalIn (d + 1) 9 (.string s) (.string t)).run Tryz.prog w = .ok (s.toList == t.toList) w := fun s t => run_equalIn_string w d 9 s t Tryz.underlying9
  unfold teq
  simp [Op.eqFields, go_sem]
  repeat' split
  all_goals simp_all

set_option maxRecDepth 100000 in
theorem run_part_term (cs : Array Value) (off : Nat) (w : World) : (part 27 cs off).run Tryz.prog w = .ok (.agg (cs.extract off (off + 4))) w := by
  simp [part, Tryz.isAgg27, Tryz.sizeOf27, go_sem]

set_option maxRecDepth 100000 in
theorem eq_arr_in (d : Nat) (t u : TripL) (w : World) : (Op.equalIn (d + 3) 99 (.agg (cells12 t)) (.agg (cells12 u))).run Tryz.prog w = .ok (teq t.s u.s && (teq t.p u.p && teq t.o u.o)) w := by
  have h0 := eq_term d t.s u.s w
  have h1 := eq_term d t.p u.p w
  have h2 := eq_term d t.o u.o w
  have p0 : ∀ x : TripL, (part 27 (cells12 x) (0 * 4)).run Tryz.prog w = .ok x.s.v w := fun x => run_part_term _ _ _
  have p1 : ∀ x : TripL, (part 27 (cells12 x) (1 * 4)).run Tryz.prog w = .ok x.p.v w := fun x => run_part_term _ _ _
  have p2 : ∀ x : TripL, (part 27 (cells12 x) (2 * 4)).run Tryz.prog w = .ok x.o.v w := fun x => run_part_term _ _ _
  have hs : (sizeOf 27).run Tryz.prog w = .ok 4 w := by simp [go_sem]
  rw [show d + 3 = d + 2 + 1 from rfl]
  generalize d + 2 = D at *
  rw [Op.equalIn]
  simp only [Sem.run_bind, run_underlying Tryz.underlying99, Result.andThen_ok, hs, Std.Legacy.Range.forIn_eq_forIn_range', Std.Legacy.Range.size]
  rw [show List.range' 0 ((3 - 0 + 1 - 1) / 1) = [0, 1, 2] from rfl]
  simp only [List.forIn_cons, List.forIn_nil, Sem.run_bind, p0, Result.andThen_ok, h0]
  cases teq t.s u.s
  · simp [go_sem]
  · simp only [Bool.not_true, Bool.false_eq_true, if_false, Sem.run_pure, Result.andThen_ok, Sem.run_bind, p1, h1]
    cases teq t.p u.p
    · simp [go_sem]
    · simp only [Bool.not_true, Bool.false_eq_true, if_false, Sem.run_pure, Result.andThen_ok, Sem.run_bind, p2, h2]
      cases teq t.o u.o
      · simp [go_sem]
      · simp [go_sem]

set_option maxRecDepth 100000 in
theorem eq_arr (t u : TripL) (w : World) : (binOp .eql 99 (.agg (cells12 t)) (.agg (cells12 u))).run Tryz.prog w = .ok (.bool (teq t.s u.s && (teq t.p u.p && teq t.o u.o))) w := by
  rw [run_eql_struct, eq_arr_in 9997 t u w]; rfl

set_option maxRecDepth 100000 in
theorem teq_true {a b : TermL} (h : teq a b = true) : a = b := by
  obtain ⟨k, x, y, z⟩ := a
  obtain ⟨k', x', y', z'⟩ := b
  unfold teq at h
  simp only [bs_toList, Bool.and_eq_true, beq_iff_eq] at h
  obtain ⟨rfl, rfl, rfl, rfl⟩ := h
  rfl
set_option maxRecDepth 100000 in
theorem teq_self (a : TermL) : teq a a = true := by
  unfold teq; simp

end Go.Proofs.YtnojdchodmogbaaGreat
