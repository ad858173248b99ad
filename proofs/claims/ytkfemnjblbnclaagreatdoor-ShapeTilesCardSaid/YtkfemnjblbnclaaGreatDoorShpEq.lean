/- Two terms held against each other as they are. -/
import Derived.Test.YtkfemnjblbnclaaGreatDoorShpLaws
import Derived.Test.YtkfemnjblbnclaaGreatDoorTermCompare
namespace Go.Proofs.YtkfemnjblbnclaaGreatDoor
open Go.RowKit

def teq (a b : TermL) : Bool := (a.k == b.k) && ((bs a.x).toList == (bs b.x).toList && ((bs a.y).toList == (bs b.y).toList && (bs a.z).toList == (bs b.z).toList))

set_option maxRecDepth 100000 in
theorem fields_term : (Tryz.prog.fieldsOf 23).toList = [{ name := "Kind", type := 3, offset := 0, embedded := false, tag := "", pkgPath := "", byteOffset := 0 }, { name := "Text", type := 9, offset := 1, embedded := false, tag := "", pkgPath := "", byteOffset := 8 }, { name := "Type", type := 9, offset := 2, embedded := false, tag := "", pkgPath := "", byteOffset := 24 }, { name := "Lang", type := 9, offset := 3, embedded := false, tag := "", pkgPath := "", byteOffset := 40 }] := by kernel_rfl

set_option maxRecDepth 100000 in
theorem run_part_int (cs : Array Value) (off : Nat) (v : Value) (w : World) (h : cs[off]? = some v) : (part 3 cs off).run Tryz.prog w = .ok v w := by
  simp [part, h, Tryz.isAgg3, go_sem]
set_option maxRecDepth 100000 in
theorem run_part_string (cs : Array Value) (off : Nat) (v : Value) (w : World) (h : cs[off]? = some v) : (part 9 cs off).run Tryz.prog w = .ok v w := by
  simp [part, h, Tryz.isAgg9, go_sem]

set_option maxRecDepth 100000 in
theorem eq_term (d : Nat) (a b : TermL) (w : World) : (Op.equalIn (d + 2) 23 a.v b.v).run Tryz.prog w = .ok (teq a b) w := by
  unfold TermL.v
  rw [run_equalIn_agg w (d + 1) 23 _ _ Tryz.underlying23 (by kernel_rfl), fields_term]
  have e1 : (Op.equalIn (d + 1) 3 (.int .i64 a.k) (.int .i64 b.k)).run Tryz.prog w = .ok (a.k == b.k) w := run_equalIn_int w d 3 .i64 .i64 _ _ Tryz.underlying3
  have e2 : ∀ s t : ByteArray, (Op.equalIn (d + 1) 9 (.string s) (.string t)).run Tryz.prog w = .ok (s.toList == t.toList) w := fun s t => run_equalIn_string w d 9 s t Tryz.underlying9
  unfold teq
  simp [Op.eqFields, go_sem]
  repeat' split
  all_goals simp_all

set_option maxRecDepth 100000 in
theorem teq_true {a b : TermL} (h : teq a b = true) : a = b := by
  obtain ⟨k, x, y, z⟩ := a
  obtain ⟨k', x', y', z'⟩ := b
  unfold teq at h
  simp only [bs_toList, Bool.and_eq_true, beq_iff_eq] at h
  obtain ⟨rfl, rfl, rfl, rfl⟩ := h
  rfl
theorem teq_self (a : TermL) : teq a a = true := by
  unfold teq
  simp
theorem teq_is (a b : TermL) : teq a b = decide (a = b) := by
  by_cases h : a = b
  · subst h; rw [teq_self, decide_eq_true rfl]
  · rw [decide_eq_false h]
    cases hq : teq a b with
    | false => rfl
    | true => exact absurd (teq_true hq) h
set_option maxRecDepth 100000 in
theorem eq_terms (a b : TermL) (w : World) : (binOp .eql 23 a.v b.v).run Tryz.prog w = .ok (.bool (decide (a = b))) w := by
  have h := eq_term 9998 a b w
  unfold TermL.v at h ⊢
  rw [run_eql_struct, h, teq_is]; rfl

end Go.Proofs.YtkfemnjblbnclaaGreatDoor
