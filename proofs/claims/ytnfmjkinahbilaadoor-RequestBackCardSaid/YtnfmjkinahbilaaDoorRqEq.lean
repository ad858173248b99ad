/- Requests, and arrays of two pairs, held against each other as they are. -/
import Derived.Test.YtnfmjkinahbilaaDoorRqPlain
import Derived.Test.YtnfmjkinahbilaaDoorPctStore
namespace Go.Proofs.YtnfmjkinahbilaaDoor
open Go.RowKit

theorem fields_req : (Tryd.prog.fieldsOf 23).toList = [{ name := "Id", type := 3, offset := 0, embedded := false, tag := "", pkgPath := "", byteOffset := 0 }, { name := "Text", type := 9, offset := 1, embedded := false, tag := "", pkgPath := "", byteOffset := 8 }] := by kernel_rfl
theorem fields_pair : (Tryd.prog.fieldsOf 38).toList = [{ name := "Key", type := 9, offset := 0, embedded := false, tag := "", pkgPath := "", byteOffset := 0 }, { name := "Value", type := 9, offset := 1, embedded := false, tag := "", pkgPath := "", byteOffset := 16 }] := by kernel_rfl
theorem run_part_int (cs : Array Value) (off : Nat) (v : Value) (w : World) (h : cs[off]? = some v) : (part 3 cs off).run Tryd.prog w = .ok v w := by
  simp [part, h, Tryd.isAgg3, go_sem]
theorem run_part_string (cs : Array Value) (off : Nat) (v : Value) (w : World) (h : cs[off]? = some v) : (part 9 cs off).run Tryd.prog w = .ok v w := by
  simp [part, h, Tryd.isAgg9, go_sem]

set_option maxRecDepth 100000 in
theorem eq_req (d : Nat) (i : Int) (s : ByteArray) (w : World) : (Op.equalIn (d + 2) 23 (.agg #[.int .i64 i, .string s]) (.agg #[.int .i64 i, .string s])).run Tryd.prog w = .ok true w := by
  rw [run_equalIn_agg w (d + 1) 23 _ _ Tryd.underlying23 (by kernel_rfl), fields_req]
  have e1 : (Op.equalIn (d + 1) 3 (.int .i64 i) (.int .i64 i)).run Tryd.prog w = .ok (i == i) w := run_equalIn_int w d 3 .i64 .i64 _ _ Tryd.underlying3
  have e2 : (Op.equalIn (d + 1) 9 (.string s) (.string s)).run Tryd.prog w = .ok (s.toList == s.toList) w := run_equalIn_string w d 9 s s Tryd.underlying9
  have a0 := run_part_int #[.int .i64 i, .string s] 0 (.int .i64 i) w rfl
  have a1 := run_part_string #[.int .i64 i, .string s] 1 (.string s) w rfl
  simp [Op.eqFields, Sem.run_ite, Sem.run_bind, a0, a1, Result.andThen_ok, e1, e2, Sem.run_pure]
set_option maxRecDepth 100000 in
theorem eql_req (i : Int) (s : ByteArray) (w : World) : (binOp .eql 23 (.agg #[.int .i64 i, .string s]) (.agg #[.int .i64 i, .string s])).run Tryd.prog w = .ok (.bool true) w := by
  rw [run_eql_struct, eq_req 9998 i s w]; rfl
set_option maxRecDepth 100000 in
theorem neql_req (i : Int) (s : ByteArray) (w : World) : (binOp .neq 23 (.agg #[.int .i64 i, .string s]) (.agg #[.int .i64 i, .string s])).run Tryd.prog w = .ok (.bool false) w := by
  rw [run_neq_struct, eq_req 9998 i s w]; rfl

def peq (a b c d : ByteArray) : Bool := (a.toList == c.toList) && (b.toList == d.toList)
set_option maxRecDepth 100000 in
theorem eq_pair (e : Nat) (a b c d : ByteArray) (w : World) : (Op.equalIn (e + 2) 38 (.agg #[.string a, .string b]) (.agg #[.string c, .string d])).run Tryd.prog w = .ok (peq a b c d) w := by
  rw [run_equalIn_agg w (e + 1) 38 _ _ Tryd.underlying38 (by kernel_rfl), fields_pair]
  have e2 : ∀ s t : ByteArray, (Op.equalIn (e + 1) 9 (.string s) (.string t)).run Tryd.prog w = .ok (s.toList == t.toList) w := fun s t => run_equalIn_string w e 9 s t Tryd.underlying9
  have a0 := fun x y : ByteArray => run_part_string #[.string x, .string y] 0 (.string x) w rfl
  have a1 := fun x y : ByteArray => run_part_string #[.string x, .string y] 1 (.string y) w rfl
  unfold peq
  simp only [Op.eqFields, Sem.run_ite, Sem.run_bind, a0, a1, Result.andThen_ok, e2, Sem.run_pure]
  cases (a.toList == c.toList) <;> cases (b.toList == d.toList) <;> simp
theorem run_part_pair (cs : Array Value) (off : Nat) (w : World) : (part 38 cs off).run Tryd.prog w = .ok (.agg (cs.extract off (off + 2))) w := by
  simp [part, Tryd.isAgg38, Tryd.sizeOf38, go_sem]
set_option maxRecDepth 100000 in
theorem eq_two_in (e : Nat) (a b c d a' b' c' d' : ByteArray) (w : World) : (Op.equalIn (e + 3) 40 (.agg #[.string a, .string b, .string c, .string d]) (.agg #[.string a', .string b', .string c', .string d'])).run Tryd.prog w = .ok (peq a b a' b' && peq c d c' d') w := by
  have h0 := eq_pair e a b a' b' w
  have h1 := eq_pair e c d c' d' w
  have p0 : ∀ x y z u : ByteArray, (part 38 #[.string x, .string y, .string z, .string u] (0 * 2)).run Tryd.prog w = .ok (.agg #[.string x, .string y]) w := fun _ _ _ _ => run_part_pair _ _ _
  have p1 : ∀ x y z u : ByteArray, (part 38 #[.string x, .string y, .string z, .string u] (1 * 2)).run Tryd.prog w = .ok (.agg #[.string z, .string u]) w := fun _ _ _ _ => run_part_pair _ _ _
  have hs : (sizeOf 38).run Tryd.prog w = .ok 2 w := by simp [go_sem]
  rw [show e + 3 = e + 2 + 1 from rfl]
  generalize e + 2 = D at *
  rw [Op.equalIn]
  simp only [Sem.run_bind, run_underlying Tryd.underlying40, Result.andThen_ok, hs, Std.Legacy.Range.forIn_eq_forIn_range', Std.Legacy.Range.size]
  rw [show List.range' 0 ((2 - 0 + 1 - 1) / 1) = [0, 1] from rfl]
  simp only [List.forIn_cons, List.forIn_nil, Sem.run_bind, p0, Result.andThen_ok, h0]
  cases peq a b a' b'
  · simp [go_sem]
  · simp only [Bool.not_true, Bool.false_eq_true, if_false, Sem.run_pure, Result.andThen_ok, Sem.run_bind, p1, h1]
    cases peq c d c' d'
    · simp [go_sem]
    · simp [go_sem]
set_option maxRecDepth 100000 in
theorem eql_two (a b c d a' b' c' d' : ByteArray) (B : Bool) (hB : (peq a b a' b' && peq c d c' d') = B) (w : World) : (binOp .eql 40 (.agg #[.string a, .string b, .string c, .string d]) (.agg #[.string a', .string b', .string c', .string d'])).run Tryd.prog w = .ok (.bool B) w := by
  rw [run_eql_struct, eq_two_in 9997, hB]; rfl

/- the pairs of a text's request are the text's -/
theorem beq_bs (a b : List UInt8) : ((bs a).toList == (bs b).toList) = decide (a = b) := by
  rw [bs_toList, bs_toList, Bool.eq_iff_iff]; simp
theorem own_two (p q : PairL) : (peq (bs kId) (bs (Lib.itoa (numOf p.v))) (bs p.k) (bs p.v) && peq (bs kText) (bs q.v) (bs q.k) (bs q.v)) = isP p q := by
  unfold peq isP
  rw [beq_bs, beq_bs, beq_bs, beq_bs, Bool.eq_iff_iff]
  simp only [Bool.and_eq_true, decide_eq_true_eq, and_true]
  constructor
  · rintro ⟨⟨h1, h2⟩, h3⟩; exact ⟨⟨h1.symm, h2.symm⟩, h3.symm⟩
  · rintro ⟨⟨h1, h2⟩, h3⟩; exact ⟨⟨h1.symm, h2.symm⟩, h3.symm⟩

end Go.Proofs.YtnfmjkinahbilaaDoor
