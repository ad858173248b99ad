/- A triple as an argument: how it is opened into its terms' fields, and how it reads again behind the call. -/
import Derived.Test.YtnojdchodmogbaaTermRead6
import Derived.Test.YtnojdchodmogbaaTripPlain
namespace Go.Proofs.Ytnojdchodmogbaa
open Go.ChangeShapes Go.WideShapes Go.ChangeAt Go.RowKit Go.Joins
open Go.ChangeMaps (open_string shut_string)

set_option maxRecDepth 100000 in
theorem Try.cellsTriple : Try.prog.cellsOf 25 = 12 := by kernel_rfl
set_option maxRecDepth 100000 in
theorem Try.cellsInt : Try.prog.cellsOf 3 = 1 := by kernel_rfl
set_option maxRecDepth 100000 in
theorem Try.cellsString : Try.prog.cellsOf 9 = 1 := by kernel_rfl

section
variable {H : Type} {enc : TypeId × Value → H}

set_option maxRecDepth 100000 in
theorem open_term_cells {W : World} {base n : Nat} {spare : Nat → Bool} {held : Bool} {c0 c1 c2 c3 : Value} {y : DataW H × List MemPlace} (h : DataW.trod enc Try.prog W base spare held n 23 [c0, c1, c2, c3] = some y) :
    ∃ (k : Int) (a b c : ByteArray), c0 = .int .i64 k ∧ c1 = .string a ∧ c2 = .string b ∧ c3 = .string c ∧ y = (termD k a b c, []) ∧ (Lit.int .i64 k).wf = true ∧ a.size ≤ maxLen ∧ b.size ≤ maxLen ∧ c.size ≤ maxLen := by
  obtain ⟨y0, y1, y2, y3, m, rfl, _, h0, h1, h2, h3⟩ := trod_struct4 Try.underlying23 h
  simp only [Try.cellsInt, Try.cellsString, List.drop_zero, List.drop_succ_cons, List.take_succ_cons, List.take_zero] at h0 h1 h2 h3
  obtain ⟨k, e0, rfl, wk⟩ := DataW.trod_int Try.underlying3 h0
  obtain ⟨a, e1, rfl, wa⟩ := DataW.trod_string Try.underlying9 h1
  obtain ⟨b, e2, rfl, wb⟩ := DataW.trod_string Try.underlying9 h2
  obtain ⟨c, e3, rfl, wc⟩ := DataW.trod_string Try.underlying9 h3
  simp at e0 e1 e2 e3
  subst e0 e1 e2 e3
  exact ⟨k, a, b, c, rfl, rfl, rfl, rfl, rfl, wk, wa, wb, wc⟩

/- a triple's datum -/
def tripD (t : TripL) : DataW H := .agg [termD t.s.k (bs t.s.x) (bs t.s.y) (bs t.s.z), termD t.p.k (bs t.p.x) (bs t.p.y) (bs t.p.z), termD t.o.k (bs t.o.x) (bs t.o.y) (bs t.o.z)]
def TripL.wf (t : TripL) : Prop := (Lit.int .i64 t.s.k).wf = true ∧ (Lit.int .i64 t.p.k).wf = true ∧ (Lit.int .i64 t.o.k).wf = true

set_option maxRecDepth 100000 in
theorem open_trip {W : World} {base b0 : Nat} {spare : Nat → Bool} {held : Bool} {v : Value} {d : DataW H} {p : List MemPlace} (hv : Value.okWide Try.prog W .any b0 25 v) (h : DataW.Trod enc Try.prog W base spare held 25 v d p) :
    ∃ t : TripL, v = t.v ∧ d = tripD t ∧ p = [] ∧ t.wf ∧ t.ok := by
  obtain ⟨cs, rfl, hsz⟩ := okWide_struct Try.underlying25 hv
  rw [Try.cellsTriple] at hsz
  obtain ⟨l⟩ := cs
  match l, hsz with
  | [c0, c1, c2, c3, c4, c5, c6, c7, c8, c9, c10, c11], _ =>
    obtain ⟨fuel, hf⟩ := h
    obtain ⟨xs, n, _, hx, _, hlen, hg⟩ := DataW.trod_struct Try.underlying25 hf
    match xs, hlen with
    | [y0, y1, y2], _ =>
      have h0 := hg 0 _ rfl
      have h1 := hg 1 _ rfl
      have h2 := hg 2 _ rfl
      simp only [Value.cells, List.getElem?_cons_zero, List.getElem?_cons_succ] at h0 h1 h2
      obtain ⟨k, a, b, c, rfl, rfl, rfl, rfl, rfl, wk, wa, wb, wc⟩ := open_term_cells h0
      obtain ⟨k', a', b', c', rfl, rfl, rfl, rfl, rfl, wk', wa', wb', wc'⟩ := open_term_cells h1
      obtain ⟨k'', a'', b'', c'', rfl, rfl, rfl, rfl, rfl, wk'', wa'', wb'', wc''⟩ := open_term_cells h2
      simp only [Prod.mk.injEq] at hx
      refine ⟨⟨⟨k, a.data.toList, b.data.toList, c.data.toList⟩, ⟨k', a'.data.toList, b'.data.toList, c'.data.toList⟩, ⟨k'', a''.data.toList, b''.data.toList, c''.data.toList⟩⟩, rfl, ?_, by simpa using hx.2, ⟨wk, wk', wk''⟩, ⟨⟨wa, wb, wc⟩, ⟨wa', wb', wc'⟩, ⟨wa'', wb'', wc''⟩⟩⟩
      rw [hx.1]; rfl

set_option maxRecDepth 100000 in
theorem trod_term {W : World} {base : Nat} {spare : Nat → Bool} {held : Bool} {k : Int} {x y z : ByteArray} (wk : (Lit.int .i64 k).wf = true) (wx : x.size ≤ maxLen) (wy : y.size ≤ maxLen) (wz : z.size ≤ maxLen) :
    DataW.trod enc Try.prog W base spare held 2 23 [.int .i64 k, .string x, .string y, .string z] = some (termD k x y z, []) := by
  have := trod_struct4_mk (enc := enc) (w := W) (base := base) (spare := spare) (held := held) (n := 1) (cs := [.int .i64 k, .string x, .string y, .string z]) (y0 := (.lit (.int .i64 k), [])) (y1 := (.lit (.string x.data.toList), [])) (y2 := (.lit (.string y.data.toList), [])) (y3 := (.lit (.string z.data.toList), [])) Try.underlying23 (by simp [Try.cellsTerm])
    (by simp [Try.cellsInt, DataW.trod, Try.underlying3, wk]) (by simp [Try.cellsString, DataW.trod, Try.underlying9, wx]) (by simp [Try.cellsString, DataW.trod, Try.underlying9, wy]) (by simp [Try.cellsString, DataW.trod, Try.underlying9, wz])
  simp at this
  exact this

set_option maxRecDepth 100000 in
theorem shut_trip {t : TripL} (hw : t.wf) (hk : t.ok) (W : World) (base : Nat) (spare : Nat → Bool) (held : Bool) :
    DataW.Trod enc Try.prog W base spare held 25 t.v (tripD t) [] := by
  have h0 := trod_term (enc := enc) (W := W) (base := base) (spare := spare) (held := held) hw.1 hk.1.1 hk.1.2.1 hk.1.2.2
  have h1 := trod_term (enc := enc) (W := W) (base := base) (spare := spare) (held := held) hw.2.1 hk.2.1.1 hk.2.1.2.1 hk.2.1.2.2
  have h2 := trod_term (enc := enc) (W := W) (base := base) (spare := spare) (held := held) hw.2.2 hk.2.2.1 hk.2.2.2.1 hk.2.2.2.2
  have := trod_struct_mk (enc := enc) (w := W) (base := base) (spare := spare) (held := held) (n := 2) (cs := t.v.cells.toList) (xs := [(termD t.s.k (bs t.s.x) (bs t.s.y) (bs t.s.z), []), (termD t.p.k (bs t.p.x) (bs t.p.y) (bs t.p.z), []), (termD t.o.k (bs t.o.x) (bs t.o.y) (bs t.o.z), [])])
    Try.underlying25 (by rw [Try.cellsTriple]; rfl) (by simp [Try.cellsTerm, TripL.v, Value.cells, h0, h1, h2])
  simp at this
  exact ⟨3, this⟩
end

end Go.Proofs.Ytnojdchodmogbaa
