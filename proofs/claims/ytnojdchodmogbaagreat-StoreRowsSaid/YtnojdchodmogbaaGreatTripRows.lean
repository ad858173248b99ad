/- A term as an argument: how it is opened into its four fields, and how it reads again behind the call. A triple as an argument: how it is opened into its terms' fields, and how it reads again behind the call. A slice of triples as an argument: how it is opened into its triples. -/
import Derived.Test.YtnojdchodmogbaaGreatRows
import Derived.ProofKit
import Derived.SizedLaws
import Derived.Lib.SmallJoins
import Derived.Test.YtnojdchodmogbaaGreatTripPlains
import Derived.Test.YtnojdchodmogbaaGreatStoOf
import Derived.Deep.Slices
import Derived.Carry
namespace Go.Proofs.YtnojdchodmogbaaGreat
open Go.ChangeShapes Go.WideShapes Go.ChangeAt Go.RowKit Go.Joins
open Go.ChangeMaps (open_string shut_string)

set_option maxRecDepth 100000 in
theorem Tryz.own : ownKnob Tryz.prog.godebug = none := by kernel_rfl
set_option maxRecDepth 100000 in
theorem Tryz.cellsTerm : Tryz.prog.cellsOf 27 = 4 := by kernel_rfl

section
variable {H : Type} {enc : TypeId × Value → H}
/- a term's datum -/
def termD (k : Int) (x y z : ByteArray) : DataW H := .agg [.lit (.int .i64 k), .lit (.string x.data.toList), .lit (.string y.data.toList), .lit (.string z.data.toList)]

set_option maxRecDepth 100000 in
theorem open_term {W : World} {base b0 : Nat} {spare : Nat → Bool} {held : Bool} {v : Value} {d : DataW H} {p : List MemPlace} (hv : Value.okWide Tryz.prog W .any b0 27 v) (h : DataW.Trod enc Tryz.prog W base spare held 27 v d p) :
    ∃ (k : Int) (x y z : ByteArray), v = .agg #[.int .i64 k, .string x, .string y, .string z] ∧ d = termD k x y z ∧ p = [] ∧ (Lit.int .i64 k).wf = true ∧ x.size ≤ maxLen ∧ y.size ≤ maxLen ∧ z.size ≤ maxLen := by
  obtain ⟨c0, c1, c2, c3, y0, y1, y2, y3, m, rfl, rfl, rfl, h0, h1, h2, h3⟩ := open_agg4 Tryz.underlying27 (by kernel_rfl) Tryz.cellsTerm hv h
  obtain ⟨k, e0, rfl, wk⟩ := DataW.trod_int Tryz.underlying3 h0
  obtain ⟨x, e1, rfl, wx⟩ := DataW.trod_string Tryz.underlying9 h1
  obtain ⟨y, e2, rfl, wy⟩ := DataW.trod_string Tryz.underlying9 h2
  obtain ⟨z, e3, rfl, wz⟩ := DataW.trod_string Tryz.underlying9 h3
  simp at e0 e1 e2 e3
  subst e0 e1 e2 e3
  exact ⟨k, x, y, z, rfl, rfl, rfl, wk, wx, wy, wz⟩

set_option maxRecDepth 100000 in
theorem shut_term {k : Int} {x y z : ByteArray} (wk : (Lit.int .i64 k).wf = true) (wx : x.size ≤ maxLen) (wy : y.size ≤ maxLen) (wz : z.size ≤ maxLen) (W : World) (base : Nat) (spare : Nat → Bool) (held : Bool) :
    DataW.Trod enc Tryz.prog W base spare held 27 (.agg #[.int .i64 k, .string x, .string y, .string z]) (termD k x y z) [] :=
  shut_agg4 (y0 := (.lit (.int .i64 k), [])) (y1 := (.lit (.string x.data.toList), [])) (y2 := (.lit (.string y.data.toList), [])) (y3 := (.lit (.string z.data.toList), [])) Tryz.underlying27 (by kernel_rfl) Tryz.cellsTerm
    ⟨1, by simp [DataW.trod, Tryz.underlying3, wk]⟩ ⟨1, by simp [DataW.trod, Tryz.underlying9, wx]⟩ ⟨1, by simp [DataW.trod, Tryz.underlying9, wy]⟩ ⟨1, by simp [DataW.trod, Tryz.underlying9, wz]⟩
end

/- a call of values without memory that leaves all that was there as it was meets what its row asks behind it -/
set_option maxRecDepth 100000 in
theorem post_kept {H : Type} {enc : TypeId × Value → H} {P : Program} {f : Func} {s : ChangeSpec} {apart fresh handsOn : Bool} {W W' : World} {args : Array Value} {v : Value} {ds gs : List (DataW H)}
    (hW : DataW.Whole enc P f.params.toList s.vars apart W args.toList ds gs [])
    (hres : ∀ (b : Nat) (sp : Nat → Bool) (hd : Bool), DataW.TrodAll enc P W' b sp hd f.resultTypes.toList (v.resultList f.resultTypes.size) (s.fn H (ds ++ gs)).results [])
    (hargs : ∀ sp : Nat → Bool, DataW.TrodAll enc P W' 0 sp true f.params.toList args.toList (s.fn H (ds ++ gs)).args [])
    (hvars : ∀ sp : Nat → Bool, DataW.TrodVars enc P W' sp s.vars (s.fn H (ds ++ gs)).vars [])
    (hb : Below W.heap.size W W') : s.post enc P f apart fresh handsOn false W args v W' :=
  ⟨ds, gs, [], [], [], [], hW, hres _ _ _, hargs _, hvars _, hb.frame _, fun h => by cases h⟩

end Go.Proofs.YtnojdchodmogbaaGreat

namespace Go.Proofs.YtnojdchodmogbaaGreat
open Go.ChangeShapes Go.WideShapes Go.ChangeAt Go.RowKit Go.Joins
open Go.ChangeMaps (open_string shut_string)

set_option maxRecDepth 100000 in
theorem Tryz.cellsTriple : Tryz.prog.cellsOf 29 = 12 := by kernel_rfl
set_option maxRecDepth 100000 in
theorem Tryz.cellsInt : Tryz.prog.cellsOf 3 = 1 := by kernel_rfl
set_option maxRecDepth 100000 in
theorem Tryz.cellsString : Tryz.prog.cellsOf 9 = 1 := by kernel_rfl

section
variable {H : Type} {enc : TypeId × Value → H}

set_option maxRecDepth 100000 in
theorem open_term_cells {W : World} {base n : Nat} {spare : Nat → Bool} {held : Bool} {c0 c1 c2 c3 : Value} {y : DataW H × List MemPlace} (h : DataW.trod enc Tryz.prog W base spare held n 27 [c0, c1, c2, c3] = some y) :
    ∃ (k : Int) (a b c : ByteArray), c0 = .int .i64 k ∧ c1 = .string a ∧ c2 = .string b ∧ c3 = .string c ∧ y = (termD k a b c, []) ∧ (Lit.int .i64 k).wf = true ∧ a.size ≤ maxLen ∧ b.size ≤ maxLen ∧ c.size ≤ maxLen := by
  obtain ⟨y0, y1, y2, y3, m, rfl, _, h0, h1, h2, h3⟩ := trod_struct4 Tryz.underlying27 h
  simp only [Tryz.cellsInt, Tryz.cellsString, List.drop_zero, List.drop_succ_cons, List.take_succ_cons, List.take_zero] at h0 h1 h2 h3
  obtain ⟨k, e0, rfl, wk⟩ := DataW.trod_int Tryz.underlying3 h0
  obtain ⟨a, e1, rfl, wa⟩ := DataW.trod_string Tryz.underlying9 h1
  obtain ⟨b, e2, rfl, wb⟩ := DataW.trod_string Tryz.underlying9 h2
  obtain ⟨c, e3, rfl, wc⟩ := DataW.trod_string Tryz.underlying9 h3
  simp at e0 e1 e2 e3
  subst e0 e1 e2 e3
  exact ⟨k, a, b, c, rfl, rfl, rfl, rfl, rfl, wk, wa, wb, wc⟩

/- a triple's datum -/
def tripD (t : TripL) : DataW H := .agg [termD t.s.k (bs t.s.x) (bs t.s.y) (bs t.s.z), termD t.p.k (bs t.p.x) (bs t.p.y) (bs t.p.z), termD t.o.k (bs t.o.x) (bs t.o.y) (bs t.o.z)]
def TripL.wf (t : TripL) : Prop := (Lit.int .i64 t.s.k).wf = true ∧ (Lit.int .i64 t.p.k).wf = true ∧ (Lit.int .i64 t.o.k).wf = true

set_option maxRecDepth 100000 in
theorem open_trip {W : World} {base b0 : Nat} {spare : Nat → Bool} {held : Bool} {v : Value} {d : DataW H} {p : List MemPlace} (hv : Value.okWide Tryz.prog W .any b0 29 v) (h : DataW.Trod enc Tryz.prog W base spare held 29 v d p) :
    ∃ t : TripL, v = t.v ∧ d = tripD t ∧ p = [] ∧ t.wf ∧ t.ok := by
  obtain ⟨cs, rfl, hsz⟩ := okWide_struct Tryz.underlying29 hv
  rw [Tryz.cellsTriple] at hsz
  obtain ⟨l⟩ := cs
  match l, hsz with
  | [c0, c1, c2, c3, c4, c5, c6, c7, c8, c9, c10, c11], _ =>
    obtain ⟨fuel, hf⟩ := h
    obtain ⟨xs, n, _, hx, _, hlen, hg⟩ := DataW.trod_struct Tryz.underlying29 hf
    match xs, hlen with
    | [y0, y1, y2], _ =>
      have h0 := hg 0 _ rfl
      have h1 := hg 1 _ rfl
      have h2 := hg 2 _ rfl
      simp only [Value.cells, List.getElem?_cons_zero, List.getElem?_cons_succ] at h0 h1 h2
      obtain ⟨k, a, b, c, rfl, rfl, rfl, rfl, rfl, wk, wa, wb, wc⟩ := open_term_cells h0
      obtain ⟨k', a', b', c', rfl, rfl, rfl, rfl, rfl, wk', wa', wb', wc'⟩ := open_term_cells h1
      obtain ⟨k'', a'', b'', c'', rfl, rfl, rfl, rfl, rfl, wk'', wa'', wb'', wc''⟩ := open_term_cells h2
      simp only [Prod.mk.injEq] at hx
      refine ⟨⟨⟨k, a.data.toList, b.data.toList, c.data.toList⟩, ⟨k', a'.data.toList, b'.data.toList, c'.data.toList⟩, ⟨k'', a''.data.toList, b''.data.toList, c''.data.toList⟩⟩, rfl, ?_, by simpa using hx.2, ⟨wk, wk', wk''⟩, ⟨⟨wa, wb, wc⟩, ⟨wa', wb', wc'⟩, ⟨wa'', wb'', wc''⟩⟩⟩
      rw [hx.1]; rfl

set_option maxRecDepth 100000 in
theorem trod_term {W : World} {base : Nat} {spare : Nat → Bool} {held : Bool} {k : Int} {x y z : ByteArray} (wk : (Lit.int .i64 k).wf = true) (wx : x.size ≤ maxLen) (wy : y.size ≤ maxLen) (wz : z.size ≤ maxLen) :
    DataW.trod enc Tryz.prog W base spare held 2 27 [.int .i64 k, .string x, .string y, .string z] = some (termD k x y z, []) := by
  have := trod_struct4_mk (enc := enc) (w := W) (base := base) (spare := spare) (held := held) (n := 1) (cs := [.int .i64 k, .string x, .string y, .string z]) (y0 := (.lit (.int .i64 k), [])) (y1 := (.lit (.string x.data.toList), [])) (y2 := (.lit (.string y.data.toList), [])) (y3 := (.lit (.string z.data.toList), [])) Tryz.underlying27 (by simp [Tryz.cellsTerm])
    (by simp [Tryz.cellsInt, DataW.trod, Tryz.underlying3, wk]) (by simp [Tryz.cellsString, DataW.trod, Tryz.underlying9, wx]) (by simp [Tryz.cellsString, DataW.trod, Tryz.underlying9, wy]) (by simp [Tryz.cellsString, DataW.trod, Tryz.underlying9, wz])
  simp at this
  exact this

set_option maxRecDepth 100000 in
theorem shut_trip {t : TripL} (hw : t.wf) (hk : t.ok) (W : World) (base : Nat) (spare : Nat → Bool) (held : Bool) :
    DataW.Trod enc Tryz.prog W base spare held 29 t.v (tripD t) [] := by
  have h0 := trod_term (enc := enc) (W := W) (base := base) (spare := spare) (held := held) hw.1 hk.1.1 hk.1.2.1 hk.1.2.2
  have h1 := trod_term (enc := enc) (W := W) (base := base) (spare := spare) (held := held) hw.2.1 hk.2.1.1 hk.2.1.2.1 hk.2.1.2.2
  have h2 := trod_term (enc := enc) (W := W) (base := base) (spare := spare) (held := held) hw.2.2 hk.2.2.1 hk.2.2.2.1 hk.2.2.2.2
  have := trod_struct_mk (enc := enc) (w := W) (base := base) (spare := spare) (held := held) (n := 2) (cs := t.v.cells.toList) (xs := [(termD t.s.k (bs t.s.x) (bs t.s.y) (bs t.s.z), []), (termD t.p.k (bs t.p.x) (bs t.p.y) (bs t.p.z), []), (termD t.o.k (bs t.o.x) (bs t.o.y) (bs t.o.z), [])])
    Tryz.underlying29 (by rw [Tryz.cellsTriple]; rfl) (by simp [Tryz.cellsTerm, TripL.v, Value.cells, h0, h1, h2])
  simp at this
  exact ⟨3, this⟩
end

end Go.Proofs.YtnojdchodmogbaaGreat

namespace Go.Proofs.YtnojdchodmogbaaGreat
open Go.ChangeShapes Go.WideShapes Go.ChangeAt Go.RowKit Go.Joins Go.Deep
open Go.ChangeMaps (open_string shut_string)

section
variable {H : Type} {enc : TypeId × Value → H}

set_option maxRecDepth 100000 in
theorem open_trip_cells {W : World} {base n : Nat} {spare : Nat → Bool} {held : Bool} {l : List Value} {y : DataW H × List MemPlace} (hsz : l.length = 12) (h : DataW.trod enc Tryz.prog W base spare held n 29 l = some y) :
    ∃ t : TripL, l = TripL.cells t ∧ t.ok := by
  match l, hsz with
  | [c0, c1, c2, c3, c4, c5, c6, c7, c8, c9, c10, c11], _ =>
    obtain ⟨xs, n, _, hx, _, hlen, hg⟩ := DataW.trod_struct Tryz.underlying29 h
    match xs, hlen with
    | [y0, y1, y2], _ =>
      have h0 := hg 0 _ rfl
      have h1 := hg 1 _ rfl
      have h2 := hg 2 _ rfl
      simp only [List.getElem?_cons_zero, List.getElem?_cons_succ] at h0 h1 h2
      obtain ⟨k, a, b, c, rfl, rfl, rfl, rfl, rfl, wk, wa, wb, wc⟩ := open_term_cells h0
      obtain ⟨k', a', b', c', rfl, rfl, rfl, rfl, rfl, wk', wa', wb', wc'⟩ := open_term_cells h1
      obtain ⟨k'', a'', b'', c'', rfl, rfl, rfl, rfl, rfl, wk'', wa'', wb'', wc''⟩ := open_term_cells h2
      exact ⟨⟨⟨k, a.data.toList, b.data.toList, c.data.toList⟩, ⟨k', a'.data.toList, b'.data.toList, c'.data.toList⟩, ⟨k'', a''.data.toList, b''.data.toList, c''.data.toList⟩⟩, rfl, ⟨wa, wb, wc⟩, ⟨wa', wb', wc'⟩, ⟨wa'', wb'', wc''⟩⟩

theorem spot_of {w : World} {a : Addr} {v : Value} (h : w.cell? a = some v) : a.spot = none := by
  unfold World.cell? at h
  split at h
  · split at h
    · cases h
    · rename_i hs
      cases hq : a.spot with
      | none => rfl
      | some x => rw [hq] at hs; exact absurd rfl hs
  · cases h

set_option maxRecDepth 100000 in
theorem open_trips {W : World} {base b0 : Nat} {spare : Nat → Bool} {held : Bool} {v : Value} {d : DataW H} {p : List MemPlace} (hv : Value.okWide Tryz.prog W .any b0 25 v) (h : DataW.Trod enc Tryz.prog W base spare held 25 v d p) :
    ∃ L : List TripL, ArgT W v L ∧ ∀ t ∈ L, t.ok := by
  obtain ⟨a0, len, cap, rfl⟩ := okWide_slice Tryz.underlying25 hv
  obtain ⟨fuel, hf⟩ := h
  rcases open_slice Tryz.underlying25 hf with ⟨hcs, _⟩ | ⟨a, len', cap', m, n, D, Pl, hcs, hb, hl, hm, hmm, hx, hel⟩
  · simp [Value.cells] at hcs
    obtain ⟨rfl, rfl, rfl⟩ := hcs
    exact ⟨[], ⟨_, _, rfl, fun h => absurd h (by simp)⟩, fun t ht => absurd ht List.not_mem_nil⟩
  · simp [Value.cells] at hcs
    obtain ⟨rfl, rfl, rfl⟩ := hcs
    have hlm : len ≤ m := by rw [hmm]; split <;> omega
    rw [Tryz.cellsTriple] at hel
    obtain ⟨T, hT⟩ := choose_lt (α := TripL) (n := len) (p := fun i t => t.ok ∧ ∀ k, k < 12 → W.cell? (a.add (i * 12 + k)) = (TripL.cells t)[k]?) (fun i hi => by
      obtain ⟨cs', h1, h2⟩ := hel i (by omega)
      obtain ⟨_, hlen, hcell⟩ := World.cells?_some h1
      obtain ⟨t, rfl, hok⟩ := open_trip_cells hlen h2
      refine ⟨t, hok, fun k hk => ?_⟩
      have := hcell k hk
      rw [add_add] at this
      rw [this]
      try simp)
    refine ⟨(List.range len).map T, ⟨some a, cap, by simp, fun h0 => ?_⟩, fun t ht => ?_⟩
    · have h0' : 0 < len := by simpa using h0
      have hc0 := (hT 0 h0').2 0 (by omega)
      have hs : a.spot = none := by
        refine spot_of (w := W) (v := .int .i64 (T 0).s.k) ?_
        rw [show a = a.add (0 * 12 + 0) from by simp [Addr.add], hc0]; rfl
      obtain ⟨b, off, sp⟩ := a
      simp only at hs
      subst hs
      have hbl : b < W.heap.size := by
        have : W.cell? ⟨b, off, none⟩ = some (.int .i64 (T 0).s.k) := by
          have e : (⟨b, off, none⟩ : Addr) = (⟨b, off, none⟩ : Addr).add (0 * 12 + 0) := by simp [Addr.add]
          rw [e, hc0]; rfl
        unfold World.cell? at this
        split at this
        · rename_i hq; exact (Array.getElem?_eq_some_iff.1 hq).1
        · cases this
      refine ⟨b, off, rfl, hbl, fun j hj => ?_⟩
      have hj' : j < len := by simpa using hj
      have hc := (hT j hj').2
      have e : ((List.range len).map T)[j] = T j := by simp
      rw [e]
      have g : ∀ k, k < 12 → W.cell? ⟨b, off + j * 12 + k, none⟩ = (TripL.cells (T j))[k]? := fun k hk => by
        rw [← hc k hk, add_plain, Nat.add_assoc]
      exact ⟨⟨g 0 (by omega), g 1 (by omega), g 2 (by omega), g 3 (by omega)⟩, ⟨g 4 (by omega), g 5 (by omega), g 6 (by omega), g 7 (by omega)⟩, ⟨g 8 (by omega), g 9 (by omega), g 10 (by omega), g 11 (by omega)⟩⟩
    · obtain ⟨i, hi, rfl⟩ := List.mem_map.1 ht
      exact (hT i (List.mem_range.1 hi)).1

end

end Go.Proofs.YtnojdchodmogbaaGreat
