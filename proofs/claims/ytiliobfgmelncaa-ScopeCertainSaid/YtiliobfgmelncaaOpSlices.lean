/- How many cells the types of arguments take. A slice of parts as an argument: how it is opened into its parts. Operations as arguments: how they are opened into their parts. -/
import Derived.Test.YtiliobfgmelncaaProg
import Derived.KernelRfl
import Derived.WalkKit
import Derived.Test.YtiliobfgmelncaaFormCheck
import Derived.Test.YtiliobfgmelncaaRows
import Derived.ProofKit
import Derived.OpenShut
import Derived.SizedLaws
import Derived.Lib.SmallJoins
import Derived.Deep.Slices
import Derived.Carry
import Derived.Test.YtiliobfgmelncaaRefScopeShape
namespace Go.Proofs.Ytiliobfgmelncaa

set_option maxRecDepth 100000 in
theorem Try.cellsString : Try.prog.cellsOf 9 = 1 := by kernel_rfl
set_option maxRecDepth 100000 in
theorem Try.cellsInt : Try.prog.cellsOf 3 = 1 := by kernel_rfl
set_option maxRecDepth 100000 in
theorem Try.cellsTerm : Try.prog.cellsOf 40 = 4 := by kernel_rfl
set_option maxRecDepth 100000 in
theorem Try.cellsPart : Try.prog.cellsOf 110 = 7 := by kernel_rfl

end Go.Proofs.Ytiliobfgmelncaa

namespace Go.Proofs.Ytiliobfgmelncaa
open Go.ChangeShapes Go.WideShapes Go.ChangeAt Go.RowKit Go.Joins Go.Deep
open Go.ChangeMaps (open_string shut_string)

instance partInhabited : Inhabited PartL := ⟨noPart⟩

section
variable {H : Type} {enc : TypeId × Value → H}

set_option maxRecDepth 100000 in
theorem open_term_cells {W : World} {base n : Nat} {spare : Nat → Bool} {held : Bool} {c0 c1 c2 c3 : Value} {y : DataW H × List MemPlace} (h : DataW.trod enc Try.prog W base spare held n 40 [c0, c1, c2, c3] = some y) :
    ∃ (k : Int) (a b c : ByteArray), c0 = .int .i64 k ∧ c1 = .string a ∧ c2 = .string b ∧ c3 = .string c ∧ a.size ≤ maxLen ∧ b.size ≤ maxLen ∧ c.size ≤ maxLen := by
  obtain ⟨y0, y1, y2, y3, m, rfl, _, h0, h1, h2, h3⟩ := trod_struct4 Try.underlying40 h
  simp only [Try.cellsInt, Try.cellsString, List.drop_zero, List.drop_succ_cons, List.take_succ_cons, List.take_zero] at h0 h1 h2 h3
  obtain ⟨k, e0, _, _⟩ := DataW.trod_int Try.underlying3 h0
  obtain ⟨a, e1, _, wa⟩ := DataW.trod_string Try.underlying9 h1
  obtain ⟨b, e2, _, wb⟩ := DataW.trod_string Try.underlying9 h2
  obtain ⟨c, e3, _, wc⟩ := DataW.trod_string Try.underlying9 h3
  simp at e0 e1 e2 e3
  subst e0 e1 e2 e3
  exact ⟨k, a, b, c, rfl, rfl, rfl, rfl, wa, wb, wc⟩

set_option maxRecDepth 100000 in
theorem open_part_cells {W : World} {base n : Nat} {spare : Nat → Bool} {held : Bool} {l : List Value} {y : DataW H × List MemPlace} (hsz : l.length = 7) (h : DataW.trod enc Try.prog W base spare held n 110 l = some y) :
    ∃ p : PartL, l = PartL.cells p ∧ p.ok := by
  match l, hsz with
  | [c0, c1, c2, c3, c4, c5, c6], _ =>
    obtain ⟨xs, n, _, _, _, hlen, hg⟩ := DataW.trod_struct Try.underlying110 h
    match xs, hlen with
    | [y0, y1, y2, y3], _ =>
      have h0 := hg 0 _ rfl
      have h1 := hg 1 _ rfl
      have h2 := hg 2 _ rfl
      have h3 := hg 3 _ rfl
      simp only [List.getElem?_cons_zero, List.getElem?_cons_succ] at h0 h1 h2 h3
      replace h0 : DataW.trod enc Try.prog W base spare held n 3 (([c0, c1, c2, c3, c4, c5, c6].drop 0).take (Try.prog.cellsOf 3)) = some y0 := h0
      replace h1 : DataW.trod enc Try.prog W base spare held n 40 (([c0, c1, c2, c3, c4, c5, c6].drop 1).take (Try.prog.cellsOf 40)) = some y1 := h1
      replace h2 : DataW.trod enc Try.prog W base spare held n 9 (([c0, c1, c2, c3, c4, c5, c6].drop 5).take (Try.prog.cellsOf 9)) = some y2 := h2
      replace h3 : DataW.trod enc Try.prog W base spare held n 3 (([c0, c1, c2, c3, c4, c5, c6].drop 6).take (Try.prog.cellsOf 3)) = some y3 := h3
      rw [Try.cellsInt] at h0 h3
      rw [Try.cellsTerm] at h1
      rw [Try.cellsString] at h2
      obtain ⟨k, e0, _, _⟩ := DataW.trod_int Try.underlying3 h0
      obtain ⟨tk, a, b, c, r1, r2, r3, r4, wa, wb, wc⟩ := open_term_cells (c0 := c1) (c1 := c2) (c2 := c3) (c3 := c4) h1
      obtain ⟨m, e2, _, wm⟩ := DataW.trod_string Try.underlying9 h2
      obtain ⟨nn, e3, _, _⟩ := DataW.trod_int Try.underlying3 h3
      simp at e0 e2 e3
      subst e0 e2 e3 r1 r2 r3 r4
      exact ⟨⟨k, ⟨tk, a.data.toList, b.data.toList, c.data.toList⟩, m.data.toList, nn⟩, rfl, ⟨wa, wb, wc⟩, wm⟩

theorem spot_of {w : World} {a : Addr} {v : Value} (h : w.cell? a = some v) : a.spot = none := by
  unfold World.cell? at h
  split at h
  · split at h
    · cases h
    · rename_i hs
      cases hq : a.spot with
      | none => rfl
      | some x => rw [hq] at hs; exact absurd rfl hs
  · cases h

set_option maxRecDepth 100000 in
theorem open_parts {W : World} {base b0 : Nat} {spare : Nat → Bool} {held : Bool} {v : Value} {d : DataW H} {p : List MemPlace} (hv : Value.okWide Try.prog W .any b0 48 v) (h : DataW.Trod enc Try.prog W base spare held 48 v d p) :
    ∃ (a : Option Addr) (n c : Nat) (L : List PartL), v = .slice a n c ∧ ArgP W a n c L ∧ ∀ t ∈ L, t.ok := by
  obtain ⟨a0, len, cap, rfl⟩ := okWide_slice Try.underlying48 hv
  obtain ⟨fuel, hf⟩ := h
  rcases open_slice Try.underlying48 hf with ⟨hcs, _⟩ | ⟨a, len', cap', m, n, D, Pl, hcs, hb, hl, hm, hmm, hx, hel⟩
  · simp [Value.cells] at hcs
    obtain ⟨rfl, rfl, rfl⟩ := hcs
    exact ⟨none, 0, 0, [], rfl, ⟨rfl, Nat.le_refl _, Nat.zero_le _, fun h => absurd h (by simp)⟩, fun t ht => absurd ht List.not_mem_nil⟩
  · simp [Value.cells] at hcs
    obtain ⟨rfl, rfl, rfl⟩ := hcs
    have hlm : len ≤ m := by rw [hmm]; split <;> omega
    rw [Try.cellsPart] at hel
    obtain ⟨T, hT⟩ := choose_lt (α := PartL) (n := len) (p := fun i t => t.ok ∧ ∀ k, k < 7 → W.cell? (a.add (i * 7 + k)) = (PartL.cells t)[k]?) (fun i hi => by
      obtain ⟨cs', h1, h2⟩ := hel i (by omega)
      obtain ⟨_, hlen, hcell⟩ := World.cells?_some h1
      obtain ⟨t, rfl, hok⟩ := open_part_cells hlen h2
      refine ⟨t, hok, fun k hk => ?_⟩
      have := hcell k hk
      rw [add_add] at this
      rw [this]
      try simp)
    refine ⟨some a, len, cap, (List.range len).map T, rfl, ⟨by simp, hl, by assumption, fun h0' => ?_⟩, fun t ht => ?_⟩
    · have hc0 := (hT 0 h0').2 0 (by omega)
      have hs : a.spot = none := by
        refine spot_of (w := W) (v := .int .i64 (T 0).k) ?_
        rw [show a = a.add (0 * 7 + 0) from by simp [Addr.add], hc0]; rfl
      obtain ⟨b, off, sp⟩ := a
      simp only at hs
      subst hs
      have hbl : b < W.heap.size := by
        have : W.cell? ⟨b, off, none⟩ = some (.int .i64 (T 0).k) := by
          have e : (⟨b, off, none⟩ : Addr) = (⟨b, off, none⟩ : Addr).add (0 * 7 + 0) := by simp [Addr.add]
          rw [e, hc0]; rfl
        exact World.block_lt_of_cell? _ _ this
      refine ⟨b, off, rfl, hbl, fun j hj => ?_⟩
      have hj' : j < len := by simpa using hj
      have hc := (hT j hj').2
      have e : ((List.range len).map T)[j] = T j := by simp
      rw [e]
      have g : ∀ k, k < 7 → W.cell? ⟨b, off + j * 7 + k, none⟩ = (PartL.cells (T j))[k]? := fun k hk => by
        rw [← hc k hk, add_plain, Nat.add_assoc]
      exact ⟨g 0 (by omega), g 1 (by omega), g 2 (by omega), g 3 (by omega), g 4 (by omega), g 5 (by omega), g 6 (by omega)⟩
    · obtain ⟨i, hi, rfl⟩ := List.mem_map.1 ht
      exact (hT i (List.mem_range.1 hi)).1

end

end Go.Proofs.Ytiliobfgmelncaa

namespace Go.Proofs.Ytiliobfgmelncaa
open Go.ChangeShapes Go.WideShapes Go.ChangeAt Go.RowKit Go.Joins Go.Deep
open Go.ChangeMaps (open_string shut_string)

theorem Try.own : ownKnob Try.prog.godebug = none := by kernel_rfl
set_option maxRecDepth 100000 in
theorem Try.cellsTriple : Try.prog.cellsOf 43 = 12 := by kernel_rfl
set_option maxRecDepth 100000 in
theorem Try.cellsRow : Try.prog.cellsOf 87 = 1 := by kernel_rfl
set_option maxRecDepth 100000 in
theorem Try.cellsOp : Try.prog.cellsOf 50 = 7 := by kernel_rfl

instance termInh : Inhabited TermL := ⟨⟨0, [], [], []⟩⟩
instance tripInh : Inhabited TripL := ⟨⟨default, default, default⟩⟩
instance opInh : Inhabited OpL := ⟨⟨0, [], [], [], [], [], false⟩⟩

section
variable {H : Type} {enc : TypeId × Value → H}

/- a slice, whatever its elements -/
theorem open_gen {α : Type} [Inhabited α] {S E : TypeId} {k : Nat} (hu : Try.prog.underlying S = some (.slice E)) (hk : Try.prog.cellsOf E = k) (h0 : 0 < k) (Q : α → List Value → Prop) {W : World} {base fuel : Nat} {spare : Nat → Bool} {held : Bool} {c : Value} {y : DataW H × List MemPlace}
    (hq : ∀ n cs y, cs.length = k → DataW.trod enc Try.prog W base spare held n E cs = some y → ∃ t, Q t cs) (h : DataW.trod enc Try.prog W base spare held fuel S [c] = some y) :
    ∃ (a : Option Addr) (n cap : Nat) (L : List (α × List Value)), c = .slice a n cap ∧ L.length = n ∧ n ≤ cap ∧ cap ≤ maxLen ∧ (∀ p ∈ L, Q p.1 p.2) ∧
      (0 < n → ∃ g o, a = some ⟨g, o, none⟩ ∧ g < W.heap.size ∧ ∀ j (h : j < L.length), ∀ i, i < k → W.cell? ⟨g, o + j * k + i, none⟩ = L[j].2[i]?) := by
  rcases open_slice hu h with ⟨hcs, _⟩ | ⟨a, len, cap, m, n, D, Pl, hcs, hb, hl, hm, hmm, hx, hel⟩
  · exact ⟨none, 0, 0, [], by simpa using hcs, rfl, Nat.le_refl _, Nat.zero_le _, fun p hp => absurd hp List.not_mem_nil, fun h => absurd h (Nat.lt_irrefl _)⟩
  · have hlm : len ≤ m := by rw [hmm]; split <;> omega
    rw [hk] at hel
    obtain ⟨T, hT⟩ := choose_lt (α := α × List Value) (n := len) (p := fun i t => Q t.1 t.2 ∧ t.2.length = k ∧ ∀ j, j < k → W.cell? (a.add (i * k + j)) = t.2[j]?) (fun i hi => by
      obtain ⟨cs', h1, h2⟩ := hel i (by omega)
      obtain ⟨_, hlen, hcell⟩ := World.cells?_some h1
      obtain ⟨t, hQ⟩ := hq _ _ _ hlen h2
      refine ⟨(t, cs'), hQ, hlen, fun j hj => ?_⟩
      have := hcell j hj
      rw [add_add] at this
      exact this)
    refine ⟨some a, len, cap, (List.range len).map T, by simpa using hcs, by simp, hl, hm, fun p hp => ?_, fun hpos => ?_⟩
    · obtain ⟨i, hi, rfl⟩ := List.mem_map.1 hp
      exact (hT i (List.mem_range.1 hi)).1
    · obtain ⟨_, hl0, hc0⟩ := hT 0 hpos
      obtain ⟨v, hv⟩ : ∃ v, (T 0).2[0]? = some v := ⟨_, List.getElem?_eq_getElem (by omega)⟩
      have hca := (hc0 0 h0).trans hv
      have hs : a.spot = none := by
        refine spot_of (w := W) (v := v) ?_
        rw [show a = a.add (0 * k + 0) from by simp [Addr.add]]; exact hca
      obtain ⟨b, off, sp⟩ := a
      simp only at hs
      subst hs
      have hbl : b < W.heap.size := by
        have : W.cell? ⟨b, off, none⟩ = some v := by
          have e : (⟨b, off, none⟩ : Addr) = (⟨b, off, none⟩ : Addr).add (0 * k + 0) := by simp [Addr.add]
          rw [e]; exact hca
        exact World.block_lt_of_cell? _ _ this
      refine ⟨b, off, rfl, hbl, fun j hj i hi => ?_⟩
      have hj' : j < len := by simpa using hj
      have e : ((List.range len).map T)[j] = T j := by simp
      rw [e, ← (hT j hj').2.2 i hi, add_plain, Nat.add_assoc]

theorem open_txt {W : World} {base fuel : Nat} {spare : Nat → Bool} {held : Bool} {c : Value} {y : DataW H × List MemPlace} (h : DataW.trod enc Try.prog W base spare held fuel 23 [c] = some y) :
    ∃ a n cap L, c = .slice a n cap ∧ TxtA W a n cap L ∧ ∀ x ∈ L, (bs x).size ≤ maxLen := by
  obtain ⟨a, n, cap, L, hc, hl, h1, h2, hQ, hcell⟩ := open_gen (α := List UInt8) Try.underlying23 Try.cellsString Nat.one_pos (fun x cs => cs = [.string (bs x)] ∧ (bs x).size ≤ maxLen) (fun n cs y hlen ht => by
    match cs, hlen with
    | [v], _ =>
      obtain ⟨s, e, _, hs⟩ := DataW.trod_string Try.underlying9 ht
      exact ⟨s.data.toList, e, hs⟩) h
  refine ⟨a, n, cap, L.map (·.1), hc, ⟨by rw [List.length_map]; exact hl, h1, h2, fun h0 => ?_⟩, fun x hx => ?_⟩
  · obtain ⟨g, o, ha, hg, hcl⟩ := hcell h0
    refine ⟨g, o, ha, hg, fun j hj => ?_⟩
    rw [List.length_map] at hj
    have := hcl j hj 0 Nat.one_pos
    rw [(hQ _ (List.getElem_mem hj)).1, Nat.mul_one, Nat.add_zero] at this
    rw [List.getElem_map]; exact this
  · obtain ⟨p, hp, rfl⟩ := List.mem_map.1 hx
    exact (hQ p hp).2
def cells4 (t : TermL) : List Value := [.int .i64 t.k, .string (bs t.x), .string (bs t.y), .string (bs t.z)]
theorem open_term4 {W : World} {base n : Nat} {spare : Nat → Bool} {held : Bool} {cs : List Value} {y : DataW H × List MemPlace} (hlen : cs.length = 4) (h : DataW.trod enc Try.prog W base spare held n 40 cs = some y) : ∃ t : TermL, cs = cells4 t ∧ t.ok := by
  match cs, hlen with
  | [c0, c1, c2, c3], _ =>
    obtain ⟨k, a, b, c, rfl, rfl, rfl, rfl, wa, wb, wc⟩ := open_term_cells h
    exact ⟨⟨k, a.data.toList, b.data.toList, c.data.toList⟩, rfl, wa, wb, wc⟩
theorem open_trm {W : World} {base fuel : Nat} {spare : Nat → Bool} {held : Bool} {c : Value} {y : DataW H × List MemPlace} (h : DataW.trod enc Try.prog W base spare held fuel 87 [c] = some y) :
    ∃ a n cap L, c = .slice a n cap ∧ TrmA W a n cap L ∧ ∀ t ∈ L, t.ok := by
  obtain ⟨a, n, cap, L, hc, hl, h1, h2, hQ, hcell⟩ := open_gen (α := TermL) Try.underlying87 Try.cellsTerm (by decide) (fun t cs => cs = cells4 t ∧ t.ok) (fun n cs y hlen ht => open_term4 hlen ht) h
  refine ⟨a, n, cap, L.map (·.1), hc, ⟨by rw [List.length_map]; exact hl, h1, h2, fun h0 => ?_⟩, fun x hx => ?_⟩
  · obtain ⟨g, o, ha, hg, hcl⟩ := hcell h0
    refine ⟨g, o, ha, hg, fun j hj => ?_⟩
    rw [List.length_map] at hj
    have hc := hcl j hj
    rw [(hQ _ (List.getElem_mem hj)).1] at hc
    rw [List.getElem_map]
    exact ⟨hc 0 (by decide), hc 1 (by decide), hc 2 (by decide), hc 3 (by decide)⟩
  · obtain ⟨p, hp, rfl⟩ := List.mem_map.1 hx
    exact (hQ p hp).2

def cells12 (t : TripL) : List Value := cells4 t.s ++ cells4 t.p ++ cells4 t.o
set_option maxRecDepth 100000 in
theorem open_trip12 {W : World} {base n : Nat} {spare : Nat → Bool} {held : Bool} {cs : List Value} {y : DataW H × List MemPlace} (hlen : cs.length = 12) (h : DataW.trod enc Try.prog W base spare held n 43 cs = some y) : ∃ t : TripL, cs = cells12 t ∧ t.ok := by
  match cs, hlen with
  | [c0, c1, c2, c3, c4, c5, c6, c7, c8, c9, c10, c11], _ =>
    obtain ⟨xs, n, _, hx, _, hlen, hg⟩ := DataW.trod_struct Try.underlying43 h
    match xs, hlen with
    | [y0, y1, y2], _ =>
      have h0 := hg 0 _ rfl
      have h1 := hg 1 _ rfl
      have h2 := hg 2 _ rfl
      simp only [List.getElem?_cons_zero, List.getElem?_cons_succ] at h0 h1 h2
      obtain ⟨k, a, b, c, rfl, rfl, rfl, rfl, wa, wb, wc⟩ := open_term_cells (c0 := c0) (c1 := c1) (c2 := c2) (c3 := c3) h0
      obtain ⟨k', a', b', c', rfl, rfl, rfl, rfl, wa', wb', wc'⟩ := open_term_cells (c0 := c4) (c1 := c5) (c2 := c6) (c3 := c7) h1
      obtain ⟨k'', a'', b'', c'', rfl, rfl, rfl, rfl, wa'', wb'', wc''⟩ := open_term_cells (c0 := c8) (c1 := c9) (c2 := c10) (c3 := c11) h2
      exact ⟨⟨⟨k, a.data.toList, b.data.toList, c.data.toList⟩, ⟨k', a'.data.toList, b'.data.toList, c'.data.toList⟩, ⟨k'', a''.data.toList, b''.data.toList, c''.data.toList⟩⟩, rfl, ⟨wa, wb, wc⟩, ⟨wa', wb', wc'⟩, ⟨wa'', wb'', wc''⟩⟩
set_option maxRecDepth 100000 in
theorem open_trp {W : World} {base fuel : Nat} {spare : Nat → Bool} {held : Bool} {c : Value} {y : DataW H × List MemPlace} (h : DataW.trod enc Try.prog W base spare held fuel 44 [c] = some y) :
    ∃ a n cap L, c = .slice a n cap ∧ TrpA W a n cap L ∧ ∀ t ∈ L, t.ok := by
  obtain ⟨a, n, cap, L, hc, hl, h1, h2, hQ, hcell⟩ := open_gen (α := TripL) Try.underlying44 Try.cellsTriple (by decide) (fun t cs => cs = cells12 t ∧ t.ok) (fun n cs y hlen ht => open_trip12 hlen ht) h
  refine ⟨a, n, cap, L.map (·.1), hc, ⟨by rw [List.length_map]; exact hl, h1, h2, fun h0 => ?_⟩, fun x hx => ?_⟩
  · obtain ⟨g, o, ha, hg, hcl⟩ := hcell h0
    refine ⟨g, o, ha, hg, fun j hj => ?_⟩
    rw [List.length_map] at hj
    have hc := hcl j hj
    rw [(hQ _ (List.getElem_mem hj)).1] at hc
    rw [List.getElem_map]
    exact ⟨⟨hc 0 (by decide), hc 1 (by decide), hc 2 (by decide), hc 3 (by decide)⟩, ⟨hc 4 (by decide), hc 5 (by decide), hc 6 (by decide), hc 7 (by decide)⟩, ⟨hc 8 (by decide), hc 9 (by decide), hc 10 (by decide), hc 11 (by decide)⟩⟩
  · obtain ⟨p, hp, rfl⟩ := List.mem_map.1 hx
    exact (hQ p hp).2
set_option maxRecDepth 100000 in
theorem open_prt {W : World} {base fuel : Nat} {spare : Nat → Bool} {held : Bool} {c : Value} {y : DataW H × List MemPlace} (h : DataW.trod enc Try.prog W base spare held fuel 48 [c] = some y) :
    ∃ a n cap L, c = .slice a n cap ∧ ArgP W a n cap L ∧ ∀ t ∈ L, t.ok := by
  obtain ⟨a, n, cap, L, hc, hl, h1, h2, hQ, hcell⟩ := open_gen (α := PartL) Try.underlying48 Try.cellsPart (by decide) (fun t cs => cs = PartL.cells t ∧ t.ok) (fun n cs y hlen ht => open_part_cells hlen ht) h
  refine ⟨a, n, cap, L.map (·.1), hc, ⟨by rw [List.length_map]; exact hl, h1, h2, fun h0 => ?_⟩, fun x hx => ?_⟩
  · obtain ⟨g, o, ha, hg, hcl⟩ := hcell h0
    refine ⟨g, o, ha, hg, fun j hj => ?_⟩
    rw [List.length_map] at hj
    have hc := hcl j hj
    rw [(hQ _ (List.getElem_mem hj)).1] at hc
    rw [List.getElem_map]
    exact ⟨hc 0 (by decide), hc 1 (by decide), hc 2 (by decide), hc 3 (by decide), hc 4 (by decide), hc 5 (by decide), hc 6 (by decide)⟩
  · obtain ⟨p, hp, rfl⟩ := List.mem_map.1 hx
    exact (hQ p hp).2
theorem open_row {W : World} {base fuel : Nat} {spare : Nat → Bool} {held : Bool} {c : Value} {y : DataW H × List MemPlace} (h : DataW.trod enc Try.prog W base spare held fuel 45 [c] = some y) :
    ∃ a n cap L, c = .slice a n cap ∧ RowA W a n cap L ∧ ∀ r ∈ L, ∀ t ∈ r, t.ok := by
  obtain ⟨a, n, cap, L, hc, hl, h1, h2, hQ, hcell⟩ := open_gen (α := List TermL) Try.underlying45 Try.cellsRow Nat.one_pos (fun r cs => ∃ a' c', cs = [.slice a' r.length c'] ∧ TrmA W a' r.length c' r ∧ ∀ t ∈ r, t.ok) (fun n cs y hlen ht => by
    match cs, hlen with
    | [v], _ =>
      obtain ⟨a', n', c', r, rfl, hr, hok⟩ := open_trm ht
      have hn := hr.len
      subst hn
      exact ⟨r, a', c', rfl, hr, hok⟩) h
  refine ⟨a, n, cap, L.map (·.1), hc, ⟨by rw [List.length_map]; exact hl, h1, h2, fun h0 => ?_⟩, fun x hx => ?_⟩
  · obtain ⟨g, o, ha, hg, hcl⟩ := hcell h0
    refine ⟨g, o, ha, hg, fun j hj => ?_⟩
    rw [List.length_map] at hj
    obtain ⟨a', c', e, hr, _⟩ := hQ _ (List.getElem_mem hj)
    have := hcl j hj 0 Nat.one_pos
    rw [e, Nat.mul_one, Nat.add_zero] at this
    rw [List.getElem_map]
    exact ⟨a', c', this, hr⟩
  · obtain ⟨p, hp, rfl⟩ := List.mem_map.1 hx
    obtain ⟨_, _, _, _, hok⟩ := hQ p hp
    exact hok

set_option maxRecDepth 100000 in
/- one operation's cells -/
theorem open_op {W : World} {base n : Nat} {spare : Nat → Bool} {held : Bool} {l : List Value} {y : DataW H × List MemPlace} (hsz : l.length = 7) (h : DataW.trod enc Try.prog W base spare held n 50 l = some y) :
    ∃ (o : OpL) (A : OpS), l = OpS.cells o A ∧ OpIn W o A ∧ OpOk o := by
  match l, hsz with
  | [c0, c1, c2, c3, c4, c5, c6], _ =>
    obtain ⟨xs, n, _, _, _, hlen, hg⟩ := DataW.trod_struct Try.underlying50 h
    match xs, hlen with
    | [y0, y1, y2, y3, y4, y5], _ =>
      have h0 := hg 0 _ rfl
      have h1 := hg 1 _ rfl
      have h2 := hg 2 _ rfl
      have h3 := hg 3 _ rfl
      have h4 := hg 4 _ rfl
      have h5 := hg 5 _ rfl
      simp only [List.getElem?_cons_zero, List.getElem?_cons_succ] at h0 h1 h2 h3 h4 h5
      replace h0 : DataW.trod enc Try.prog W base spare held n 3 [c0] = some y0 := h0
      replace h1 : DataW.trod enc Try.prog W base spare held n 44 [c1] = some y1 := h1
      replace h2 : DataW.trod enc Try.prog W base spare held n 47 [c2, c3] = some y2 := h2
      replace h3 : DataW.trod enc Try.prog W base spare held n 48 [c4] = some y3 := h3
      replace h4 : DataW.trod enc Try.prog W base spare held n 9 [c5] = some y4 := h4
      replace h5 : DataW.trod enc Try.prog W base spare held n 4 [c6] = some y5 := h5
      obtain ⟨k, e0, _, _⟩ := DataW.trod_int Try.underlying3 h0
      obtain ⟨ta, tn, tc, T, rfl, hT, hTo⟩ := open_trp h1
      obtain ⟨zs, n2, _, _, _, hlen2, hg2⟩ := DataW.trod_struct Try.underlying47 h2
      obtain ⟨fa, fn, fc, F, rfl, hF, hFo⟩ := open_prt h3
      obtain ⟨m, e4, _, wm⟩ := DataW.trod_string Try.underlying9 h4
      obtain ⟨s, e5, _⟩ := DataW.trod_bool Try.underlying4 h5
      simp at e0 e4 e5
      subst e0 e4 e5
      match zs, hlen2 with
      | [z0, z1], _ =>
        have k0 := hg2 0 _ rfl
        have k1 := hg2 1 _ rfl
        simp only [List.getElem?_cons_zero, List.getElem?_cons_succ] at k0 k1
        replace k0 : DataW.trod enc Try.prog W base spare held n2 23 [c2] = some z0 := k0
        replace k1 : DataW.trod enc Try.prog W base spare held n2 45 [c3] = some z1 := k1
        obtain ⟨va, vn, vc, V, rfl, hV, hVo⟩ := open_txt k0
        obtain ⟨ra, rn, rc, R, rfl, hR, hRo⟩ := open_row k1
        exact ⟨⟨k, T, V, R, F, m.data.toList, s⟩, ⟨ta, tn, tc, va, vn, vc, ra, rn, rc, fa, fn, fc⟩, rfl, ⟨hT, hV, hR, hF⟩, ⟨hTo, hVo, hRo, hFo, wm⟩⟩

/- a slice of operations -/
set_option maxRecDepth 100000 in
theorem open_ops {W : World} {base fuel : Nat} {spare : Nat → Bool} {held : Bool} {c : Value} {y : DataW H × List MemPlace} (h : DataW.trod enc Try.prog W base spare held fuel 22 [c] = some y) :
    ∃ a n cap C, c = .slice a n cap ∧ OpsA W a n cap C ∧ ∀ o ∈ C, OpOk o := by
  obtain ⟨a, n, cap, L, hc, hl, h1, h2, hQ, hcell⟩ := open_gen (α := OpL) Try.underlying22 Try.cellsOp (by decide) (fun o cs => ∃ A, cs = OpS.cells o A ∧ OpIn W o A ∧ OpOk o) (fun n cs y hlen ht => open_op hlen ht) h
  refine ⟨a, n, cap, L.map (·.1), hc, ⟨by rw [List.length_map]; exact hl, h1, h2, fun h0 => ?_⟩, fun x hx => ?_⟩
  · obtain ⟨g, o, ha, hg, hcl⟩ := hcell h0
    refine ⟨g, o, ha, hg, fun j hj => ?_⟩
    rw [List.length_map] at hj
    obtain ⟨A, e, hin, _⟩ := hQ _ (List.getElem_mem hj)
    have hc := hcl j hj
    rw [e] at hc
    rw [List.getElem_map]
    exact ⟨A, ⟨hc 0 (by decide), hc 1 (by decide), hc 2 (by decide), hc 3 (by decide), hc 4 (by decide), hc 5 (by decide), hc 6 (by decide)⟩, hin⟩
  · obtain ⟨p, hp, rfl⟩ := List.mem_map.1 hx
    obtain ⟨_, _, _, hok⟩ := hQ p hp
    exact hok

end

end Go.Proofs.Ytiliobfgmelncaa
