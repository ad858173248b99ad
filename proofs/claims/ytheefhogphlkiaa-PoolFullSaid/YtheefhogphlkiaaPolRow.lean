/- The arguments of layer 19's laws: how acts, messages and texts are opened. -/
import Derived.Test.YtheefhogphlkiaaRows
import Derived.Test.YtheefhogphlkiaaLawPolNil
import Derived.ProofKit
import Derived.OpenShut
import Derived.SizedLaws
import Derived.Lib.SmallJoins
import Derived.Deep.Slices
import Derived.Carry
namespace Go.Proofs.Ytheefhogphlkiaa
open Go.ChangeShapes Go.WideShapes Go.ChangeAt Go.RowKit Go.Joins Go.Deep
open Go.ChangeMaps (open_string shut_string)

set_option maxRecDepth 100000 in
theorem Try.own : ownKnob Try.prog.godebug = none := by kernel_rfl
set_option maxRecDepth 100000 in
theorem Try.cellsInt : Try.prog.cellsOf 3 = 1 := by kernel_rfl
set_option maxRecDepth 100000 in
theorem Try.cellsString : Try.prog.cellsOf 9 = 1 := by kernel_rfl
set_option maxRecDepth 100000 in
theorem Try.cellsMessage : Try.prog.cellsOf 29 = 3 := by kernel_rfl
set_option maxRecDepth 100000 in
theorem Try.cellsAct : Try.prog.cellsOf 31 = 5 := by kernel_rfl
theorem laid_out : laidOutB Try.prog = true := by kernel_rfl

theorem spot_of {w : World} {a : Addr} {v : Value} (h : w.cell? a = some v) : a.spot = none := by
  unfold World.cell? at h
  split at h
  · split at h
    · cases h
    · rename_i hs
      cases hq : a.spot with
      | none => rfl
      | some x => rw [hq] at hs; exact absurd rfl hs
  · cases h

section
variable {H : Type} {enc : TypeId × Value → H}

/- a slice, whatever its elements -/
theorem open_gen {α : Type} [Inhabited α] {S E : TypeId} {k : Nat} (hu : Try.prog.underlying S = some (.slice E)) (hk : Try.prog.cellsOf E = k) (h0 : 0 < k) (Q : α → List Value → Prop) {W : World} {base fuel : Nat} {spare : Nat → Bool} {held : Bool} {c : Value} {y : DataW H × List MemPlace}
    (hq : ∀ n cs y, cs.length = k → DataW.trod enc Try.prog W base spare held n E cs = some y → ∃ t, Q t cs) (h : DataW.trod enc Try.prog W base spare held fuel S [c] = some y) :
    ∃ (a : Option Addr) (n cap : Nat) (L : List (α × List Value)), c = .slice a n cap ∧ L.length = n ∧ n ≤ cap ∧ cap ≤ maxLen ∧ (∀ p ∈ L, Q p.1 p.2) ∧
      (0 < n → ∃ g o, a = some ⟨g, o, none⟩ ∧ g < W.heap.size ∧ ∀ j (h : j < L.length), ∀ i, i < k → W.cell? ⟨g, o + j * k + i, none⟩ = L[j].2[i]?) := by
  rcases open_slice hu h with ⟨hcs, _⟩ | ⟨a, len, cap, m, n, D, Pl, hcs, hb, hl, hm, hmm, hx, hel⟩
  · exact ⟨none, 0, 0, [], by simpa using hcs, rfl, Nat.le_refl _, Nat.zero_le _, fun p hp => absurd hp List.not_mem_nil, fun h => absurd h (Nat.lt_irrefl _)⟩
  · have hlm : len ≤ m := by rw [hmm]; split <;> omega
    rw [hk] at hel
    obtain ⟨T, hT⟩ := choose_lt (α := α × List Value) (n := len) (p := fun i t => Q t.1 t.2 ∧ t.2.length = k ∧ ∀ j, j < k → W.cell? (a.add (i * k + j)) = t.2[j]?) (fun i hi => by
      obtain ⟨cs', h1, h2⟩ := hel i (by omega)
      obtain ⟨_, hlen, hcell⟩ := World.cells?_some h1
      obtain ⟨t, hQ⟩ := hq _ _ _ hlen h2
      refine ⟨(t, cs'), hQ, hlen, fun j hj => ?_⟩
      have := hcell j hj
      rw [add_add] at this
      exact this)
    refine ⟨some a, len, cap, (List.range len).map T, by simpa using hcs, by simp, hl, hm, fun p hp => ?_, fun hpos => ?_⟩
    · obtain ⟨i, hi, rfl⟩ := List.mem_map.1 hp
      exact (hT i (List.mem_range.1 hi)).1
    · obtain ⟨_, hl0, hc0⟩ := hT 0 hpos
      obtain ⟨v, hv⟩ : ∃ v, (T 0).2[0]? = some v := ⟨_, List.getElem?_eq_getElem (by omega)⟩
      have hca := (hc0 0 h0).trans hv
      have hs : a.spot = none := by
        refine spot_of (w := W) (v := v) ?_
        rw [show a = a.add (0 * k + 0) from by simp [Addr.add]]; exact hca
      obtain ⟨b, off, sp⟩ := a
      simp only at hs
      subst hs
      have hbl : b < W.heap.size := by
        have : W.cell? ⟨b, off, none⟩ = some v := by
          have e : (⟨b, off, none⟩ : Addr) = (⟨b, off, none⟩ : Addr).add (0 * k + 0) := by simp [Addr.add]
          rw [e]; exact hca
        exact World.block_lt_of_cell? _ _ this
      refine ⟨b, off, rfl, hbl, fun j hj i hi => ?_⟩
      have hj' : j < len := by simpa using hj
      have e : ((List.range len).map T)[j] = T j := by simp
      rw [e, ← (hT j hj').2.2 i hi, add_plain, Nat.add_assoc]


def MsgL.ok (m : MsgL) : Prop := (Lit.int .i64 m.f).wf = true ∧ (Lit.int .i64 m.t).wf = true ∧ m.b.size ≤ maxLen
set_option maxRecDepth 100000 in
theorem open_msg {W : World} {base n : Nat} {spare : Nat → Bool} {held : Bool} {cs : List Value} {y : DataW H × List MemPlace} (hlen : cs.length = 3) (h : DataW.trod enc Try.prog W base spare held n 29 cs = some y) : ∃ m : MsgL, cs = m.cs ∧ m.ok := by
  match cs, hlen with
  | [c0, c1, c2], _ =>
    obtain ⟨y0, y1, y2, m, rfl, _, h0, h1, h2⟩ := trod_struct3 Try.underlying29 h
    simp only [Try.cellsInt, Try.cellsString, List.drop_zero, List.drop_succ_cons, List.take_succ_cons, List.take_zero] at h0 h1 h2
    obtain ⟨f, e0, _, wf⟩ := DataW.trod_int Try.underlying3 h0
    obtain ⟨t, e1, _, wt⟩ := DataW.trod_int Try.underlying3 h1
    obtain ⟨b, e2, _, wb⟩ := DataW.trod_string Try.underlying9 h2
    simp at e0 e1 e2
    subst e0 e1 e2
    exact ⟨⟨f, t, b⟩, rfl, wf, wt, wb⟩
def ActL.cs (a : ActL) : List Value := [.int .i64 a.kind, .int .i64 a.n, .int .i64 a.m.f, .int .i64 a.m.t, .string a.m.b]
set_option maxRecDepth 100000 in
theorem open_act {W : World} {base n : Nat} {spare : Nat → Bool} {held : Bool} {cs : List Value} {y : DataW H × List MemPlace} (hlen : cs.length = 5) (h : DataW.trod enc Try.prog W base spare held n 31 cs = some y) : ∃ a : ActL, cs = a.cs := by
  match cs, hlen with
  | [c0, c1, c2, c3, c4], _ =>
    obtain ⟨y0, y1, y2, m, _, _, h0, h1, h2⟩ := trod_struct3 Try.underlying31 h
    simp only [Try.cellsInt, Try.cellsMessage, List.drop_zero, List.drop_succ_cons, List.take_succ_cons, List.take_zero] at h0 h1 h2
    obtain ⟨k, e0, _, _⟩ := DataW.trod_int Try.underlying3 h0
    obtain ⟨i, e1, _, _⟩ := DataW.trod_int Try.underlying3 h1
    obtain ⟨x, e2, _⟩ := open_msg rfl h2
    simp at e0 e1
    subst e0 e1
    simp only [MsgL.cs, List.cons.injEq, and_true] at e2
    obtain ⟨rfl, rfl, rfl⟩ := e2
    exact ⟨⟨k, i, x⟩, rfl⟩
/- acts as an argument, wherever their slice begins -/
def ArgA (w : World) (v : Value) (A : List ActL) : Prop :=
  ∃ a c, v = .slice a A.length c ∧ (0 < A.length → ∃ g o, a = some ⟨g, o, none⟩ ∧ g < w.heap.size ∧ ∀ j (h : j < A.length), Act5 w g (o + j * 5) A[j])
theorem open_acts {W : World} {base fuel : Nat} {spare : Nat → Bool} {held : Bool} {c : Value} {y : DataW H × List MemPlace} (h : DataW.trod enc Try.prog W base spare held fuel 22 [c] = some y) : ∃ A, ArgA W c A := by
  obtain ⟨a, n, cap, L, hc, hl, h1, h2, hQ, hcell⟩ := open_gen (α := ActL) Try.underlying22 Try.cellsAct (by decide) (fun a cs => cs = a.cs) (fun n cs y hlen ht => open_act hlen ht) h
  refine ⟨L.map (·.1), a, cap, by rw [List.length_map, hl]; exact hc, fun h0 => ?_⟩
  rw [List.length_map, hl] at h0
  obtain ⟨g, o, ha, hg, hcl⟩ := hcell h0
  refine ⟨g, o, ha, hg, fun j hj => ?_⟩
  rw [List.length_map] at hj
  have hq := hQ _ (List.getElem_mem hj)
  have F : ∀ i, i < 5 → W.cell? ⟨g, o + j * 5 + i, none⟩ = (L[j].1).cs[i]? := fun i hi => by rw [hcl j hj i hi, hq]
  rw [List.getElem_map]
  exact ⟨(F 0 (by decide)).trans rfl, (F 1 (by decide)).trans rfl, (F 2 (by decide)).trans rfl, (F 3 (by decide)).trans rfl, (F 4 (by decide)).trans rfl⟩
/- texts as an argument -/
def ArgS (w : World) (v : Value) (L : List ByteArray) : Prop :=
  ∃ a c, v = .slice a L.length c ∧ L.length ≤ c ∧ (0 < L.length → ∃ g o, a = some ⟨g, o, none⟩ ∧ g < w.heap.size ∧ ∀ j (h : j < L.length), w.cell? ⟨g, o + j, none⟩ = some (.string L[j]))
theorem open_texts {W : World} {base fuel : Nat} {spare : Nat → Bool} {held : Bool} {c : Value} {y : DataW H × List MemPlace} (h : DataW.trod enc Try.prog W base spare held fuel 45 [c] = some y) : ∃ L, ArgS W c L := by
  obtain ⟨a, n, cap, L, hc, hl, h1, h2, hQ, hcell⟩ := open_gen (α := ByteArray) Try.underlying45 Try.cellsString Nat.one_pos (fun x cs => cs = [.string x]) (fun n cs y hlen ht => by
    match cs, hlen with
    | [v], _ =>
      obtain ⟨s, e, _, _⟩ := DataW.trod_string Try.underlying9 ht
      exact ⟨s, e⟩) h
  refine ⟨L.map (·.1), a, cap, by rw [List.length_map, hl]; exact hc, by rw [List.length_map, hl]; exact h1, fun h0 => ?_⟩
  rw [List.length_map, hl] at h0
  obtain ⟨g, o, ha, hg, hcl⟩ := hcell h0
  refine ⟨g, o, ha, hg, fun j hj => ?_⟩
  rw [List.length_map] at hj
  have hq := hQ _ (List.getElem_mem hj)
  have := hcl j hj 0 Nat.one_pos
  rw [hq, Nat.mul_one, Nat.add_zero] at this
  rw [List.getElem_map]; exact this
end

end Go.Proofs.Ytheefhogphlkiaa
