/- A slice of pairs as an argument: how it is opened, and what its bulk gives of the texts. -/
import Derived.Test.YtnapnfobnfadeaaPctRow
import Derived.Test.YtnapnfobnfadeaaPctStore
import Derived.Deep.Slices
import Derived.Carry
namespace Go.Proofs.Ytnapnfobnfadeaa
open Go.ChangeShapes Go.WideShapes Go.ChangeAt Go.RowKit Go.Joins Go.Deep
open Go.ChangeMaps (open_string shut_string)

set_option maxRecDepth 100000 in
theorem Try.cellsPair : Try.prog.cellsOf 53 = 2 := by kernel_rfl
instance pairInh : Inhabited PairL := ⟨⟨[], []⟩⟩
theorem laid_out : laidOutB Try.prog = true := by kernel_rfl

theorem spot_of {w : World} {a : Addr} {v : Value} (h : w.cell? a = some v) : a.spot = none := by
  unfold World.cell? at h
  split at h
  · split at h
    · cases h
    · rename_i hs
      cases hq : a.spot with
      | none => rfl
      | some x => rw [hq] at hs; exact absurd rfl hs
  · cases h
theorem part_bulk {H : Type} {d : DataW H} {l : List (DataW H)} (h : d ∈ l) : Rows.uptoBulk d ≤ Rows.uptoBulkAll l := by
  induction l with
  | nil => cases h
  | cons x r ih =>
    simp only [Rows.uptoBulkAll]
    rcases List.mem_cons.1 h with e | e
    · subst e; omega
    · have := ih e; omega

section
variable {H : Type} {enc : TypeId × Value → H}

set_option maxRecDepth 100000 in
theorem open_pair {W : World} {base n : Nat} {spare : Nat → Bool} {held : Bool} {cs : List Value} {y : DataW H × List MemPlace} (hlen : cs.length = 2) (h : DataW.trod enc Try.prog W base spare held n 53 cs = some y) : ∃ p : PairL, cs = p.cs ∧ y.1 = .agg [.lit (.string p.k), .lit (.string p.v)] := by
  match cs, hlen with
  | [c0, c1], _ =>
    obtain ⟨zs, n2, _, hy, _, hlen2, hg2⟩ := DataW.trod_struct Try.underlying53 h
    match zs, hlen2 with
    | [z0, z1], _ =>
      have k0 := hg2 0 _ rfl
      have k1 := hg2 1 _ rfl
      simp only [List.getElem?_cons_zero, List.getElem?_cons_succ] at k0 k1
      replace k0 : DataW.trod enc Try.prog W base spare held n2 9 [c0] = some z0 := k0
      replace k1 : DataW.trod enc Try.prog W base spare held n2 9 [c1] = some z1 := k1
      obtain ⟨a, e0, hz0, _⟩ := DataW.trod_string Try.underlying9 k0
      obtain ⟨b, e1, hz1, _⟩ := DataW.trod_string Try.underlying9 k1
      simp at e0 e1
      subst e0 e1 hz0 hz1
      refine ⟨⟨a.data.toList, b.data.toList⟩, rfl, ?_⟩
      rw [hy]; rfl
theorem open_pairs {W : World} {base fuel : Nat} {spare : Nat → Bool} {held : Bool} {c : Value} {y : DataW H × List MemPlace} (h : DataW.trod enc Try.prog W base spare held fuel 30 [c] = some y) :
    ∃ a n cap L, c = .slice a n cap ∧ PrA W a n cap L ∧ ∀ p ∈ L, p.k.length + p.v.length ≤ Rows.uptoBulk y.1 := by
  rcases open_slice Try.underlying30 h with ⟨hcs, _⟩ | ⟨a, len, cap, m, n, D, Pl, hcs, hb, hl, hm, hmm, hx, hel⟩
  · exact ⟨none, 0, 0, [], by simpa using hcs, prA_nil W, fun p hp => absurd hp List.not_mem_nil⟩
  · have hlm : len ≤ m := by rw [hmm]; split <;> omega
    rw [Try.cellsPair] at hel
    obtain ⟨T, hT⟩ := choose_lt (α := PairL) (n := len) (p := fun i t => D i = .agg [.lit (.string t.k), .lit (.string t.v)] ∧ ∀ j, j < 2 → W.cell? (a.add (i * 2 + j)) = t.cs[j]?) (fun i hi => by
      obtain ⟨cs', h1, h2⟩ := hel i (by omega)
      obtain ⟨_, hlen, hcell⟩ := World.cells?_some h1
      obtain ⟨t, rfl, hd⟩ := open_pair hlen h2
      refine ⟨t, hd, fun j hj => ?_⟩
      have := hcell j hj
      rw [add_add] at this
      exact this)
    refine ⟨some a, len, cap, (List.range len).map T, by simpa using hcs, ⟨by simp, hl, hm, fun hpos => ?_⟩, fun p hp => ?_⟩
    · have hca : W.cell? (a.add (0 * 2 + 0)) = some (.string (bs (T 0).k)) := ((hT 0 hpos).2 0 (by decide)).trans rfl
      have hs : a.spot = none := by
        refine spot_of (w := W) (v := .string (bs (T 0).k)) ?_
        rw [show a = a.add (0 * 2 + 0) from by simp [Addr.add]]; exact hca
      obtain ⟨b, off, sp⟩ := a
      simp only at hs
      subst hs
      have hbl : b < W.heap.size := by
        have : W.cell? ⟨b, off, none⟩ = some (.string (bs (T 0).k)) := by
          have e : (⟨b, off, none⟩ : Addr) = (⟨b, off, none⟩ : Addr).add (0 * 2 + 0) := by simp [Addr.add]
          rw [e]; exact hca
        exact World.block_lt_of_cell? _ _ this
      refine ⟨b, off, rfl, hbl, fun j hj => ?_⟩
      have hj' : j < len := by simpa using hj
      have e : ((List.range len).map T)[j] = T j := by simp
      have g : ∀ k, k < 2 → W.cell? ⟨b, off + j * 2 + k, none⟩ = (T j).cs[k]? := fun k hk => by
        rw [← (hT j hj').2 k hk, add_at0, Nat.add_assoc]
      rw [e]
      exact ⟨(g 0 (by decide)).trans rfl, (g 1 (by decide)).trans rfl⟩
    · obtain ⟨i, hi, rfl⟩ := List.mem_map.1 hp
      have hi' := List.mem_range.1 hi
      rw [hx]
      have h1 : Rows.uptoBulk (D i) ≤ Rows.uptoBulkAll ((List.range len).map D) := part_bulk (List.mem_map.2 ⟨i, hi, rfl⟩)
      have h2 : Rows.uptoBulk (D i) = (T i).k.length + 1 + ((T i).v.length + 1 + 0) + 1 := by rw [(hT i hi').1]; simp only [Rows.uptoBulk, Rows.uptoBulkAll]
      simp only [Rows.uptoBulk]
      omega
end

end Go.Proofs.Ytnapnfobnfadeaa
