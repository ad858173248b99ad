/- A slice of parts as an argument: how it is opened into its parts. -/
import Derived.Test.YtgkpdcjkobieiaaDoorFormCheck
import Derived.Test.YtgkpdcjkobieiaaDoorFormLaids
import Derived.Deep.Slices
import Derived.Carry
namespace Go.Proofs.YtgkpdcjkobieiaaDoor
open Go.ChangeShapes Go.WideShapes Go.ChangeAt Go.RowKit Go.Joins Go.Deep
open Go.ChangeMaps (open_string shut_string)

set_option maxRecDepth 100000 in
theorem Tryd.cellsInt : Tryd.prog.cellsOf 3 = 1 := by kernel_rfl
set_option maxRecDepth 100000 in
theorem Tryd.cellsTerm : Tryd.prog.cellsOf 33 = 4 := by kernel_rfl
set_option maxRecDepth 100000 in
theorem Tryd.cellsPart : Tryd.prog.cellsOf 41 = 7 := by kernel_rfl

instance partInhabited : Inhabited PartL := ⟨noPart⟩

section
variable {H : Type} {enc : TypeId × Value → H}

set_option maxRecDepth 100000 in
theorem open_term_cells {W : World} {base n : Nat} {spare : Nat → Bool} {held : Bool} {c0 c1 c2 c3 : Value} {y : DataW H × List MemPlace} (h : DataW.trod enc Tryd.prog W base spare held n 33 [c0, c1, c2, c3] = some y) :
    ∃ (k : Int) (a b c : ByteArray), c0 = .int .i64 k ∧ c1 = .string a ∧ c2 = .string b ∧ c3 = .string c ∧ a.size ≤ maxLen ∧ b.size ≤ maxLen ∧ c.size ≤ maxLen := by
  obtain ⟨y0, y1, y2, y3, m, rfl, _, h0, h1, h2, h3⟩ := trod_struct4 Tryd.underlying33 h
  simp only [Tryd.cellsInt, Tryd.cellsString, List.drop_zero, List.drop_succ_cons, List.take_succ_cons, List.take_zero] at h0 h1 h2 h3
  obtain ⟨k, e0, _, _⟩ := DataW.trod_int Tryd.underlying3 h0
  obtain ⟨a, e1, _, wa⟩ := DataW.trod_string Tryd.underlying9 h1
  obtain ⟨b, e2, _, wb⟩ := DataW.trod_string Tryd.underlying9 h2
  obtain ⟨c, e3, _, wc⟩ := DataW.trod_string Tryd.underlying9 h3
  simp at e0 e1 e2 e3
  subst e0 e1 e2 e3
  exact ⟨k, a, b, c, rfl, rfl, rfl, rfl, wa, wb, wc⟩

set_option maxRecDepth 100000 in
theorem open_part_cells {W : World} {base n : Nat} {spare : Nat → Bool} {held : Bool} {l : List Value} {y : DataW H × List MemPlace} (hsz : l.length = 7) (h : DataW.trod enc Tryd.prog W base spare held n 41 l = some y) :
    ∃ p : PartL, l = PartL.cells p ∧ p.ok := by
  match l, hsz with
  | [c0, c1, c2, c3, c4, c5, c6], _ =>
    obtain ⟨xs, n, _, _, _, hlen, hg⟩ := DataW.trod_struct Tryd.underlying41 h
    match xs, hlen with
    | [y0, y1, y2, y3], _ =>
      have h0 := hg 0 _ rfl
      have h1 := hg 1 _ rfl
      have h2 := hg 2 _ rfl
      have h3 := hg 3 _ rfl
      simp only [List.getElem?_cons_zero, List.getElem?_cons_succ] at h0 h1 h2 h3
      replace h0 : DataW.trod enc Tryd.prog W base spare held n 3 (([c0, c1, c2, c3, c4, c5, c6].drop 0).take (Tryd.prog.cellsOf 3)) = some y0 := h0
      replace h1 : DataW.trod enc Tryd.prog W base spare held n 33 (([c0, c1, c2, c3, c4, c5, c6].drop 1).take (Tryd.prog.cellsOf 33)) = some y1 := h1
      replace h2 : DataW.trod enc Tryd.prog W base spare held n 9 (([c0, c1, c2, c3, c4, c5, c6].drop 5).take (Tryd.prog.cellsOf 9)) = some y2 := h2
      replace h3 : DataW.trod enc Tryd.prog W base spare held n 3 (([c0, c1, c2, c3, c4, c5, c6].drop 6).take (Tryd.prog.cellsOf 3)) = some y3 := h3
      rw [Tryd.cellsInt] at h0 h3
      rw [Tryd.cellsTerm] at h1
      rw [Tryd.cellsString] at h2
      obtain ⟨k, e0, _, _⟩ := DataW.trod_int Tryd.underlying3 h0
      obtain ⟨tk, a, b, c, r1, r2, r3, r4, wa, wb, wc⟩ := open_term_cells (c0 := c1) (c1 := c2) (c2 := c3) (c3 := c4) h1
      obtain ⟨m, e2, _, wm⟩ := DataW.trod_string Tryd.underlying9 h2
      obtain ⟨nn, e3, _, _⟩ := DataW.trod_int Tryd.underlying3 h3
      simp at e0 e2 e3
      subst e0 e2 e3 r1 r2 r3 r4
      exact ⟨⟨k, ⟨tk, a.data.toList, b.data.toList, c.data.toList⟩, m.data.toList, nn⟩, rfl, ⟨wa, wb, wc⟩, wm⟩

theorem spot_of {w : World} {a : Addr} {v : Value} (h : w.cell? a = some v) : a.spot = none := by
  unfold World.cell? at h
  split at h
  · split at h
    · cases h
    · rename_i hs
      cases hq : a.spot with
      | none => rfl
      | some x => rw [hq] at hs; exact absurd rfl hs
  · cases h

set_option maxRecDepth 100000 in
theorem open_parts {W : World} {base b0 : Nat} {spare : Nat → Bool} {held : Bool} {v : Value} {d : DataW H} {p : List MemPlace} (hv : Value.okWide Tryd.prog W .any b0 22 v) (h : DataW.Trod enc Tryd.prog W base spare held 22 v d p) :
    ∃ (a : Option Addr) (n c : Nat) (L : List PartL), v = .slice a n c ∧ ArgP W a n c L ∧ ∀ t ∈ L, t.ok := by
  obtain ⟨a0, len, cap, rfl⟩ := okWide_slice Tryd.underlying22 hv
  obtain ⟨fuel, hf⟩ := h
  rcases open_slice Tryd.underlying22 hf with ⟨hcs, _⟩ | ⟨a, len', cap', m, n, D, Pl, hcs, hb, hl, hm, hmm, hx, hel⟩
  · simp [Value.cells] at hcs
    obtain ⟨rfl, rfl, rfl⟩ := hcs
    exact ⟨none, 0, 0, [], rfl, ⟨rfl, Nat.le_refl _, Nat.zero_le _, fun h => absurd h (by simp)⟩, fun t ht => absurd ht List.not_mem_nil⟩
  · simp [Value.cells] at hcs
    obtain ⟨rfl, rfl, rfl⟩ := hcs
    have hlm : len ≤ m := by rw [hmm]; split <;> omega
    rw [Tryd.cellsPart] at hel
    obtain ⟨T, hT⟩ := choose_lt (α := PartL) (n := len) (p := fun i t => t.ok ∧ ∀ k, k < 7 → W.cell? (a.add (i * 7 + k)) = (PartL.cells t)[k]?) (fun i hi => by
      obtain ⟨cs', h1, h2⟩ := hel i (by omega)
      obtain ⟨_, hlen, hcell⟩ := World.cells?_some h1
      obtain ⟨t, rfl, hok⟩ := open_part_cells hlen h2
      refine ⟨t, hok, fun k hk => ?_⟩
      have := hcell k hk
      rw [add_add] at this
      rw [this]
      try simp)
    refine ⟨some a, len, cap, (List.range len).map T, rfl, ⟨by simp, hl, by assumption, fun h0' => ?_⟩, fun t ht => ?_⟩
    · have hc0 := (hT 0 h0').2 0 (by omega)
      have hs : a.spot = none := by
        refine spot_of (w := W) (v := .int .i64 (T 0).k) ?_
        rw [show a = a.add (0 * 7 + 0) from by simp [Addr.add], hc0]; rfl
      obtain ⟨b, off, sp⟩ := a
      simp only at hs
      subst hs
      have hbl : b < W.heap.size := by
        have : W.cell? ⟨b, off, none⟩ = some (.int .i64 (T 0).k) := by
          have e : (⟨b, off, none⟩ : Addr) = (⟨b, off, none⟩ : Addr).add (0 * 7 + 0) := by simp [Addr.add]
          rw [e, hc0]; rfl
        exact cell_in this
      refine ⟨b, off, rfl, hbl, fun j hj => ?_⟩
      have hj' : j < len := by simpa using hj
      have hc := (hT j hj').2
      have e : ((List.range len).map T)[j] = T j := by simp
      rw [e]
      have g : ∀ k, k < 7 → W.cell? ⟨b, off + j * 7 + k, none⟩ = (PartL.cells (T j))[k]? := fun k hk => by
        rw [← hc k hk, add_plain, Nat.add_assoc]
      exact ⟨g 0 (by omega), g 1 (by omega), g 2 (by omega), g 3 (by omega), g 4 (by omega), g 5 (by omega), g 6 (by omega)⟩
    · obtain ⟨i, hi, rfl⟩ := List.mem_map.1 ht
      exact (hT i (List.mem_range.1 hi)).1

end

end Go.Proofs.YtgkpdcjkobieiaaDoor
