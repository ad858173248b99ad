/- A slice of acts as an argument: how it is opened into its acts. -/
import Derived.Test.YtnojdchodmogbaaGreatTripRows
namespace Go.Proofs.YtnojdchodmogbaaGreat
open Go.ChangeShapes Go.WideShapes Go.ChangeAt Go.RowKit Go.Joins Go.Deep
open Go.ChangeMaps (open_string shut_string)

structure ActL where
  out : Bool
  t : TripL
instance : Inhabited ActL := ⟨⟨false, default⟩⟩
def ActAt (w : World) (g o : Nat) (a : ActL) : Prop := w.cell? ⟨g, o, none⟩ = some (.bool a.out) ∧ CellsAt w g (o + 1) a.t
def ArgA (w : World) (v : Value) (L : List ActL) : Prop :=
  ∃ a c, v = .slice a L.length c ∧ (0 < L.length → ∃ g o, a = some ⟨g, o, none⟩ ∧ g < w.heap.size ∧ ∀ j (h : j < L.length), ActAt w g (o + j * 13) L[j])

section
variable {H : Type} {enc : TypeId × Value → H}
set_option maxRecDepth 100000 in
theorem Tryz.cellsAct : Tryz.prog.cellsOf 31 = 13 := by kernel_rfl
set_option maxRecDepth 100000 in
theorem Tryz.cellsBool : Tryz.prog.cellsOf 4 = 1 := by kernel_rfl

set_option maxRecDepth 100000 in
theorem open_act_cells {W : World} {base n : Nat} {spare : Nat → Bool} {held : Bool} {l : List Value} {y : DataW H × List MemPlace} (hsz : l.length = 13) (h : DataW.trod enc Tryz.prog W base spare held n 31 l = some y) :
    ∃ (b : Bool) (t : TripL), l = .bool b :: TripL.cells t ∧ t.ok := by
  match l, hsz with
  | c :: r, hsz =>
    obtain ⟨y0, y1, m, _, _, h0, h1⟩ := trod_struct2 Tryz.underlying31 h
    simp only [Tryz.cellsBool, Tryz.cellsTriple, List.drop_zero, List.drop_succ_cons, List.take_succ_cons, List.take_zero] at h0 h1
    obtain ⟨b, e0, _⟩ := DataW.trod_bool Tryz.underlying4 h0
    have hr : r.length = 12 := by simpa using hsz
    rw [List.take_of_length_le (by omega)] at h1
    obtain ⟨t, e1, ht⟩ := open_trip_cells hr h1
    simp at e0
    exact ⟨b, t, by rw [e0, e1], ht⟩

set_option maxRecDepth 100000 in
theorem open_acts {W : World} {base b0 : Nat} {spare : Nat → Bool} {held : Bool} {v : Value} {d : DataW H} {p : List MemPlace} (hv : Value.okWide Tryz.prog W .any b0 22 v) (h : DataW.Trod enc Tryz.prog W base spare held 22 v d p) :
    ∃ L : List ActL, ArgA W v L ∧ ∀ a ∈ L, a.t.ok := by
  obtain ⟨a0, len, cap, rfl⟩ := okWide_slice Tryz.underlying22 hv
  obtain ⟨fuel, hf⟩ := h
  rcases open_slice Tryz.underlying22 hf with ⟨hcs, _⟩ | ⟨a, len', cap', m, n, D, Pl, hcs, hb, hl, hm, hmm, hx, hel⟩
  · simp [Value.cells] at hcs
    obtain ⟨rfl, rfl, rfl⟩ := hcs
    exact ⟨[], ⟨_, _, rfl, fun h => absurd h (by simp)⟩, fun t ht => absurd ht List.not_mem_nil⟩
  · simp [Value.cells] at hcs
    obtain ⟨rfl, rfl, rfl⟩ := hcs
    have hlm : len ≤ m := by rw [hmm]; split <;> omega
    rw [Tryz.cellsAct] at hel
    obtain ⟨T, hT⟩ := choose_lt (α := ActL) (n := len) (p := fun i t => t.t.ok ∧ ∀ k, k < 13 → W.cell? (a.add (i * 13 + k)) = (Value.bool t.out :: TripL.cells t.t)[k]?) (fun i hi => by
      obtain ⟨cs', h1, h2⟩ := hel i (by omega)
      obtain ⟨_, hlen, hcell⟩ := World.cells?_some h1
      obtain ⟨b, t, rfl, hok⟩ := open_act_cells hlen h2
      refine ⟨⟨b, t⟩, hok, fun k hk => ?_⟩
      have := hcell k hk
      rw [add_add] at this
      rw [this]
      try simp)
    refine ⟨(List.range len).map T, ⟨some a, cap, by simp, fun h0 => ?_⟩, fun t ht => ?_⟩
    · have h0' : 0 < len := by simpa using h0
      have hc0 := (hT 0 h0').2 0 (by omega)
      have hs : a.spot = none := by
        refine spot_of (w := W) (v := .bool (T 0).out) ?_
        rw [show a = a.add (0 * 13 + 0) from by simp [Addr.add], hc0]; rfl
      obtain ⟨b, off, sp⟩ := a
      simp only at hs
      subst hs
      have hbl : b < W.heap.size := by
        have : W.cell? ⟨b, off, none⟩ = some (.bool (T 0).out) := by
          have e : (⟨b, off, none⟩ : Addr) = (⟨b, off, none⟩ : Addr).add (0 * 13 + 0) := by simp [Addr.add]
          rw [e, hc0]; rfl
        unfold World.cell? at this
        split at this
        · rename_i hq; exact (Array.getElem?_eq_some_iff.1 hq).1
        · cases this
      refine ⟨b, off, rfl, hbl, fun j hj => ?_⟩
      have hj' : j < len := by simpa using hj
      have hc := (hT j hj').2
      have e : ((List.range len).map T)[j] = T j := by simp
      rw [e]
      have g : ∀ k, k < 13 → W.cell? ⟨b, off + j * 13 + k, none⟩ = (Value.bool (T j).out :: TripL.cells (T j).t)[k]? := fun k hk => by
        rw [← hc k hk, add_plain, Nat.add_assoc]
      exact ⟨g 0 (by omega), ⟨g 1 (by omega), g 2 (by omega), g 3 (by omega), g 4 (by omega)⟩, ⟨g 5 (by omega), g 6 (by omega), g 7 (by omega), g 8 (by omega)⟩, ⟨g 9 (by omega), g 10 (by omega), g 11 (by omega), g 12 (by omega)⟩⟩
    · obtain ⟨i, hi, rfl⟩ := List.mem_map.1 ht
      exact (hT i (List.mem_range.1 hi)).1

end

end Go.Proofs.YtnojdchodmogbaaGreat
