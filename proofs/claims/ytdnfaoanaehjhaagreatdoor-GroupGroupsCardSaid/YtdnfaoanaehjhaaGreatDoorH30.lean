/- ShpOpen, ShpReach, GrpOpen, put together. -/
import Derived.Test.YtdnfaoanaehjhaaGreatDoorH29
import Derived.Test.YtdnfaoanaehjhaaGreatDoorH7
import Derived.Test.YtdnfaoanaehjhaaGreatDoorH5
import Derived.Deep.Slices
import Derived.Carry
import Derived.Test.YtdnfaoanaehjhaaGreatDoorH9

/- A table as an argument: how it is opened (written by gen/mkopen12.py). -/
namespace Go.Proofs.YtdnfaoanaehjhaaGreatDoor
open Go.ChangeShapes Go.WideShapes Go.ChangeAt Go.RowKit Go.Joins Go.Deep
open Go.ChangeMaps (open_string shut_string)

set_option maxRecDepth 100000 in
theorem Tryz.cellsRow : Tryz.prog.cellsOf 35 = 1 := by kernel_rfl
set_option maxRecDepth 100000 in
theorem Tryz.cellsTable : Tryz.prog.cellsOf 25 = 2 := by kernel_rfl
instance termInh : Inhabited TermL := ⟨⟨0, [], [], []⟩⟩
theorem laid_out : laidOutB Tryz.prog = true := by kernel_rfl

theorem spot_of {w : World} {a : Addr} {v : Value} (h : w.cell? a = some v) : a.spot = none := by
  unfold World.cell? at h
  split at h
  · split at h
    · cases h
    · rename_i hs
      cases hq : a.spot with
      | none => rfl
      | some x => rw [hq] at hs; exact absurd rfl hs
  · cases h


section
variable {H : Type} {enc : TypeId × Value → H}

set_option maxRecDepth 100000 in
theorem open_term_cells {W : World} {base n : Nat} {spare : Nat → Bool} {held : Bool} {c0 c1 c2 c3 : Value} {y : DataW H × List MemPlace} (h : DataW.trod enc Tryz.prog W base spare held n 37 [c0, c1, c2, c3] = some y) :
    ∃ (k : Int) (a b c : ByteArray), c0 = .int .i64 k ∧ c1 = .string a ∧ c2 = .string b ∧ c3 = .string c ∧ (Lit.int .i64 k).wf = true ∧ a.size ≤ maxLen ∧ b.size ≤ maxLen ∧ c.size ≤ maxLen := by
  obtain ⟨y0, y1, y2, y3, m, rfl, _, h0, h1, h2, h3⟩ := trod_struct4 Tryz.underlying37 h
  simp only [Tryz.cellsInt, Tryz.cellsString, List.drop_zero, List.drop_succ_cons, List.take_succ_cons, List.take_zero] at h0 h1 h2 h3
  obtain ⟨k, e0, _, wk⟩ := DataW.trod_int Tryz.underlying3 h0
  obtain ⟨a, e1, _, wa⟩ := DataW.trod_string Tryz.underlying9 h1
  obtain ⟨b, e2, _, wb⟩ := DataW.trod_string Tryz.underlying9 h2
  obtain ⟨c, e3, _, wc⟩ := DataW.trod_string Tryz.underlying9 h3
  simp at e0 e1 e2 e3
  subst e0 e1 e2 e3
  exact ⟨k, a, b, c, rfl, rfl, rfl, rfl, wk, wa, wb, wc⟩

/- a slice, whatever its elements -/
theorem open_gen {α : Type} [Inhabited α] {S E : TypeId} {k : Nat} (hu : Tryz.prog.underlying S = some (.slice E)) (hk : Tryz.prog.cellsOf E = k) (h0 : 0 < k) (Q : α → List Value → Prop) {W : World} {base fuel : Nat} {spare : Nat → Bool} {held : Bool} {c : Value} {y : DataW H × List MemPlace}
    (hq : ∀ n cs y, cs.length = k → DataW.trod enc Tryz.prog W base spare held n E cs = some y → ∃ t, Q t cs) (h : DataW.trod enc Tryz.prog W base spare held fuel S [c] = some y) :
    ∃ (a : Option Addr) (n cap : Nat) (L : List (α × List Value)), c = .slice a n cap ∧ L.length = n ∧ n ≤ cap ∧ cap ≤ maxLen ∧ (∀ p ∈ L, Q p.1 p.2) ∧
      (0 < n → ∃ g o, a = some ⟨g, o, none⟩ ∧ g < W.heap.size ∧ ∀ j (h : j < L.length), ∀ i, i < k → W.cell? ⟨g, o + j * k + i, none⟩ = L[j].2[i]?) := by
  rcases open_slice hu h with ⟨hcs, _⟩ | ⟨a, len, cap, m, n, D, Pl, hcs, hb, hl, hm, hmm, hx, hel⟩
  · exact ⟨none, 0, 0, [], by simpa using hcs, rfl, Nat.le_refl _, Nat.zero_le _, fun p hp => absurd hp List.not_mem_nil, fun h => absurd h (Nat.lt_irrefl _)⟩
  · have hlm : len ≤ m := by rw [hmm]; split <;> omega
    rw [hk] at hel
    obtain ⟨T, hT⟩ := choose_lt (α := α × List Value) (n := len) (p := fun i t => Q t.1 t.2 ∧ t.2.length = k ∧ ∀ j, j < k → W.cell? (a.add (i * k + j)) = t.2[j]?) (fun i hi => by
      obtain ⟨cs', h1, h2⟩ := hel i (by omega)
      obtain ⟨_, hlen, hcell⟩ := World.cells?_some h1
      obtain ⟨t, hQ⟩ := hq _ _ _ hlen h2
      refine ⟨(t, cs'), hQ, hlen, fun j hj => ?_⟩
      have := hcell j hj
      rw [add_add] at this
      exact this)
    refine ⟨some a, len, cap, (List.range len).map T, by simpa using hcs, by simp, hl, hm, fun p hp => ?_, fun hpos => ?_⟩
    · obtain ⟨i, hi, rfl⟩ := List.mem_map.1 hp
      exact (hT i (List.mem_range.1 hi)).1
    · obtain ⟨_, hl0, hc0⟩ := hT 0 hpos
      obtain ⟨v, hv⟩ : ∃ v, (T 0).2[0]? = some v := ⟨_, List.getElem?_eq_getElem (by omega)⟩
      have hca := (hc0 0 h0).trans hv
      have hs : a.spot = none := by
        refine spot_of (w := W) (v := v) ?_
        rw [show a = a.add (0 * k + 0) from by simp [Addr.add]]; exact hca
      obtain ⟨b, off, sp⟩ := a
      simp only at hs
      subst hs
      have hbl : b < W.heap.size := by
        have : W.cell? ⟨b, off, none⟩ = some v := by
          have e : (⟨b, off, none⟩ : Addr) = (⟨b, off, none⟩ : Addr).add (0 * k + 0) := by simp [Addr.add]
          rw [e]; exact hca
        exact World.block_lt_of_cell? _ _ this
      refine ⟨b, off, rfl, hbl, fun j hj i hi => ?_⟩
      have hj' : j < len := by simpa using hj
      have e : ((List.range len).map T)[j] = T j := by simp
      rw [e, ← (hT j hj').2.2 i hi, add_plain, Nat.add_assoc]

theorem open_txt {W : World} {base fuel : Nat} {spare : Nat → Bool} {held : Bool} {c : Value} {y : DataW H × List MemPlace} (h : DataW.trod enc Tryz.prog W base spare held fuel 22 [c] = some y) :
    ∃ a n cap L, c = .slice a n cap ∧ TxtA W a n cap L ∧ ∀ x ∈ L, (bs x).size ≤ maxLen := by
  obtain ⟨a, n, cap, L, hc, hl, h1, h2, hQ, hcell⟩ := open_gen (α := List UInt8) Tryz.underlying22 Tryz.cellsString Nat.one_pos (fun x cs => cs = [.string (bs x)] ∧ (bs x).size ≤ maxLen) (fun n cs y hlen ht => by
    match cs, hlen with
    | [v], _ =>
      obtain ⟨s, e, _, hs⟩ := DataW.trod_string Tryz.underlying9 ht
      exact ⟨s.data.toList, e, hs⟩) h
  refine ⟨a, n, cap, L.map (·.1), hc, ⟨by rw [List.length_map]; exact hl, h1, h2, fun h0 => ?_⟩, fun x hx => ?_⟩
  · obtain ⟨g, o, ha, hg, hcl⟩ := hcell h0
    refine ⟨g, o, ha, hg, fun j hj => ?_⟩
    rw [List.length_map] at hj
    have := hcl j hj 0 Nat.one_pos
    rw [(hQ _ (List.getElem_mem hj)).1, Nat.mul_one, Nat.add_zero] at this
    rw [List.getElem_map]; exact this
  · obtain ⟨p, hp, rfl⟩ := List.mem_map.1 hx
    exact (hQ p hp).2
def cells4 (t : TermL) : List Value := [.int .i64 t.k, .string (bs t.x), .string (bs t.y), .string (bs t.z)]
theorem open_term4 {W : World} {base n : Nat} {spare : Nat → Bool} {held : Bool} {cs : List Value} {y : DataW H × List MemPlace} (hlen : cs.length = 4) (h : DataW.trod enc Tryz.prog W base spare held n 37 cs = some y) : ∃ t : TermL, cs = cells4 t ∧ okT t := by
  match cs, hlen with
  | [c0, c1, c2, c3], _ =>
    obtain ⟨k, a, b, c, rfl, rfl, rfl, rfl, wk, wa, wb, wc⟩ := open_term_cells h
    exact ⟨⟨k, a.data.toList, b.data.toList, c.data.toList⟩, rfl, ⟨by rw [bs_back]; exact wa, by rw [bs_back]; exact wb, by rw [bs_back]; exact wc⟩, wk⟩
theorem open_trm {W : World} {base fuel : Nat} {spare : Nat → Bool} {held : Bool} {c : Value} {y : DataW H × List MemPlace} (h : DataW.trod enc Tryz.prog W base spare held fuel 35 [c] = some y) :
    ∃ a n cap L, c = .slice a n cap ∧ TrmA W a n cap L ∧ ∀ t ∈ L, okT t := by
  obtain ⟨a, n, cap, L, hc, hl, h1, h2, hQ, hcell⟩ := open_gen (α := TermL) Tryz.underlying35 Tryz.cellsTerm (by decide) (fun t cs => cs = cells4 t ∧ okT t) (fun n cs y hlen ht => open_term4 hlen ht) h
  refine ⟨a, n, cap, L.map (·.1), hc, ⟨by rw [List.length_map]; exact hl, h1, h2, fun h0 => ?_⟩, fun x hx => ?_⟩
  · obtain ⟨g, o, ha, hg, hcl⟩ := hcell h0
    refine ⟨g, o, ha, hg, fun j hj => ?_⟩
    rw [List.length_map] at hj
    have hc := hcl j hj
    rw [(hQ _ (List.getElem_mem hj)).1] at hc
    rw [List.getElem_map]
    exact ⟨hc 0 (by decide), hc 1 (by decide), hc 2 (by decide), hc 3 (by decide)⟩
  · obtain ⟨p, hp, rfl⟩ := List.mem_map.1 hx
    exact (hQ p hp).2

theorem open_row {W : World} {base fuel : Nat} {spare : Nat → Bool} {held : Bool} {c : Value} {y : DataW H × List MemPlace} (h : DataW.trod enc Tryz.prog W base spare held fuel 23 [c] = some y) :
    ∃ a n cap L, c = .slice a n cap ∧ RowA W a n cap L ∧ ∀ r ∈ L, ∀ t ∈ r, okT t := by
  obtain ⟨a, n, cap, L, hc, hl, h1, h2, hQ, hcell⟩ := open_gen (α := List TermL) Tryz.underlying23 Tryz.cellsRow Nat.one_pos (fun r cs => ∃ a' c', cs = [.slice a' r.length c'] ∧ TrmA W a' r.length c' r ∧ ∀ t ∈ r, okT t) (fun n cs y hlen ht => by
    match cs, hlen with
    | [v], _ =>
      obtain ⟨a', n', c', r, rfl, hr, hok⟩ := open_trm ht
      have hn := hr.len
      subst hn
      exact ⟨r, a', c', rfl, hr, hok⟩) h
  refine ⟨a, n, cap, L.map (·.1), hc, ⟨by rw [List.length_map]; exact hl, h1, h2, fun h0 => ?_⟩, fun x hx => ?_⟩
  · obtain ⟨g, o, ha, hg, hcl⟩ := hcell h0
    refine ⟨g, o, ha, hg, fun j hj => ?_⟩
    rw [List.length_map] at hj
    obtain ⟨a', c', e, hr, _⟩ := hQ _ (List.getElem_mem hj)
    have := hcl j hj 0 Nat.one_pos
    rw [e, Nat.mul_one, Nat.add_zero] at this
    rw [List.getElem_map]
    exact ⟨a', c', this, hr⟩
  · obtain ⟨p, hp, rfl⟩ := List.mem_map.1 hx
    obtain ⟨_, _, _, _, hok⟩ := hQ p hp
    exact hok


set_option maxRecDepth 100000 in
/- a table's two cells -/
theorem open_tab {W : World} {base n : Nat} {spare : Nat → Bool} {held : Bool} {l : List Value} {y : DataW H × List MemPlace} (hsz : l.length = 2) (h : DataW.trod enc Tryz.prog W base spare held n 25 l = some y) :
    ∃ V R, TabA W (.agg l.toArray) V R ∧ okV V ∧ ∀ r ∈ R, ∀ t ∈ r, okT t := by
  match l, hsz with
  | [c2, c3], _ =>
    obtain ⟨zs, n2, _, _, _, hlen2, hg2⟩ := DataW.trod_struct Tryz.underlying25 h
    match zs, hlen2 with
    | [z0, z1], _ =>
      have k0 := hg2 0 _ rfl
      have k1 := hg2 1 _ rfl
      simp only [List.getElem?_cons_zero, List.getElem?_cons_succ] at k0 k1
      replace k0 : DataW.trod enc Tryz.prog W base spare held n2 22 [c2] = some z0 := k0
      replace k1 : DataW.trod enc Tryz.prog W base spare held n2 23 [c3] = some z1 := k1
      obtain ⟨va, vn, vc, V, rfl, hV, hVo⟩ := open_txt k0
      obtain ⟨ra, rn, rc, R, rfl, hR, hRo⟩ := open_row k1
      exact ⟨V, R, ⟨va, vn, vc, ra, rn, rc, rfl, hV, hR⟩, hVo, hRo⟩
end

end Go.Proofs.YtdnfaoanaehjhaaGreatDoor

/- How long a table's rows are, by the form's own reach. -/
namespace Go.Proofs.YtdnfaoanaehjhaaGreatDoor
open Go.ChangeShapes Go.WideShapes Go.ChangeAt Go.RowKit Go.Joins Go.Deep

set_option maxRecDepth 100000 in
theorem Tryz.bytesTerm : Tryz.prog.bytesOf 37 = 56 := by kernel_rfl
section
variable {H : Type} {enc : TypeId × Value → H}

theorem weights_all {e : TypeId} {d : DataW H} : ∀ {l : List (DataW H)}, d ∈ l → ∀ x ∈ d.weights Tryz.prog e, x ∈ DataW.weightsAll Tryz.prog e l
  | y :: r, h, x, hx => by
    unfold DataW.weightsAll
    rcases List.mem_cons.1 h with rfl | h
    · exact List.mem_append.2 (.inl hx)
    · exact List.mem_append.2 (.inr (weights_all h x hx))
/- a row -/
theorem trm_reach {W : World} {base fuel : Nat} {spare : Nat → Bool} {held : Bool} {a : Option Addr} {n cap M : Nat} {y : DataW H × List MemPlace} (h : DataW.trod enc Tryz.prog W base spare held fuel 35 [.slice a n cap] = some y) (hw : ∀ x ∈ y.1.weights Tryz.prog 35, x ≤ M) : n * 56 ≤ M := by
  rcases open_slice Tryz.underlying35 h with ⟨hcs, _⟩ | ⟨a1, len, cap1, m, n1, D, Pl, hcs, _, _, _, _, hx, _⟩
  · have e : n = 0 := by simp at hcs; exact hcs.2.1
    subst e; omega
  · have e : n = len := by simp at hcs; exact hcs.2.1
    subst e
    subst hx
    have := hw ((((List.range n).map D).length + ((List.range (m - n)).map fun j => D (n + j)).length) * Tryz.prog.bytesOf 37) (by
      unfold DataW.weights
      rw [Tryz.underlying35]
      exact List.mem_cons_self)
    rw [Tryz.bytesTerm, List.length_map, List.length_range] at this
    omega
/- rows of rows -/
theorem row_reach {W : World} {base fuel : Nat} {spare : Nat → Bool} {held : Bool} {a : Option Addr} {n cap M : Nat} {R : List RowL} {y : DataW H × List MemPlace} (h : DataW.trod enc Tryz.prog W base spare held fuel 23 [.slice a n cap] = some y) (hw : ∀ x ∈ y.1.weights Tryz.prog 23, x ≤ M) (hR : RowA W a n cap R) : ∀ r ∈ R, r.length * 56 ≤ M := by
  intro r hr
  obtain ⟨j, hj, rfl⟩ := List.mem_iff_getElem.1 hr
  have hjn : j < n := by rw [← hR.len]; exact hj
  obtain ⟨g, o, ha, _, hc⟩ := hR.cells (by omega)
  obtain ⟨a', c', hcell, _⟩ := hc j hj
  rcases open_slice Tryz.underlying23 h with ⟨hcs, _⟩ | ⟨a1, len, cap1, m, n1, D, Pl, hcs, _, _, _, hm, hx, hel⟩
  · have e : n = 0 := by simp at hcs; exact hcs.2.1
    omega
  · have e : n = len ∧ a = some a1 := by simp at hcs; exact ⟨hcs.2.1, hcs.1⟩
    obtain ⟨e1, e2⟩ := e
    subst e1
    have e3 : a1 = ⟨g, o, none⟩ := by rw [e2] at ha; exact Option.some.inj ha
    subst hx
    have hle : n ≤ m := by rw [hm]; split <;> omega
    obtain ⟨cs', h1, h2⟩ := hel j (by omega)
    rw [Tryz.cellsRow, Nat.mul_one] at h1
    obtain ⟨_, hlen, hcl⟩ := World.cells?_some h1
    have h0 := hcl 0 Nat.one_pos
    rw [e3, add_plain, add_plain, Nat.add_zero, hcell] at h0
    match cs', hlen with
    | [v], _ =>
      have ev : v = .slice a' R[j].length c' := by simpa using h0.symm
      rw [ev] at h2
      refine trm_reach h2 (fun x hx2 => hw x ?_)
      unfold DataW.weights
      rw [Tryz.underlying23]
      refine List.mem_cons_of_mem _ (List.mem_append.2 (.inl (weights_all (List.mem_map.2 ⟨j, List.mem_range.2 hjn, rfl⟩) x hx2)))
/- a table -/
set_option maxRecDepth 100000 in
theorem tab_reach {W : World} {base n M : Nat} {spare : Nat → Bool} {held : Bool} {l : List Value} {V : List (List UInt8)} {R : List RowL} {y : DataW H × List MemPlace} (h : DataW.trod enc Tryz.prog W base spare held n 25 l = some y) (hw : ∀ x ∈ y.1.weights Tryz.prog 25, x ≤ M) (hT : TabA W (.agg l.toArray) V R) : ∀ r ∈ R, r.length * 56 ≤ M := by
  obtain ⟨va, vn, vc, ra, rn, rc, e, _, hR⟩ := hT
  have el : l = [.slice va vn vc, .slice ra rn rc] := by simpa using e
  subst el
  obtain ⟨zs, n2, _, hy, _, hlen2, hg2⟩ := DataW.trod_struct Tryz.underlying25 h
  match zs, hlen2 with
  | [z0, z1], _ =>
    have k1 := hg2 1 _ rfl
    simp only [List.getElem?_cons_zero, List.getElem?_cons_succ] at k1
    replace k1 : DataW.trod enc Tryz.prog W base spare held n2 23 [.slice ra rn rc] = some z1 := k1
    refine row_reach k1 (fun x hx => hw x ?_) hR
    subst hy
    unfold DataW.weights
    rw [Tryz.underlying25]
    show x ∈ DataW.weightsEach Tryz.prog [22, 23] [z0.1, z1.1]
    unfold DataW.weightsEach
    refine List.mem_append.2 (.inr ?_)
    unfold DataW.weightsEach
    exact List.mem_append.2 (.inl hx)
end

end Go.Proofs.YtdnfaoanaehjhaaGreatDoor

/- Aggregates and a struct By as arguments: how they are opened; how many aggregates there are, by the form's own reach. -/
namespace Go.Proofs.YtdnfaoanaehjhaaGreatDoor
open Go.ChangeShapes Go.WideShapes Go.ChangeAt Go.RowKit Go.Joins Go.Deep

set_option maxRecDepth 100000 in
theorem Tryz.cellsAgg : Tryz.prog.cellsOf 41 = 3 := by kernel_rfl
set_option maxRecDepth 100000 in
theorem Tryz.bytesAgg : Tryz.prog.bytesOf 41 = 40 := by kernel_rfl
instance aggInh : Inhabited AggL := ⟨⟨0, [], []⟩⟩

section
variable {H : Type} {enc : TypeId × Value → H}

def cellsG (t : AggL) : List Value := [.int .i64 t.k, .string (bs t.o), .string (bs t.m)]
set_option maxRecDepth 100000 in
theorem open_agg3 {W : World} {base n : Nat} {spare : Nat → Bool} {held : Bool} {cs : List Value} {y : DataW H × List MemPlace} (hlen : cs.length = 3) (h : DataW.trod enc Tryz.prog W base spare held n 41 cs = some y) : ∃ t : AggL, cs = cellsG t ∧ t.ok := by
  match cs, hlen with
  | [c0, c1, c2], _ =>
    obtain ⟨zs, n2, _, _, _, hlen2, hg2⟩ := DataW.trod_struct Tryz.underlying41 h
    match zs, hlen2 with
    | [z0, z1, z2], _ =>
      have k0 := hg2 0 _ rfl
      have k1 := hg2 1 _ rfl
      have k2 := hg2 2 _ rfl
      simp only [List.getElem?_cons_zero, List.getElem?_cons_succ] at k0 k1 k2
      replace k0 : DataW.trod enc Tryz.prog W base spare held n2 3 [c0] = some z0 := k0
      replace k1 : DataW.trod enc Tryz.prog W base spare held n2 9 [c1] = some z1 := k1
      replace k2 : DataW.trod enc Tryz.prog W base spare held n2 9 [c2] = some z2 := k2
      obtain ⟨k, e0, _, _⟩ := DataW.trod_int Tryz.underlying3 k0
      obtain ⟨a, e1, _, wa⟩ := DataW.trod_string Tryz.underlying9 k1
      obtain ⟨b, e2, _, wb⟩ := DataW.trod_string Tryz.underlying9 k2
      simp at e0 e1 e2
      subst e0 e1 e2
      exact ⟨⟨k, a.data.toList, b.data.toList⟩, rfl, by rw [bs_back]; exact wa, by rw [bs_back]; exact wb⟩
theorem open_aggs {W : World} {base fuel : Nat} {spare : Nat → Bool} {held : Bool} {c : Value} {y : DataW H × List MemPlace} (h : DataW.trod enc Tryz.prog W base spare held fuel 26 [c] = some y) :
    ∃ a n cap L, c = .slice a n cap ∧ AgA W a n cap L ∧ ∀ g ∈ L, g.ok := by
  obtain ⟨a, n, cap, L, hc, hl, h1, h2, hQ, hcell⟩ := open_gen (α := AggL) Tryz.underlying26 Tryz.cellsAgg (by decide) (fun t cs => cs = cellsG t ∧ t.ok) (fun n cs y hlen ht => open_agg3 hlen ht) h
  refine ⟨a, n, cap, L.map (·.1), hc, ⟨by rw [List.length_map]; exact hl, h1, h2, fun h0 => ?_⟩, fun x hx => ?_⟩
  · obtain ⟨g, o, ha, hg, hcl⟩ := hcell h0
    refine ⟨g, o, ha, hg, fun j hj => ?_⟩
    rw [List.length_map] at hj
    have hc := hcl j hj
    rw [(hQ _ (List.getElem_mem hj)).1] at hc
    rw [List.getElem_map]
    exact ⟨hc 0 (by decide), hc 1 (by decide), hc 2 (by decide)⟩
  · obtain ⟨p, hp, rfl⟩ := List.mem_map.1 hx
    exact (hQ p hp).2
theorem agg_reach {W : World} {base fuel : Nat} {spare : Nat → Bool} {held : Bool} {a : Option Addr} {n cap M : Nat} {y : DataW H × List MemPlace} (h : DataW.trod enc Tryz.prog W base spare held fuel 26 [.slice a n cap] = some y) (hw : ∀ x ∈ y.1.weights Tryz.prog 26, x ≤ M) : n * 40 ≤ M := by
  rcases open_slice Tryz.underlying26 h with ⟨hcs, _⟩ | ⟨a1, len, cap1, m, n1, D, Pl, hcs, _, _, _, _, hx, _⟩
  · have e : n = 0 := by simp at hcs; exact hcs.2.1
    subst e; omega
  · have e : n = len := by simp at hcs; exact hcs.2.1
    subst e
    subst hx
    have := hw ((((List.range n).map D).length + ((List.range (m - n)).map fun j => D (n + j)).length) * Tryz.prog.bytesOf 41) (by
      unfold DataW.weights
      rw [Tryz.underlying26]
      exact List.mem_cons_self)
    rw [Tryz.bytesAgg, List.length_map, List.length_range] at this
    omega
end

end Go.Proofs.YtdnfaoanaehjhaaGreatDoor
