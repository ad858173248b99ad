/- Operations gone through one by one, with a stack of results, in plain words (no program). Rows of results that the call owns. -/
import Derived.Test.YtiliobfgmelncaaScopeRuns
import Derived.Test.YtiliobfgmelncaaScopeMade
import Derived.Deep.AppendLies
namespace Go.Proofs.Ytiliobfgmelncaa

/- those that operation o takes off the stack -/
def topN (o : OpL) (op : List ResL) : List ResL := op.drop (op.length - ndO o)
def nestR (o : OpL) (N : List ResL) : Bool := o.k == 9 && (N.getD 0 noR).v
def scopeR (o : OpL) (N : List ResL) : Bool := o.k == 8 && decide (o.m ∈ (N.getD 0 noR).sc)
def runP : List OpL → Nat → List ResL → Bool → List ResL → Option (List ResL × List ResL × Bool)
  | [], _, op, e, all => some (all, op, e)
  | o :: r, i, op, e, all =>
    if rightO o = true ∧ ndO o ≤ op.length ∧ nestR o (topN o op) = false then
      runP r (i + 1) (op.take (op.length - ndO o) ++ [madeR o i (topN o op)]) (e || scopeR o (topN o op)) (all ++ [madeR o i (topN o op)])
    else none
def tot (l : List ResL) : Nat := (l.map fun r => r.sc.length + r.ct.length).sum
theorem tot_append (a b : List ResL) : tot (a ++ b) = tot a + tot b := by unfold tot; rw [List.map_append, List.sum_append_nat]
theorem tot_mem {l : List ResL} {r : ResL} (h : r ∈ l) : r.sc.length + r.ct.length ≤ tot l := by
  induction l with
  | nil => cases h
  | cons a b ih =>
    unfold tot at *
    rw [List.map_cons, List.sum_cons]
    rcases List.mem_cons.1 h with rfl | h
    · omega
    · have := ih h; omega
theorem tot_two {N : List ResL} (h : N.length ≤ 2) : (N.getD 0 noR).sc.length + (N.getD 1 noR).sc.length + ((N.getD 0 noR).ct.length + (N.getD 1 noR).ct.length) ≤ tot N := by
  match N, h with
  | [], _ => decide
  | [a], _ =>
    have e1 : ([a].getD 0 noR) = a := rfl
    have e2 : ([a].getD 1 noR) = noR := rfl
    rw [e1, e2]
    show _ + 0 + (_ + 0) ≤ tot [a]
    simp [tot]
  | [a, b], _ =>
    have e1 : ([a, b].getD 0 noR) = a := rfl
    have e2 : ([a, b].getD 1 noR) = b := rfl
    rw [e1, e2]
    simp [tot]; omega
theorem madeR_tot {o : OpL} (h : rightO o = true) (i : Nat) {N : List ResL} (hN : N.length ≤ 2) : (madeR o i N).sc.length + (madeR o i N).ct.length ≤ tot N + 256 := by
  have h1 := scB_length h false (N.getD 0 noR).sc (N.getD 1 noR).sc
  have h2 := scB_length h true (N.getD 0 noR).ct (N.getD 1 noR).ct
  have h3 := tot_two hN
  unfold madeR
  dsimp only
  omega
theorem topN_length {o : OpL} {op : List ResL} (h : ndO o ≤ op.length) : (topN o op).length = ndO o := by unfold topN; rw [List.length_drop]; omega
/- k operations are gone through -/
structure RunR (C : List OpL) (k : Nat) (op : List ResL) (e : Bool) (all : List ResL) : Prop where
  run : runP C 0 [] false [] = runP (C.drop k) k op e all
  len : all.length = k
  few : op.length ≤ k
  tot : tot op ≤ 256 * k
theorem runR_start (C : List OpL) : RunR C 0 [] false [] := ⟨rfl, rfl, Nat.le_refl _, Nat.le_refl _⟩
theorem runR_next {C : List OpL} {k : Nat} {op all : List ResL} {e : Bool} (h : RunR C k op e all) (hk : k < C.length) (h1 : rightO C[k] = true) (h2 : ndO C[k] ≤ op.length) (h3 : nestR C[k] (topN C[k] op) = false) :
    RunR C (k + 1) (op.take (op.length - ndO C[k]) ++ [madeR C[k] k (topN C[k] op)]) (e || scopeR C[k] (topN C[k] op)) (all ++ [madeR C[k] k (topN C[k] op)]) := by
  have hl := topN_length h2
  have h4 := ndO_le C[k]
  refine ⟨?_, by rw [List.length_append, h.len]; rfl, ?_, ?_⟩
  · rw [h.run, List.drop_eq_getElem_cons hk, runP, if_pos ⟨h1, h2, h3⟩]
  · rw [List.length_append, List.length_take]
    have := h.few
    show _ + 1 ≤ _
    omega
  · rw [tot_append]
    have h5 := madeR_tot h1 k (N := topN C[k] op) (by omega)
    have h6 : tot op = tot (op.take (op.length - ndO C[k])) + tot (topN C[k] op) := by
      unfold topN
      rw [← tot_append, List.take_append_drop]
    have h7 := h.tot
    have h8 : tot [madeR C[k] k (topN C[k] op)] = (madeR C[k] k (topN C[k] op)).sc.length + (madeR C[k] k (topN C[k] op)).ct.length := by simp [Go.Proofs.Ytiliobfgmelncaa.tot]
    omega
theorem runR_stop {C : List OpL} {k : Nat} {op all : List ResL} {e : Bool} (h : RunR C k op e all) (hk : k < C.length) (h1 : ¬ (rightO C[k] = true ∧ ndO C[k] ≤ op.length ∧ nestR C[k] (topN C[k] op) = false)) : runP C 0 [] false [] = none := by
  rw [h.run, List.drop_eq_getElem_cons hk, runP, if_neg h1]
theorem runR_end {C : List OpL} {k : Nat} {op all : List ResL} {e : Bool} (h : RunR C k op e all) (hk : C.length ≤ k) : runP C 0 [] false [] = some (all, op, e) := by
  rw [h.run, List.drop_eq_nil_of_le hk]; rfl
/- what is told in the end -/
def resE (C : List OpL) : Int := if 128 < C.length then 3 else match runP C 0 [] false [] with
  | none => 2
  | some (_, op, e) => if op.length ≠ 1 then 2 else if e = true then 6 else 0
def resA (C : List OpL) : List ResL := match runP C 0 [] false [] with
  | none => []
  | some (all, _, _) => all
theorem resE_long {C : List OpL} (h : 128 < C.length) : resE C = 3 := if_pos h
theorem resE_none {C : List OpL} (h : C.length ≤ 128) (hr : runP C 0 [] false [] = none) : resE C = 2 := by unfold resE; rw [if_neg (by omega), hr]
theorem resE_some {C : List OpL} (h : C.length ≤ 128) {all op : List ResL} {e : Bool} (hr : runP C 0 [] false [] = some (all, op, e)) : resE C = if op.length ≠ 1 then 2 else if e = true then 6 else 0 := by unfold resE; rw [if_neg (by omega), hr]
theorem resA_some {C : List OpL} {all op : List ResL} {e : Bool} (hr : runP C 0 [] false [] = some (all, op, e)) : resA C = all := by unfold resA; rw [hr]

end Go.Proofs.Ytiliobfgmelncaa

namespace Go.Proofs.Ytiliobfgmelncaa
open Go.RowKit Go.Maps

theorem info_result : (Try.prog.info? 35).map (fun i => (i.zero, i.size, i.bytes)) = some (some (.agg #[.int .i64 0, .bool false, .map none, .map none]), 4, 32) := by kernel_rfl
/- a result with its two maps -/
structure ResP where
  r : ResL
  p : Option Nat
  q : Option Nat
def ResP.cells (x : ResP) : List Value := [.int .i64 x.r.f, .bool x.r.v, .map x.p, .map x.q]
def resCells (L : List ResP) : List Value := L.flatMap ResP.cells
theorem resCells_append (a b : List ResP) : resCells (a ++ b) = resCells a ++ resCells b := by unfold resCells; rw [List.flatMap_append]
theorem resCells_one (x : ResP) : resCells [x] = x.cells := by simp [resCells]
theorem resCells_length : ∀ L : List ResP, (resCells L).length = L.length * 4
  | [] => rfl
  | x :: r => by
    have := resCells_length r
    unfold resCells at *
    rw [List.flatMap_cons, List.length_append, this, List.length_cons]
    show 4 + _ = _
    omega
theorem resCells_take (L : List ResP) : ∀ n, n ≤ L.length → resCells (L.take n) = (resCells L).take (n * 4) := by
  intro n hn
  have h : resCells L = resCells (L.take n) ++ resCells (L.drop n) := by rw [← resCells_append, List.take_append_drop]
  have h2 : (resCells (L.take n)).length = n * 4 := by rw [resCells_length, List.length_take]; omega
  rw [h, ← h2, List.take_left]
theorem resCells_at {L : List ResP} {j : Nat} (h : j < L.length) (i : Nat) (hi : i < 4) : (resCells L)[j * 4 + i]? = L[j].cells[i]? := by
  have h1 : resCells L = resCells (L.take j) ++ (L[j].cells ++ resCells (L.drop (j + 1))) := by
    rw [← resCells_one, ← resCells_append, ← resCells_append]
    congr 1
    rw [List.singleton_append, ← List.drop_eq_getElem_cons h, List.take_append_drop]
  have h2 : (resCells (L.take j)).length = j * 4 := by rw [resCells_length, List.length_take]; omega
  rw [h1, List.getElem?_append_right (by omega), h2, Nat.add_sub_cancel_left, List.getElem?_append_left (by show i < 4; exact hi)]
theorem resCells_cell {L : List ResP} : ∀ u ∈ resCells L, u.oneCell' = true := by
  intro u hu
  unfold resCells at hu
  obtain ⟨x, _, hx⟩ := List.mem_flatMap.1 hu
  simp only [ResP.cells, List.mem_cons, List.not_mem_nil, or_false] at hx
  rcases hx with rfl | rfl | rfl | rfl <;> rfl
def OwnR (W : World) (B : Nat) (v : Value) (L : List ResP) : Prop := W.ownsRow B 35 4 v L.length (resCells L)
def SetsR (W : World) (L : List ResP) : Prop := ∀ x ∈ L, SetA W x.p x.r.sc ∧ SetA W x.q x.r.ct
theorem SetsR.on {W W' : World} {L : List ResP} (h : SetsR W L) (hm : MapsOn W W') : SetsR W' L := fun x hx => ⟨(h x hx).1.on hm, (h x hx).2.on hm⟩
theorem SetsR.take {W : World} {L : List ResP} (h : SetsR W L) (n : Nat) : SetsR W (L.take n) := fun x hx => h x (List.mem_of_mem_take hx)
theorem SetsR.push {W : World} {L : List ResP} {x : ResP} (h : SetsR W L) (hp : SetA W x.p x.r.sc) (hq : SetA W x.q x.r.ct) : SetsR W (L ++ [x]) := fun y hy => by
  rcases List.mem_append.1 hy with hy | hy
  · exact h y hy
  · rw [List.mem_singleton] at hy; subst hy; exact ⟨hp, hq⟩
/- its first n -/
theorem OwnR.cut {W : World} {B g len cap : Nat} {L : List ResP} (h : OwnR W B (.slice (some ⟨g, 0, none⟩) len cap) L) {n : Nat} (hn : n ≤ L.length) : OwnR W B (.slice (some ⟨g, 0, none⟩) n cap) (L.take n) := by
  unfold OwnR at *
  rcases h.2 with ⟨h0, _⟩ | ⟨g', cap', cur, hv, hB, hh, h1, h2, h3, h4⟩
  · cases h0
  · cases hv
    have hl : (L.take n).length = n := by rw [List.length_take]; omega
    refine ⟨by rw [resCells_length], .inr ⟨g, cap, cur, by rw [hl], hB, hh, by rw [hl]; omega, h2, h3, ?_⟩⟩
    rw [hl, resCells_take L n hn, ← h4, List.take_take]
    congr 1
    omega
theorem OwnR.len {W : World} {B g len cap : Nat} {L : List ResP} (h : OwnR W B (.slice (some ⟨g, 0, none⟩) len cap) L) : len = L.length ∧ L.length ≤ cap ∧ cap ≤ maxLen ∧ B ≤ g ∧ g < W.heap.size := by
  unfold OwnR at h
  rcases h.2 with ⟨h0, _⟩ | ⟨g', cap', cur, hv, hB, hh, h1, h2, h3, h4⟩
  · cases h0
  · cases hv
    exact ⟨rfl, h1, h2, hB, (Array.getElem?_eq_some_iff.1 hh).1⟩
theorem OwnR.at_ {W : World} {B g len cap : Nat} {L : List ResP} (h : OwnR W B (.slice (some ⟨g, 0, none⟩) len cap) L) (hs : SetsR W L) {j : Nat} (hj : j < L.length) : ResAt W g (j * 4) L[j].r := by
  have hc := fun i (hi : i < 4) u (hu : L[j].cells[i]? = some u) => h.cells (g := g) rfl (j * 4 + i) u (by rw [resCells_at hj i hi]; exact hu)
  have ha : ∀ i, (⟨g, 0, none⟩ : Addr).add i = ⟨g, i, none⟩ := fun i => by
    cases i with
    | zero => rfl
    | succ i => simp [Addr.add]
  refine ⟨L[j].p, L[j].q, ?_, ?_, ?_, ?_, (hs _ (List.getElem_mem hj)).1, (hs _ (List.getElem_mem hj)).2⟩
  · have := hc 0 (by decide) _ rfl; rwa [ha] at this
  · have := hc 1 (by decide) _ rfl; rwa [ha] at this
  · have := hc 2 (by decide) _ rfl; rwa [ha] at this
  · have := hc 3 (by decide) _ rfl; rwa [ha] at this
/- those behind its first n, as an argument -/
theorem OwnR.drop {W : World} {B g len cap : Nat} {L : List ResP} (h : OwnR W B (.slice (some ⟨g, 0, none⟩) len cap) L) (hs : SetsR W L) {n m c : Nat} (hm : n + m = L.length) (hc : n + c = cap) : ResA W (some ⟨g, n * 4, none⟩) m c ((L.drop n).map (·.r)) := by
  obtain ⟨h1, h2, h3, h4, h5⟩ := h.len
  refine ⟨by rw [List.length_map, List.length_drop]; omega, by omega, by omega, fun _ => ⟨g, n * 4, rfl, h5, fun j hj => ?_⟩⟩
  rw [List.length_map, List.length_drop] at hj
  have := h.at_ hs (j := n + j) (by omega)
  rw [List.getElem_map, List.getElem_drop, ← Nat.add_mul]
  exact this
theorem OwnR.whole {W : World} {B g len cap : Nat} {L : List ResP} (h : OwnR W B (.slice (some ⟨g, 0, none⟩) len cap) L) (hs : SetsR W L) : ResA W (some ⟨g, 0, none⟩) len cap (L.map (·.r)) := by
  have := h.drop hs (n := 0) (m := L.length) (c := cap) (by omega) (by omega)
  rw [Nat.zero_mul, List.drop_zero] at this
  rw [h.len.1]; exact this
theorem OwnR.cases {W : World} {B : Nat} {v : Value} {L : List ResP} (h : OwnR W B v L) : (v = .slice none 0 0 ∧ L = []) ∨ ∃ g cap, v = .slice (some ⟨g, 0, none⟩) L.length cap := by
  rcases h.2 with ⟨h0, h1⟩ | ⟨g, cap, cur, hv, _⟩
  · exact .inl ⟨h0, List.eq_nil_of_length_eq_zero h1⟩
  · exact .inr ⟨g, cap, hv⟩
theorem OwnR.kept {W W' : World} {B : Nat} {v : Value} {L : List ResP} {row : Option Nat} (h : OwnR W B v L) (hg : W.grownBy W' row) (hne : v.ownBlock = none ∨ v.ownBlock ≠ row) : OwnR W' B v L := World.ownsRow.kept h hg hne
theorem own_maps {W W' : World} {B : Nat} {v : Value} {L : List ResP} (h : OwnR W B v L) (hg : W.grownBy W' v.ownBlock) : MapsOn W W' := grown_maps hg (fun b es c e k => by
  rcases h.2 with ⟨rfl, _⟩ | ⟨g, cap, cur, rfl, _, hh, _⟩
  · cases e
  · cases e
    rw [hh] at k
    cases k)

end Go.Proofs.Ytiliobfgmelncaa
