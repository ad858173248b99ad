/- Slices of texts, triples, terms and rows of terms as arguments: what they read as, in whatever world comes behind. -/
import Derived.Test.YtiliobfgmelncaaScopePlains
import Derived.Test.YtiliobfgmelncaaFormCheck
namespace Go.Proofs.Ytiliobfgmelncaa
open Go.RowKit

def TermAt (w : World) (g o : Nat) (t : TermL) : Prop := w.cell? ⟨g, o, none⟩ = some (.int .i64 t.k) ∧ w.cell? ⟨g, o + 1, none⟩ = some (.string (bs t.x)) ∧ w.cell? ⟨g, o + 2, none⟩ = some (.string (bs t.y)) ∧ w.cell? ⟨g, o + 3, none⟩ = some (.string (bs t.z))
theorem TermAt.on {w w' : World} {g o B : Nat} {t : TermL} (h : TermAt w g o t) (hb : Below B w w') (hg : g < B) : TermAt w' g o t := by
  obtain ⟨c0, c1, c2, c3⟩ := h
  exact ⟨(hb.cell (p := ⟨g, _, none⟩) hg).trans c0, (hb.cell (p := ⟨g, _, none⟩) hg).trans c1, (hb.cell (p := ⟨g, _, none⟩) hg).trans c2, (hb.cell (p := ⟨g, _, none⟩) hg).trans c3⟩
structure TxtA (w : World) (a : Option Addr) (n c : Nat) (L : List (List UInt8)) : Prop where
  len : L.length = n
  cap : n ≤ c
  most : c ≤ maxLen
  cells : 0 < n → ∃ g o, a = some ⟨g, o, none⟩ ∧ g < w.heap.size ∧ ∀ j (h : j < L.length), w.cell? ⟨g, o + j, none⟩ = some (.string (bs L[j]))
theorem TxtA.on {w w' : World} {a : Option Addr} {n c : Nat} {L : List (List UInt8)} (h : TxtA w a n c L) (hb : Below w.heap.size w w') : TxtA w' a n c L := by
  refine ⟨h.len, h.cap, h.most, fun h0 => ?_⟩
  obtain ⟨g, o, ha, hg, hc⟩ := h.cells h0
  exact ⟨g, o, ha, Nat.lt_of_lt_of_le hg hb.size, fun j hj => (hb.cell (p := ⟨g, _, none⟩) hg).trans (hc j hj)⟩
theorem TxtA.cut {w : World} {a : Option Addr} {n c : Nat} {L : List (List UInt8)} (h : TxtA w a n c L) {m : Nat} (hm : m ≤ n) : TxtA w a m c (L.take m) := by
  have hl := h.len
  have hc := h.cap
  refine ⟨by rw [List.length_take]; omega, by omega, h.most, fun h0 => ?_⟩
  obtain ⟨g, o, he, hg, hcell⟩ := h.cells (by omega)
  refine ⟨g, o, he, hg, fun j hj => ?_⟩
  rw [List.length_take] at hj
  have hx := hcell j (by omega)
  rw [List.getElem_take]
  exact hx
structure TrmA (w : World) (a : Option Addr) (n c : Nat) (L : List TermL) : Prop where
  len : L.length = n
  cap : n ≤ c
  most : c ≤ maxLen
  cells : 0 < n → ∃ g o, a = some ⟨g, o, none⟩ ∧ g < w.heap.size ∧ ∀ j (h : j < L.length), TermAt w g (o + j * 4) L[j]
theorem TrmA.on {w w' : World} {a : Option Addr} {n c : Nat} {L : List TermL} (h : TrmA w a n c L) (hb : Below w.heap.size w w') : TrmA w' a n c L := by
  refine ⟨h.len, h.cap, h.most, fun h0 => ?_⟩
  obtain ⟨g, o, ha, hg, hc⟩ := h.cells h0
  exact ⟨g, o, ha, Nat.lt_of_lt_of_le hg hb.size, fun j hj => (hc j hj).on hb hg⟩
structure TrpA (w : World) (a : Option Addr) (n c : Nat) (L : List TripL) : Prop where
  len : L.length = n
  cap : n ≤ c
  most : c ≤ maxLen
  cells : 0 < n → ∃ g o, a = some ⟨g, o, none⟩ ∧ g < w.heap.size ∧ ∀ j (h : j < L.length), TermAt w g (o + j * 12) L[j].s ∧ TermAt w g (o + j * 12 + 4) L[j].p ∧ TermAt w g (o + j * 12 + 8) L[j].o
theorem TrpA.on {w w' : World} {a : Option Addr} {n c : Nat} {L : List TripL} (h : TrpA w a n c L) (hb : Below w.heap.size w w') : TrpA w' a n c L := by
  refine ⟨h.len, h.cap, h.most, fun h0 => ?_⟩
  obtain ⟨g, o, ha, hg, hc⟩ := h.cells h0
  exact ⟨g, o, ha, Nat.lt_of_lt_of_le hg hb.size, fun j hj => ⟨(hc j hj).1.on hb hg, (hc j hj).2.1.on hb hg, (hc j hj).2.2.on hb hg⟩⟩
structure RowA (w : World) (a : Option Addr) (n c : Nat) (R : List (List TermL)) : Prop where
  len : R.length = n
  cap : n ≤ c
  most : c ≤ maxLen
  cells : 0 < n → ∃ g o, a = some ⟨g, o, none⟩ ∧ g < w.heap.size ∧ ∀ j (h : j < R.length), ∃ a' c', w.cell? ⟨g, o + j, none⟩ = some (.slice a' R[j].length c') ∧ TrmA w a' R[j].length c' R[j]
theorem RowA.on {w w' : World} {a : Option Addr} {n c : Nat} {R : List (List TermL)} (h : RowA w a n c R) (hb : Below w.heap.size w w') : RowA w' a n c R := by
  refine ⟨h.len, h.cap, h.most, fun h0 => ?_⟩
  obtain ⟨g, o, ha, hg, hc⟩ := h.cells h0
  refine ⟨g, o, ha, Nat.lt_of_lt_of_le hg hb.size, fun j hj => ?_⟩
  obtain ⟨a', c', h1, h2⟩ := hc j hj
  exact ⟨a', c', (hb.cell (p := ⟨g, _, none⟩) hg).trans h1, h2.on hb⟩

end Go.Proofs.Ytiliobfgmelncaa
