/- Slices of texts, of terms, of rows of terms; tables: what they read as, in whatever world comes behind; in which blocks they lie. -/
import Derived.Test.YtkfemnjblbnclaaGreatDoorGOrder
import Derived.Test.YtkfemnjblbnclaaGreatDoorTripPlain
import Derived.Test.YtkfemnjblbnclaaGreatDoorBlkKit
import Derived.Deep.Draws
namespace Go.Proofs.YtkfemnjblbnclaaGreatDoor
open Go.RowKit

def TermAt (w : World) (g o : Nat) (t : TermL) : Prop := w.cell? ⟨g, o, none⟩ = some (.int .i64 t.k) ∧ w.cell? ⟨g, o + 1, none⟩ = some (.string (bs t.x)) ∧ w.cell? ⟨g, o + 2, none⟩ = some (.string (bs t.y)) ∧ w.cell? ⟨g, o + 3, none⟩ = some (.string (bs t.z))
theorem cell_same {w w' : World} {g : Nat} (h : w'.heap[g]? = w.heap[g]?) (o : Nat) : w'.cell? ⟨g, o, none⟩ = w.cell? ⟨g, o, none⟩ := World.cell?_of_block h
theorem TermAt.same {w w' : World} {g o : Nat} {t : TermL} (h : TermAt w g o t) (hb : w'.heap[g]? = w.heap[g]?) : TermAt w' g o t := by
  obtain ⟨c0, c1, c2, c3⟩ := h
  exact ⟨(cell_same hb _).trans c0, (cell_same hb _).trans c1, (cell_same hb _).trans c2, (cell_same hb _).trans c3⟩
theorem TermAt.on {w w' : World} {g o B : Nat} {t : TermL} (h : TermAt w g o t) (hb : Below B w w') (hg : g < B) : TermAt w' g o t := h.same (hb.block g hg)

/- what K tells of is as it was -/
structure Stay (K : Nat → Prop) (w w' : World) : Prop where
  size : w.heap.size ≤ w'.heap.size
  block : ∀ b, b < w.heap.size → K b → w'.heap[b]? = w.heap[b]?
theorem Stay.refl (K : Nat → Prop) (w : World) : Stay K w w := ⟨Nat.le_refl _, fun _ _ _ => rfl⟩
theorem Stay.trans {K : Nat → Prop} {a b c : World} (h : Stay K a b) (g : Stay K b c) : Stay K a c := ⟨Nat.le_trans h.size g.size, fun i hi hk => (g.block i (Nat.lt_of_lt_of_le hi h.size) hk).trans (h.block i hi hk)⟩
theorem Stay.mono {K K' : Nat → Prop} {a b : World} (h : Stay K a b) (hk : ∀ i, i < a.heap.size → K' i → K i) : Stay K' a b := ⟨h.size, fun i hi k => h.block i hi (hk i hi k)⟩
theorem stay_below {K : Nat → Prop} {w w' : World} (h : Below w.heap.size w w') : Stay K w w' := ⟨h.size, fun i hi _ => h.block i hi⟩
theorem stay_under {B : Nat} {w w' : World} (h : Below B w w') : Stay (fun i => i < B) w w' := ⟨h.size, fun i _ hk => h.block i hk⟩
theorem stay_row {w w' : World} {g : Nat} (h : w.grownBy w' (some g)) : Stay (fun i => i ≠ g) w w' := ⟨h.size, fun i hi hk => h.block i hi (fun e => hk (Option.some.inj e))⟩
theorem stay_drew (K : Nat → Prop) (w : World) (n : Nat) : Stay K w (w.drewN n) := ⟨Nat.le_refl _, fun _ _ _ => rfl⟩

/- texts -/
structure TxtA (w : World) (a : Option Addr) (n c : Nat) (L : List (List UInt8)) : Prop where
  len : L.length = n
  cap : n ≤ c
  most : c ≤ maxLen
  cells : 0 < n → ∃ g o, a = some ⟨g, o, none⟩ ∧ g < w.heap.size ∧ ∀ j (h : j < L.length), w.cell? ⟨g, o + j, none⟩ = some (.string (bs L[j]))
structure TxtK (K : Nat → Prop) (w : World) (a : Option Addr) (n c : Nat) (L : List (List UInt8)) : Prop where
  len : L.length = n
  cap : n ≤ c
  most : c ≤ maxLen
  cells : 0 < n → ∃ g o, a = some ⟨g, o, none⟩ ∧ g < w.heap.size ∧ K g ∧ ∀ j (h : j < L.length), w.cell? ⟨g, o + j, none⟩ = some (.string (bs L[j]))
theorem TxtK.a {K : Nat → Prop} {w : World} {a : Option Addr} {n c : Nat} {L : List (List UInt8)} (h : TxtK K w a n c L) : TxtA w a n c L := ⟨h.len, h.cap, h.most, fun h0 => by obtain ⟨g, o, e, hg, _, hc⟩ := h.cells h0; exact ⟨g, o, e, hg, hc⟩⟩
theorem TxtA.k {w : World} {a : Option Addr} {n c : Nat} {L : List (List UInt8)} (h : TxtA w a n c L) : TxtK (fun i => i < w.heap.size) w a n c L := ⟨h.len, h.cap, h.most, fun h0 => by obtain ⟨g, o, e, hg, hc⟩ := h.cells h0; exact ⟨g, o, e, hg, hg, hc⟩⟩
theorem TxtK.mono {K K' : Nat → Prop} {w : World} {a : Option Addr} {n c : Nat} {L : List (List UInt8)} (h : TxtK K w a n c L) (hk : ∀ i, i < w.heap.size → K i → K' i) : TxtK K' w a n c L := ⟨h.len, h.cap, h.most, fun h0 => by obtain ⟨g, o, e, hg, k, hc⟩ := h.cells h0; exact ⟨g, o, e, hg, hk g hg k, hc⟩⟩
theorem TxtK.on {K : Nat → Prop} {w w' : World} {a : Option Addr} {n c : Nat} {L : List (List UInt8)} (h : TxtK K w a n c L) (hs : Stay K w w') : TxtK K w' a n c L := ⟨h.len, h.cap, h.most, fun h0 => by
  obtain ⟨g, o, e, hg, k, hc⟩ := h.cells h0
  exact ⟨g, o, e, Nat.lt_of_lt_of_le hg hs.size, k, fun j hj => (cell_same (hs.block g hg k) _).trans (hc j hj)⟩⟩
theorem TxtA.on {w w' : World} {a : Option Addr} {n c : Nat} {L : List (List UInt8)} (h : TxtA w a n c L) (hb : Below w.heap.size w w') : TxtA w' a n c L := (h.k.on (stay_below hb)).a
theorem TxtA.cut {w : World} {a : Option Addr} {n c : Nat} {L : List (List UInt8)} (h : TxtA w a n c L) {m : Nat} (hm : m ≤ n) : TxtA w a m c (L.take m) := by
  have hl := h.len
  have hc := h.cap
  refine ⟨by rw [List.length_take]; omega, by omega, h.most, fun h0 => ?_⟩
  obtain ⟨g, o, he, hg, hcell⟩ := h.cells (by omega)
  refine ⟨g, o, he, hg, fun j hj => ?_⟩
  rw [List.length_take] at hj
  have hx := hcell j (by omega)
  rw [List.getElem_take]
  exact hx
theorem txt_nil (K : Nat → Prop) (w : World) (a : Option Addr) : TxtK K w a 0 0 [] := ⟨rfl, Nat.le_refl _, Nat.zero_le _, fun h => absurd h (Nat.lt_irrefl _)⟩

/- terms -/
structure TrmA (w : World) (a : Option Addr) (n c : Nat) (L : List TermL) : Prop where
  len : L.length = n
  cap : n ≤ c
  most : c ≤ maxLen
  cells : 0 < n → ∃ g o, a = some ⟨g, o, none⟩ ∧ g < w.heap.size ∧ ∀ j (h : j < L.length), TermAt w g (o + j * 4) L[j]
structure TrmK (K : Nat → Prop) (w : World) (a : Option Addr) (n c : Nat) (L : List TermL) : Prop where
  len : L.length = n
  cap : n ≤ c
  most : c ≤ maxLen
  cells : 0 < n → ∃ g o, a = some ⟨g, o, none⟩ ∧ g < w.heap.size ∧ K g ∧ ∀ j (h : j < L.length), TermAt w g (o + j * 4) L[j]
theorem TrmK.a {K : Nat → Prop} {w : World} {a : Option Addr} {n c : Nat} {L : List TermL} (h : TrmK K w a n c L) : TrmA w a n c L := ⟨h.len, h.cap, h.most, fun h0 => by obtain ⟨g, o, e, hg, _, hc⟩ := h.cells h0; exact ⟨g, o, e, hg, hc⟩⟩
theorem TrmA.k {w : World} {a : Option Addr} {n c : Nat} {L : List TermL} (h : TrmA w a n c L) : TrmK (fun i => i < w.heap.size) w a n c L := ⟨h.len, h.cap, h.most, fun h0 => by obtain ⟨g, o, e, hg, hc⟩ := h.cells h0; exact ⟨g, o, e, hg, hg, hc⟩⟩
theorem TrmK.mono {K K' : Nat → Prop} {w : World} {a : Option Addr} {n c : Nat} {L : List TermL} (h : TrmK K w a n c L) (hk : ∀ i, i < w.heap.size → K i → K' i) : TrmK K' w a n c L := ⟨h.len, h.cap, h.most, fun h0 => by obtain ⟨g, o, e, hg, k, hc⟩ := h.cells h0; exact ⟨g, o, e, hg, hk g hg k, hc⟩⟩
theorem TrmK.on {K : Nat → Prop} {w w' : World} {a : Option Addr} {n c : Nat} {L : List TermL} (h : TrmK K w a n c L) (hs : Stay K w w') : TrmK K w' a n c L := ⟨h.len, h.cap, h.most, fun h0 => by
  obtain ⟨g, o, e, hg, k, hc⟩ := h.cells h0
  exact ⟨g, o, e, Nat.lt_of_lt_of_le hg hs.size, k, fun j hj => (hc j hj).same (hs.block g hg k)⟩⟩
theorem TrmA.on {w w' : World} {a : Option Addr} {n c : Nat} {L : List TermL} (h : TrmA w a n c L) (hb : Below w.heap.size w w') : TrmA w' a n c L := (h.k.on (stay_below hb)).a
theorem trm_nil (K : Nat → Prop) (w : World) (a : Option Addr) (c : Nat) (hc : c ≤ maxLen) : TrmK K w a 0 c [] := ⟨rfl, Nat.zero_le _, hc, fun h => absurd h (Nat.lt_irrefl _)⟩

/- rows of terms -/
structure RowA (w : World) (a : Option Addr) (n c : Nat) (R : List (List TermL)) : Prop where
  len : R.length = n
  cap : n ≤ c
  most : c ≤ maxLen
  cells : 0 < n → ∃ g o, a = some ⟨g, o, none⟩ ∧ g < w.heap.size ∧ ∀ j (h : j < R.length), ∃ a' c', w.cell? ⟨g, o + j, none⟩ = some (.slice a' R[j].length c') ∧ TrmA w a' R[j].length c' R[j]
structure RowK (K : Nat → Prop) (w : World) (a : Option Addr) (n c : Nat) (R : List (List TermL)) : Prop where
  len : R.length = n
  cap : n ≤ c
  most : c ≤ maxLen
  cells : 0 < n → ∃ g o, a = some ⟨g, o, none⟩ ∧ g < w.heap.size ∧ K g ∧ ∀ j (h : j < R.length), ∃ a' c', w.cell? ⟨g, o + j, none⟩ = some (.slice a' R[j].length c') ∧ TrmK K w a' R[j].length c' R[j]
theorem RowK.a {K : Nat → Prop} {w : World} {a : Option Addr} {n c : Nat} {R : List (List TermL)} (h : RowK K w a n c R) : RowA w a n c R := ⟨h.len, h.cap, h.most, fun h0 => by
  obtain ⟨g, o, e, hg, _, hc⟩ := h.cells h0
  exact ⟨g, o, e, hg, fun j hj => by obtain ⟨a', c', h1, h2⟩ := hc j hj; exact ⟨a', c', h1, h2.a⟩⟩⟩
theorem RowA.k {w : World} {a : Option Addr} {n c : Nat} {R : List (List TermL)} (h : RowA w a n c R) : RowK (fun i => i < w.heap.size) w a n c R := ⟨h.len, h.cap, h.most, fun h0 => by
  obtain ⟨g, o, e, hg, hc⟩ := h.cells h0
  exact ⟨g, o, e, hg, hg, fun j hj => by obtain ⟨a', c', h1, h2⟩ := hc j hj; exact ⟨a', c', h1, h2.k⟩⟩⟩
theorem RowK.mono {K K' : Nat → Prop} {w : World} {a : Option Addr} {n c : Nat} {R : List (List TermL)} (h : RowK K w a n c R) (hk : ∀ i, i < w.heap.size → K i → K' i) : RowK K' w a n c R := ⟨h.len, h.cap, h.most, fun h0 => by
  obtain ⟨g, o, e, hg, k, hc⟩ := h.cells h0
  exact ⟨g, o, e, hg, hk g hg k, fun j hj => by obtain ⟨a', c', h1, h2⟩ := hc j hj; exact ⟨a', c', h1, h2.mono hk⟩⟩⟩
theorem RowK.on {K : Nat → Prop} {w w' : World} {a : Option Addr} {n c : Nat} {R : List (List TermL)} (h : RowK K w a n c R) (hs : Stay K w w') : RowK K w' a n c R := ⟨h.len, h.cap, h.most, fun h0 => by
  obtain ⟨g, o, e, hg, k, hc⟩ := h.cells h0
  exact ⟨g, o, e, Nat.lt_of_lt_of_le hg hs.size, k, fun j hj => by
    obtain ⟨a', c', h1, h2⟩ := hc j hj
    exact ⟨a', c', (cell_same (hs.block g hg k) _).trans h1, h2.on hs⟩⟩⟩
theorem RowA.on {w w' : World} {a : Option Addr} {n c : Nat} {R : List (List TermL)} (h : RowA w a n c R) (hb : Below w.heap.size w w') : RowA w' a n c R := (h.k.on (stay_below hb)).a
theorem row_nil (K : Nat → Prop) (w : World) (a : Option Addr) (c : Nat) (hc : c ≤ maxLen) : RowK K w a 0 c [] := ⟨rfl, Nat.zero_le _, hc, fun h => absurd h (Nat.lt_irrefl _)⟩
theorem RowA.part {w : World} {g o n c : Nat} {R : List (List TermL)} (h : RowA w (some ⟨g, o, none⟩) n c R) {i m d : Nat} (h1 : i + m ≤ n) (h2 : i + d = c) (h3 : m ≤ d) : RowA w (some ⟨g, o + i, none⟩) m d ((R.drop i).take m) := by
  have hl := h.len
  have hm := h.most
  have e : ((R.drop i).take m).length = m := by rw [List.length_take, List.length_drop]; omega
  refine ⟨e, h3, by omega, fun h0 => ?_⟩
  obtain ⟨g', o', he, hg, hc⟩ := h.cells (by omega)
  cases he
  refine ⟨g, o + i, rfl, hg, fun j hj => ?_⟩
  rw [e] at hj
  obtain ⟨a', c', k1, k2⟩ := hc (i + j) (by omega)
  have e2 : ((R.drop i).take m)[j]'(by omega) = R[i + j]'(by omega) := by rw [List.getElem_take, List.getElem_drop]
  rw [e2]
  exact ⟨a', c', by rw [Nat.add_assoc]; exact k1, k2⟩

/- tables -/
def TabA (w : World) (tv : Value) (V : List (List UInt8)) (R : List (List TermL)) : Prop := ∃ va n vc ra m rc, tv = .agg #[.slice va n vc, .slice ra m rc] ∧ TxtA w va n vc V ∧ RowA w ra m rc R
def TabK (K : Nat → Prop) (w : World) (tv : Value) (V : List (List UInt8)) (R : List (List TermL)) : Prop := ∃ va n vc ra m rc, tv = .agg #[.slice va n vc, .slice ra m rc] ∧ TxtK K w va n vc V ∧ RowK K w ra m rc R
theorem TabK.a {K : Nat → Prop} {w : World} {tv : Value} {V : List (List UInt8)} {R : List (List TermL)} (h : TabK K w tv V R) : TabA w tv V R := by obtain ⟨va, n, vc, ra, m, rc, e, h1, h2⟩ := h; exact ⟨va, n, vc, ra, m, rc, e, h1.a, h2.a⟩
theorem TabA.k {w : World} {tv : Value} {V : List (List UInt8)} {R : List (List TermL)} (h : TabA w tv V R) : TabK (fun i => i < w.heap.size) w tv V R := by obtain ⟨va, n, vc, ra, m, rc, e, h1, h2⟩ := h; exact ⟨va, n, vc, ra, m, rc, e, h1.k, h2.k⟩
theorem TabK.mono {K K' : Nat → Prop} {w : World} {tv : Value} {V : List (List UInt8)} {R : List (List TermL)} (h : TabK K w tv V R) (hk : ∀ i, i < w.heap.size → K i → K' i) : TabK K' w tv V R := by obtain ⟨va, n, vc, ra, m, rc, e, h1, h2⟩ := h; exact ⟨va, n, vc, ra, m, rc, e, h1.mono hk, h2.mono hk⟩
theorem TabK.on {K : Nat → Prop} {w w' : World} {tv : Value} {V : List (List UInt8)} {R : List (List TermL)} (h : TabK K w tv V R) (hs : Stay K w w') : TabK K w' tv V R := by obtain ⟨va, n, vc, ra, m, rc, e, h1, h2⟩ := h; exact ⟨va, n, vc, ra, m, rc, e, h1.on hs, h2.on hs⟩
theorem TabA.on {w w' : World} {tv : Value} {V : List (List UInt8)} {R : List (List TermL)} (h : TabA w tv V R) (hb : Below w.heap.size w w') : TabA w' tv V R := (h.k.on (stay_below hb)).a
def noTab : Value := .agg #[.slice none 0 0, .slice none 0 0]
theorem tab_nil (K : Nat → Prop) (w : World) : TabK K w noTab [] [] := ⟨_, _, _, _, _, _, rfl, txt_nil K w none, row_nil K w none 0 (Nat.zero_le _)⟩
def okV (V : List (List UInt8)) : Prop := ∀ x ∈ V, (bs x).size ≤ maxLen
def okR (R : List (List TermL)) : Prop := ∀ r ∈ R, ∀ t ∈ r, t.ok

end Go.Proofs.YtkfemnjblbnclaaGreatDoor
