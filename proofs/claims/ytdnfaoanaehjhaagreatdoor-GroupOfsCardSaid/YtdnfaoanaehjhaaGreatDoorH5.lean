/- ShpSlice, ScopePlain, ShpTabPlain, ShpNumPlain, put together. -/
import Derived.Test.YtdnfaoanaehjhaaGreatDoorH3
import Derived.Test.YtdnfaoanaehjhaaGreatDoorH4
import Derived.Deep.Draws
import Derived.Test.YtdnfaoanaehjhaaGreatDoorH2
import Derived.Lib.ItoaMem
import Derived.Lib.ItoaLen

/- Slices of texts, of terms, of rows of terms; tables: what they read as, in whatever world comes behind; in which blocks they lie. -/
namespace Go.Proofs.YtdnfaoanaehjhaaGreatDoor
open Go.RowKit

def TermAt (w : World) (g o : Nat) (t : TermL) : Prop := w.cell? ⟨g, o, none⟩ = some (.int .i64 t.k) ∧ w.cell? ⟨g, o + 1, none⟩ = some (.string (bs t.x)) ∧ w.cell? ⟨g, o + 2, none⟩ = some (.string (bs t.y)) ∧ w.cell? ⟨g, o + 3, none⟩ = some (.string (bs t.z))
theorem cell_same {w w' : World} {g : Nat} (h : w'.heap[g]? = w.heap[g]?) (o : Nat) : w'.cell? ⟨g, o, none⟩ = w.cell? ⟨g, o, none⟩ := World.cell?_of_block h
theorem TermAt.same {w w' : World} {g o : Nat} {t : TermL} (h : TermAt w g o t) (hb : w'.heap[g]? = w.heap[g]?) : TermAt w' g o t := by
  obtain ⟨c0, c1, c2, c3⟩ := h
  exact ⟨(cell_same hb _).trans c0, (cell_same hb _).trans c1, (cell_same hb _).trans c2, (cell_same hb _).trans c3⟩
theorem TermAt.on {w w' : World} {g o B : Nat} {t : TermL} (h : TermAt w g o t) (hb : Below B w w') (hg : g < B) : TermAt w' g o t := h.same (hb.block g hg)

/- what K tells of is as it was -/
structure Stay (K : Nat → Prop) (w w' : World) : Prop where
  size : w.heap.size ≤ w'.heap.size
  block : ∀ b, b < w.heap.size → K b → w'.heap[b]? = w.heap[b]?
theorem Stay.refl (K : Nat → Prop) (w : World) : Stay K w w := ⟨Nat.le_refl _, fun _ _ _ => rfl⟩
theorem Stay.trans {K : Nat → Prop} {a b c : World} (h : Stay K a b) (g : Stay K b c) : Stay K a c := ⟨Nat.le_trans h.size g.size, fun i hi hk => (g.block i (Nat.lt_of_lt_of_le hi h.size) hk).trans (h.block i hi hk)⟩
theorem Stay.mono {K K' : Nat → Prop} {a b : World} (h : Stay K a b) (hk : ∀ i, i < a.heap.size → K' i → K i) : Stay K' a b := ⟨h.size, fun i hi k => h.block i hi (hk i hi k)⟩
theorem stay_below {K : Nat → Prop} {w w' : World} (h : Below w.heap.size w w') : Stay K w w' := ⟨h.size, fun i hi _ => h.block i hi⟩
theorem stay_under {B : Nat} {w w' : World} (h : Below B w w') : Stay (fun i => i < B) w w' := ⟨h.size, fun i _ hk => h.block i hk⟩
theorem stay_row {w w' : World} {g : Nat} (h : w.grownBy w' (some g)) : Stay (fun i => i ≠ g) w w' := ⟨h.size, fun i hi hk => h.block i hi (fun e => hk (Option.some.inj e))⟩
theorem stay_drew (K : Nat → Prop) (w : World) (n : Nat) : Stay K w (w.drewN n) := ⟨Nat.le_refl _, fun _ _ _ => rfl⟩

/- texts -/
structure TxtA (w : World) (a : Option Addr) (n c : Nat) (L : List (List UInt8)) : Prop where
  len : L.length = n
  cap : n ≤ c
  most : c ≤ maxLen
  cells : 0 < n → ∃ g o, a = some ⟨g, o, none⟩ ∧ g < w.heap.size ∧ ∀ j (h : j < L.length), w.cell? ⟨g, o + j, none⟩ = some (.string (bs L[j]))
structure TxtK (K : Nat → Prop) (w : World) (a : Option Addr) (n c : Nat) (L : List (List UInt8)) : Prop where
  len : L.length = n
  cap : n ≤ c
  most : c ≤ maxLen
  cells : 0 < n → ∃ g o, a = some ⟨g, o, none⟩ ∧ g < w.heap.size ∧ K g ∧ ∀ j (h : j < L.length), w.cell? ⟨g, o + j, none⟩ = some (.string (bs L[j]))
theorem TxtK.a {K : Nat → Prop} {w : World} {a : Option Addr} {n c : Nat} {L : List (List UInt8)} (h : TxtK K w a n c L) : TxtA w a n c L := ⟨h.len, h.cap, h.most, fun h0 => by obtain ⟨g, o, e, hg, _, hc⟩ := h.cells h0; exact ⟨g, o, e, hg, hc⟩⟩
theorem TxtA.k {w : World} {a : Option Addr} {n c : Nat} {L : List (List UInt8)} (h : TxtA w a n c L) : TxtK (fun i => i < w.heap.size) w a n c L := ⟨h.len, h.cap, h.most, fun h0 => by obtain ⟨g, o, e, hg, hc⟩ := h.cells h0; exact ⟨g, o, e, hg, hg, hc⟩⟩
theorem TxtK.mono {K K' : Nat → Prop} {w : World} {a : Option Addr} {n c : Nat} {L : List (List UInt8)} (h : TxtK K w a n c L) (hk : ∀ i, i < w.heap.size → K i → K' i) : TxtK K' w a n c L := ⟨h.len, h.cap, h.most, fun h0 => by obtain ⟨g, o, e, hg, k, hc⟩ := h.cells h0; exact ⟨g, o, e, hg, hk g hg k, hc⟩⟩
theorem TxtK.on {K : Nat → Prop} {w w' : World} {a : Option Addr} {n c : Nat} {L : List (List UInt8)} (h : TxtK K w a n c L) (hs : Stay K w w') : TxtK K w' a n c L := ⟨h.len, h.cap, h.most, fun h0 => by
  obtain ⟨g, o, e, hg, k, hc⟩ := h.cells h0
  exact ⟨g, o, e, Nat.lt_of_lt_of_le hg hs.size, k, fun j hj => (cell_same (hs.block g hg k) _).trans (hc j hj)⟩⟩
theorem TxtA.on {w w' : World} {a : Option Addr} {n c : Nat} {L : List (List UInt8)} (h : TxtA w a n c L) (hb : Below w.heap.size w w') : TxtA w' a n c L := (h.k.on (stay_below hb)).a
theorem TxtA.cut {w : World} {a : Option Addr} {n c : Nat} {L : List (List UInt8)} (h : TxtA w a n c L) {m : Nat} (hm : m ≤ n) : TxtA w a m c (L.take m) := by
  have hl := h.len
  have hc := h.cap
  refine ⟨by rw [List.length_take]; omega, by omega, h.most, fun h0 => ?_⟩
  obtain ⟨g, o, he, hg, hcell⟩ := h.cells (by omega)
  refine ⟨g, o, he, hg, fun j hj => ?_⟩
  rw [List.length_take] at hj
  have hx := hcell j (by omega)
  rw [List.getElem_take]
  exact hx
theorem txt_nil (K : Nat → Prop) (w : World) (a : Option Addr) : TxtK K w a 0 0 [] := ⟨rfl, Nat.le_refl _, Nat.zero_le _, fun h => absurd h (Nat.lt_irrefl _)⟩

/- terms -/
structure TrmA (w : World) (a : Option Addr) (n c : Nat) (L : List TermL) : Prop where
  len : L.length = n
  cap : n ≤ c
  most : c ≤ maxLen
  cells : 0 < n → ∃ g o, a = some ⟨g, o, none⟩ ∧ g < w.heap.size ∧ ∀ j (h : j < L.length), TermAt w g (o + j * 4) L[j]
structure TrmK (K : Nat → Prop) (w : World) (a : Option Addr) (n c : Nat) (L : List TermL) : Prop where
  len : L.length = n
  cap : n ≤ c
  most : c ≤ maxLen
  cells : 0 < n → ∃ g o, a = some ⟨g, o, none⟩ ∧ g < w.heap.size ∧ K g ∧ ∀ j (h : j < L.length), TermAt w g (o + j * 4) L[j]
theorem TrmK.a {K : Nat → Prop} {w : World} {a : Option Addr} {n c : Nat} {L : List TermL} (h : TrmK K w a n c L) : TrmA w a n c L := ⟨h.len, h.cap, h.most, fun h0 => by obtain ⟨g, o, e, hg, _, hc⟩ := h.cells h0; exact ⟨g, o, e, hg, hc⟩⟩
theorem TrmA.k {w : World} {a : Option Addr} {n c : Nat} {L : List TermL} (h : TrmA w a n c L) : TrmK (fun i => i < w.heap.size) w a n c L := ⟨h.len, h.cap, h.most, fun h0 => by obtain ⟨g, o, e, hg, hc⟩ := h.cells h0; exact ⟨g, o, e, hg, hg, hc⟩⟩
theorem TrmK.mono {K K' : Nat → Prop} {w : World} {a : Option Addr} {n c : Nat} {L : List TermL} (h : TrmK K w a n c L) (hk : ∀ i, i < w.heap.size → K i → K' i) : TrmK K' w a n c L := ⟨h.len, h.cap, h.most, fun h0 => by obtain ⟨g, o, e, hg, k, hc⟩ := h.cells h0; exact ⟨g, o, e, hg, hk g hg k, hc⟩⟩
theorem TrmK.on {K : Nat → Prop} {w w' : World} {a : Option Addr} {n c : Nat} {L : List TermL} (h : TrmK K w a n c L) (hs : Stay K w w') : TrmK K w' a n c L := ⟨h.len, h.cap, h.most, fun h0 => by
  obtain ⟨g, o, e, hg, k, hc⟩ := h.cells h0
  exact ⟨g, o, e, Nat.lt_of_lt_of_le hg hs.size, k, fun j hj => (hc j hj).same (hs.block g hg k)⟩⟩
theorem TrmA.on {w w' : World} {a : Option Addr} {n c : Nat} {L : List TermL} (h : TrmA w a n c L) (hb : Below w.heap.size w w') : TrmA w' a n c L := (h.k.on (stay_below hb)).a
theorem trm_nil (K : Nat → Prop) (w : World) (a : Option Addr) (c : Nat) (hc : c ≤ maxLen) : TrmK K w a 0 c [] := ⟨rfl, Nat.zero_le _, hc, fun h => absurd h (Nat.lt_irrefl _)⟩

/- rows of terms -/
structure RowA (w : World) (a : Option Addr) (n c : Nat) (R : List (List TermL)) : Prop where
  len : R.length = n
  cap : n ≤ c
  most : c ≤ maxLen
  cells : 0 < n → ∃ g o, a = some ⟨g, o, none⟩ ∧ g < w.heap.size ∧ ∀ j (h : j < R.length), ∃ a' c', w.cell? ⟨g, o + j, none⟩ = some (.slice a' R[j].length c') ∧ TrmA w a' R[j].length c' R[j]
structure RowK (K : Nat → Prop) (w : World) (a : Option Addr) (n c : Nat) (R : List (List TermL)) : Prop where
  len : R.length = n
  cap : n ≤ c
  most : c ≤ maxLen
  cells : 0 < n → ∃ g o, a = some ⟨g, o, none⟩ ∧ g < w.heap.size ∧ K g ∧ ∀ j (h : j < R.length), ∃ a' c', w.cell? ⟨g, o + j, none⟩ = some (.slice a' R[j].length c') ∧ TrmK K w a' R[j].length c' R[j]
theorem RowK.a {K : Nat → Prop} {w : World} {a : Option Addr} {n c : Nat} {R : List (List TermL)} (h : RowK K w a n c R) : RowA w a n c R := ⟨h.len, h.cap, h.most, fun h0 => by
  obtain ⟨g, o, e, hg, _, hc⟩ := h.cells h0
  exact ⟨g, o, e, hg, fun j hj => by obtain ⟨a', c', h1, h2⟩ := hc j hj; exact ⟨a', c', h1, h2.a⟩⟩⟩
theorem RowA.k {w : World} {a : Option Addr} {n c : Nat} {R : List (List TermL)} (h : RowA w a n c R) : RowK (fun i => i < w.heap.size) w a n c R := ⟨h.len, h.cap, h.most, fun h0 => by
  obtain ⟨g, o, e, hg, hc⟩ := h.cells h0
  exact ⟨g, o, e, hg, hg, fun j hj => by obtain ⟨a', c', h1, h2⟩ := hc j hj; exact ⟨a', c', h1, h2.k⟩⟩⟩
theorem RowK.mono {K K' : Nat → Prop} {w : World} {a : Option Addr} {n c : Nat} {R : List (List TermL)} (h : RowK K w a n c R) (hk : ∀ i, i < w.heap.size → K i → K' i) : RowK K' w a n c R := ⟨h.len, h.cap, h.most, fun h0 => by
  obtain ⟨g, o, e, hg, k, hc⟩ := h.cells h0
  exact ⟨g, o, e, hg, hk g hg k, fun j hj => by obtain ⟨a', c', h1, h2⟩ := hc j hj; exact ⟨a', c', h1, h2.mono hk⟩⟩⟩
theorem RowK.on {K : Nat → Prop} {w w' : World} {a : Option Addr} {n c : Nat} {R : List (List TermL)} (h : RowK K w a n c R) (hs : Stay K w w') : RowK K w' a n c R := ⟨h.len, h.cap, h.most, fun h0 => by
  obtain ⟨g, o, e, hg, k, hc⟩ := h.cells h0
  exact ⟨g, o, e, Nat.lt_of_lt_of_le hg hs.size, k, fun j hj => by
    obtain ⟨a', c', h1, h2⟩ := hc j hj
    exact ⟨a', c', (cell_same (hs.block g hg k) _).trans h1, h2.on hs⟩⟩⟩
theorem RowA.on {w w' : World} {a : Option Addr} {n c : Nat} {R : List (List TermL)} (h : RowA w a n c R) (hb : Below w.heap.size w w') : RowA w' a n c R := (h.k.on (stay_below hb)).a
theorem row_nil (K : Nat → Prop) (w : World) (a : Option Addr) (c : Nat) (hc : c ≤ maxLen) : RowK K w a 0 c [] := ⟨rfl, Nat.zero_le _, hc, fun h => absurd h (Nat.lt_irrefl _)⟩
theorem RowA.part {w : World} {g o n c : Nat} {R : List (List TermL)} (h : RowA w (some ⟨g, o, none⟩) n c R) {i m d : Nat} (h1 : i + m ≤ n) (h2 : i + d = c) (h3 : m ≤ d) : RowA w (some ⟨g, o + i, none⟩) m d ((R.drop i).take m) := by
  have hl := h.len
  have hm := h.most
  have e : ((R.drop i).take m).length = m := by rw [List.length_take, List.length_drop]; omega
  refine ⟨e, h3, by omega, fun h0 => ?_⟩
  obtain ⟨g', o', he, hg, hc⟩ := h.cells (by omega)
  cases he
  refine ⟨g, o + i, rfl, hg, fun j hj => ?_⟩
  rw [e] at hj
  obtain ⟨a', c', k1, k2⟩ := hc (i + j) (by omega)
  have e2 : ((R.drop i).take m)[j]'(by omega) = R[i + j]'(by omega) := by rw [List.getElem_take, List.getElem_drop]
  rw [e2]
  exact ⟨a', c', by rw [Nat.add_assoc]; exact k1, k2⟩

/- tables -/
def TabA (w : World) (tv : Value) (V : List (List UInt8)) (R : List (List TermL)) : Prop := ∃ va n vc ra m rc, tv = .agg #[.slice va n vc, .slice ra m rc] ∧ TxtA w va n vc V ∧ RowA w ra m rc R
def TabK (K : Nat → Prop) (w : World) (tv : Value) (V : List (List UInt8)) (R : List (List TermL)) : Prop := ∃ va n vc ra m rc, tv = .agg #[.slice va n vc, .slice ra m rc] ∧ TxtK K w va n vc V ∧ RowK K w ra m rc R
theorem TabK.a {K : Nat → Prop} {w : World} {tv : Value} {V : List (List UInt8)} {R : List (List TermL)} (h : TabK K w tv V R) : TabA w tv V R := by obtain ⟨va, n, vc, ra, m, rc, e, h1, h2⟩ := h; exact ⟨va, n, vc, ra, m, rc, e, h1.a, h2.a⟩
theorem TabA.k {w : World} {tv : Value} {V : List (List UInt8)} {R : List (List TermL)} (h : TabA w tv V R) : TabK (fun i => i < w.heap.size) w tv V R := by obtain ⟨va, n, vc, ra, m, rc, e, h1, h2⟩ := h; exact ⟨va, n, vc, ra, m, rc, e, h1.k, h2.k⟩
theorem TabK.mono {K K' : Nat → Prop} {w : World} {tv : Value} {V : List (List UInt8)} {R : List (List TermL)} (h : TabK K w tv V R) (hk : ∀ i, i < w.heap.size → K i → K' i) : TabK K' w tv V R := by obtain ⟨va, n, vc, ra, m, rc, e, h1, h2⟩ := h; exact ⟨va, n, vc, ra, m, rc, e, h1.mono hk, h2.mono hk⟩
theorem TabK.on {K : Nat → Prop} {w w' : World} {tv : Value} {V : List (List UInt8)} {R : List (List TermL)} (h : TabK K w tv V R) (hs : Stay K w w') : TabK K w' tv V R := by obtain ⟨va, n, vc, ra, m, rc, e, h1, h2⟩ := h; exact ⟨va, n, vc, ra, m, rc, e, h1.on hs, h2.on hs⟩
theorem TabA.on {w w' : World} {tv : Value} {V : List (List UInt8)} {R : List (List TermL)} (h : TabA w tv V R) (hb : Below w.heap.size w w') : TabA w' tv V R := (h.k.on (stay_below hb)).a
def noTab : Value := .agg #[.slice none 0 0, .slice none 0 0]
theorem tab_nil (K : Nat → Prop) (w : World) : TabK K w noTab [] [] := ⟨_, _, _, _, _, _, rfl, txt_nil K w none, row_nil K w none 0 (Nat.zero_le _)⟩
def okV (V : List (List UInt8)) : Prop := ∀ x ∈ V, (bs x).size ≤ maxLen
def okR (R : List (List TermL)) : Prop := ∀ r ∈ R, ∀ t ∈ r, t.ok

end Go.Proofs.YtdnfaoanaehjhaaGreatDoor

/- Operations in plain words (no program): which are right by themselves, how many results each needs. -/
namespace Go.Proofs.YtdnfaoanaehjhaaGreatDoor

structure OpL where
  k : Int
  T : List TripL
  V : List (List UInt8)
  R : List (List TermL)
  F : List PartL
  m : List UInt8
  s : Bool
def needO (k : Int) : Int := if k = 1 ∨ k = 2 then 0 else if k = 7 ∨ k = 8 ∨ k = 9 then 1 else if k = 3 ∨ k = 4 ∨ k = 5 ∨ k = 6 then 2 else -1
def valueZ (t : TermL) : Bool := rightL t.k t.x t.y t.z && (decide (t.k = 0) || decide (t.k = 1) || decide (t.k = 2))
def patsB (T : List TripL) : Bool := T.all patB && decide (T.length ≤ 32)
def namesB : List (List UInt8) → List (List UInt8) → Bool
  | _, [] => true
  | seen, x :: r => nameL x && !decide (x ∈ seen) && namesB (seen ++ [x]) r
def rowsB (n : Nat) (R : List (List TermL)) : Bool := R.all fun r => decide (r.length = n) && r.all valueZ
def tableB (V : List (List UInt8)) (R : List (List TermL)) : Bool := decide (V.length ≤ 32) && decide (R.length ≤ 64) && namesB [] V && rowsB V.length R
def formB (F : List PartL) : Bool := decide (0 < F.length) && decide (chkE F = 0)
def rightO (o : OpL) : Bool :=
  if o.k = 1 then patsB o.T && o.V.isEmpty && o.R.isEmpty && o.F.isEmpty && o.m.isEmpty && !o.s
  else if o.k = 2 then o.T.isEmpty && tableB o.V o.R && o.F.isEmpty && o.m.isEmpty && !o.s
  else if o.k = 3 ∨ o.k = 4 ∨ o.k = 6 then o.T.isEmpty && o.V.isEmpty && o.R.isEmpty && o.F.isEmpty && o.m.isEmpty && !o.s
  else if o.k = 5 then o.T.isEmpty && o.V.isEmpty && o.R.isEmpty && (o.F.isEmpty || formB o.F) && o.m.isEmpty && !o.s
  else if o.k = 7 then o.T.isEmpty && o.V.isEmpty && o.R.isEmpty && formB o.F && o.m.isEmpty && !o.s
  else if o.k = 8 then o.T.isEmpty && o.V.isEmpty && o.R.isEmpty && formB o.F && nameL o.m && !o.s
  else if o.k = 9 then o.T.isEmpty && o.V.isEmpty && o.R.isEmpty && o.F.isEmpty && iriL o.m
  else false

/- names one by one: those ahead of place k are names, each once -/
def NamesR (V : List (List UInt8)) (k : Nat) : Prop := namesB [] V = namesB (V.take k) (V.drop k)
theorem names_start (V : List (List UInt8)) : NamesR V 0 := by unfold NamesR; simp
theorem names_at {V : List (List UInt8)} {k : Nat} (hk : k < V.length) : namesB (V.take k) (V.drop k) = (nameL V[k] && !decide (V[k] ∈ V.take k) && namesB (V.take (k + 1)) (V.drop (k + 1))) := by
  rw [List.drop_eq_getElem_cons hk, List.take_succ_eq_append_getElem hk]; rfl
theorem names_next {V : List (List UInt8)} {k : Nat} (h : NamesR V k) (hk : k < V.length) (h1 : nameL V[k] = true) (h2 : ¬ V[k] ∈ V.take k) : NamesR V (k + 1) := by
  unfold NamesR at *
  rw [h, names_at hk, h1, decide_eq_false h2]; rfl
theorem names_stop {V : List (List UInt8)} {k : Nat} (h : NamesR V k) (hk : k < V.length) (hb : ¬ (nameL V[k] = true ∧ ¬ V[k] ∈ V.take k)) : namesB [] V = false := by
  rw [show namesB [] V = _ from h, names_at hk]
  by_cases h1 : nameL V[k] = true
  · have h2 : V[k] ∈ V.take k := by
      by_cases hc : V[k] ∈ V.take k
      · exact hc
      · exact absurd ⟨h1, hc⟩ hb
    rw [decide_eq_true h2]; simp
  · rw [Bool.eq_false_iff.2 h1]; simp
theorem names_end {V : List (List UInt8)} {k : Nat} (h : NamesR V k) (hk : V.length ≤ k) : namesB [] V = true := by
  rw [show namesB [] V = _ from h, List.drop_eq_nil_of_le hk]; cases V.take k <;> rfl
/- a test of all, one by one -/
theorem all_drop {α : Type} {p : α → Bool} {l : List α} {k : Nat} (hk : k < l.length) : (l.drop k).all p = (p l[k] && (l.drop (k + 1)).all p) := by rw [List.drop_eq_getElem_cons hk]; rfl
def AllR {α : Type} (p : α → Bool) (l : List α) (k : Nat) : Prop := l.all p = (l.drop k).all p
theorem all_start {α : Type} (p : α → Bool) (l : List α) : AllR p l 0 := rfl
theorem all_next {α : Type} {p : α → Bool} {l : List α} {k : Nat} (h : AllR p l k) (hk : k < l.length) (h1 : p l[k] = true) : AllR p l (k + 1) := by
  unfold AllR at *; rw [h, all_drop hk, h1]; rfl
theorem all_stop {α : Type} {p : α → Bool} {l : List α} {k : Nat} (h : AllR p l k) (hk : k < l.length) (h1 : p l[k] = false) : l.all p = false := by
  unfold AllR at h; rw [h, all_drop hk, h1]; rfl
theorem all_end {α : Type} {p : α → Bool} {l : List α} {k : Nat} (h : AllR p l k) (hk : l.length ≤ k) : l.all p = true := by
  unfold AllR at h; rw [h, List.drop_eq_nil_of_le hk]; rfl

end Go.Proofs.YtdnfaoanaehjhaaGreatDoor

/- Which tables are right, in plain words (no program); the place of each variable, told by a map; how many there are. -/
namespace Go.Proofs.YtdnfaoanaehjhaaGreatDoor

def cellT (t : TermL) : Bool := rightL t.k t.x t.y t.z && !decide (t.k = 4)
def rowT (n : Nat) (r : List TermL) : Bool := decide (r.length = n) && r.all cellT
def rightT (V : List (List UInt8)) (R : List (List TermL)) : Bool := decide (V.length ≤ 32) && decide (R.length ≤ 4096) && namesB [] V && R.all (rowT V.length)
theorem cellT_ok {t : TermL} (h : cellT t = true) : rightL t.k t.x t.y t.z = true ∧ t.k ≠ 4 := by
  unfold cellT at h
  simpa using h
theorem rightL_kind {k : Int} {x y z : List UInt8} (h : rightL k x y z = true) : 0 ≤ k ∧ k ≤ 4 := by
  unfold rightL at h
  split at h
  · omega
  · split at h
    · omega
    · split at h
      · omega
      · simp at h; omega

/- texts, each once -/
def onceL (L : List (List UInt8)) : List (List UInt8) := L.foldl (fun m x => if x ∈ m then m else m ++ [x]) []
def cntL (L : List (List UInt8)) : Nat := (onceL L).length
theorem onceL_snoc (L : List (List UInt8)) (x : List UInt8) : onceL (L ++ [x]) = if x ∈ onceL L then onceL L else onceL L ++ [x] := by unfold onceL; rw [List.foldl_append]; rfl
theorem onceL_mem (L : List (List UInt8)) (x : List UInt8) : x ∈ onceL L ↔ x ∈ L := by
  refine snoc_ind (P := fun L => x ∈ onceL L ↔ x ∈ L) Iff.rfl (fun r y ih => ?_) L
  rw [onceL_snoc, List.mem_append, ← ih]
  split
  · rename_i h
    exact ⟨fun k => .inl k, fun k => k.elim id (fun k => by rw [List.mem_singleton] at k; rw [k]; exact h)⟩
  · rw [List.mem_append]
theorem cnt_snoc (L : List (List UInt8)) (x : List UInt8) : cntL (L ++ [x]) = if x ∈ L then cntL L else cntL L + 1 := by
  unfold cntL
  rw [onceL_snoc]
  by_cases h : x ∈ L
  · rw [if_pos ((onceL_mem L x).2 h), if_pos h]
  · rw [if_neg (fun c => h ((onceL_mem L x).1 c)), if_neg h, List.length_append]; rfl
theorem cnt_le (L : List (List UInt8)) : cntL L ≤ L.length := by
  refine snoc_ind (P := fun L => cntL L ≤ L.length) (Nat.le_refl _) (fun r y ih => ?_) L
  rw [cnt_snoc, List.length_append, List.length_singleton]
  split <;> omega
theorem nodup_snoc {α : Type} {L : List α} {x : α} : (L ++ [x]).Nodup ↔ L.Nodup ∧ x ∉ L := by
  rw [List.nodup_append]
  constructor
  · rintro ⟨h1, _, h3⟩
    exact ⟨h1, fun c => h3 x c x (List.mem_singleton.2 rfl) rfl⟩
  · rintro ⟨h1, h2⟩
    refine ⟨h1, List.nodup_cons.2 ⟨List.not_mem_nil, List.nodup_nil⟩, fun a ha b hb e => ?_⟩
    rw [List.mem_singleton] at hb
    rw [e, hb] at ha
    exact h2 ha
theorem cnt_nodup (L : List (List UInt8)) : cntL L = L.length ↔ L.Nodup := by
  refine snoc_ind (P := fun L => cntL L = L.length ↔ L.Nodup) ⟨fun _ => List.nodup_nil, fun _ => rfl⟩ (fun r y ih => ?_) L
  have hle := cnt_le r
  rw [cnt_snoc, List.length_append, List.length_singleton, nodup_snoc, ← ih]
  by_cases h : y ∈ r
  · rw [if_pos h]
    exact ⟨fun k => absurd k (by omega), fun k => absurd h k.2⟩
  · rw [if_neg h]
    exact ⟨fun k => ⟨by omega, h⟩, fun k => by omega⟩
theorem namesB_from : ∀ (V S : List (List UInt8)), namesB S V = (V.all nameL && decide (V.Nodup ∧ ∀ x ∈ V, x ∉ S))
  | [], S => by simp [namesB]
  | x :: r, S => by
    unfold namesB
    rw [namesB_from r, List.all_cons]
    by_cases h1 : nameL x = true
    · rw [h1]
      by_cases h2 : x ∈ S
      · rw [decide_eq_true h2, decide_eq_false (show ¬ ((x :: r).Nodup ∧ ∀ y ∈ x :: r, y ∉ S) from fun c => c.2 x List.mem_cons_self h2)]; simp
      · rw [decide_eq_false h2]
        have e : decide (r.Nodup ∧ ∀ y ∈ r, y ∉ S ++ [x]) = decide ((x :: r).Nodup ∧ ∀ y ∈ x :: r, y ∉ S) := by
          rw [decide_eq_decide, List.nodup_cons]
          constructor
          · rintro ⟨k1, k2⟩
            refine ⟨⟨fun c => k2 x c (List.mem_append.2 (.inr (List.mem_singleton.2 rfl))), k1⟩, fun y hy => ?_⟩
            rcases List.mem_cons.1 hy with rfl | hy
            · exact h2
            · exact fun c => k2 y hy (List.mem_append.2 (.inl c))
          · rintro ⟨⟨k1, k2⟩, k3⟩
            refine ⟨k2, fun y hy c => ?_⟩
            rcases List.mem_append.1 c with c | c
            · exact k3 y (List.mem_cons_of_mem _ hy) c
            · rw [List.mem_singleton] at c; rw [c] at hy; exact k1 hy
        rw [e]; simp
    · rw [Bool.eq_false_iff.2 h1]; simp
theorem names_is (V : List (List UInt8)) : namesB [] V = (V.all nameL && decide V.Nodup) := by
  rw [namesB_from]
  congr 1
  rw [decide_eq_decide]
  exact ⟨fun h => h.1, fun h => ⟨h, fun x _ => List.not_mem_nil⟩⟩
theorem right_nodup {V : List (List UInt8)} {R : List (List TermL)} (h : rightT V R = true) : V.Nodup ∧ V.length ≤ 32 ∧ R.length ≤ 4096 ∧ (∀ x ∈ V, nameL x = true) ∧ ∀ r ∈ R, r.length = V.length ∧ ∀ t ∈ r, cellT t = true := by
  unfold rightT at h
  rw [names_is] at h
  simp only [Bool.and_eq_true, decide_eq_true_eq, List.all_eq_true] at h
  obtain ⟨⟨⟨h1, h2⟩, h3, h4⟩, h5⟩ := h
  refine ⟨h4, h1, h2, h3, fun r hr => ?_⟩
  have := h5 r hr
  unfold rowT at this
  simpa using this

/- the place of each text: the last one -/
def putC (f : List UInt8 → Option Int) (x : List UInt8) (v : Option Int) : List UInt8 → Option Int := fun y => if y = x then v else f y
def colF (L : List (List UInt8)) : List UInt8 → Option Int := (L.foldl (fun (p : (List UInt8 → Option Int) × Int) x => (putC p.1 x (some p.2), p.2 + 1)) (fun _ => none, 0)).1
theorem colF_len (L : List (List UInt8)) : (L.foldl (fun (p : (List UInt8 → Option Int) × Int) x => (putC p.1 x (some p.2), p.2 + 1)) (fun _ => none, 0)).2 = L.length := by
  refine snoc_ind (P := fun L => (L.foldl (fun (p : (List UInt8 → Option Int) × Int) x => (putC p.1 x (some p.2), p.2 + 1)) (fun _ => none, 0)).2 = L.length) rfl (fun r y ih => ?_) L
  rw [List.foldl_append, List.length_append]
  simp only [List.foldl_cons, List.foldl_nil, ih, List.length_singleton]
  omega
theorem colF_nil : colF [] = fun _ => none := rfl
theorem colF_snoc (L : List (List UInt8)) (x : List UInt8) : colF (L ++ [x]) = putC (colF L) x (some L.length) := by
  have := colF_len L
  unfold colF
  rw [List.foldl_append]
  simp only [List.foldl_cons, List.foldl_nil, this]
theorem colF_some (L : List (List UInt8)) (x : List UInt8) : (colF L x).isSome = decide (x ∈ L) := by
  refine snoc_ind (P := fun L => (colF L x).isSome = decide (x ∈ L)) rfl (fun r y ih => ?_) L
  rw [colF_snoc]
  unfold putC
  by_cases h : x = y
  · rw [if_pos h, decide_eq_true (by rw [h]; simp)]; rfl
  · rw [if_neg h, ih, decide_eq_decide]; simp [h]
theorem place_snoc (x y : List UInt8) : ∀ r : List (List UInt8), placeP (r ++ [y]) x = if x ∈ r then placeP r x else if y = x then some r.length else none
  | [] => by simp [placeP]
  | v :: r => by
    by_cases hv : v = x
    · simp [placeP, hv]
    · have hv' : ¬ x = v := fun c => hv c.symm
      simp only [List.cons_append, placeP, if_neg hv, place_snoc x y r, List.mem_cons, hv', false_or]
      by_cases hx : x ∈ r <;> by_cases hy : y = x <;> simp [hx, hy]
theorem colF_place {L : List (List UInt8)} (hn : L.Nodup) (x : List UInt8) : colF L x = Option.map (fun i : Nat => (i : Int)) (placeP L x) := by
  revert hn
  refine snoc_ind (P := fun L => L.Nodup → colF L x = Option.map (fun i : Nat => (i : Int)) (placeP L x)) (fun _ => rfl) (fun r y ih hn => ?_) L
  obtain ⟨h1, h2⟩ := nodup_snoc.1 hn
  rw [colF_snoc, place_snoc]
  unfold putC
  by_cases h : x = y
  · subst h
    rw [if_pos rfl, if_neg h2, if_pos rfl]; rfl
  · have h' : ¬ y = x := fun c => h c.symm
    rw [if_neg h, ih h1]
    by_cases hx : x ∈ r
    · rw [if_pos hx]
    · rw [if_neg hx, if_neg h', place_none.2 hx]

end Go.Proofs.YtdnfaoanaehjhaaGreatDoor

/- A row's text by numbers of its terms, in plain words (no program): two rows have one text just if they are the same. -/
namespace Go.Proofs.YtdnfaoanaehjhaaGreatDoor

def valD (l : List UInt8) : Nat := l.foldl (fun v c => 10 * v + (c.toNat - 48)) 0
theorem valD_snoc (l : List UInt8) (c : UInt8) : valD (l ++ [c]) = 10 * valD l + (c.toNat - 48) := by unfold valD; rw [List.foldl_append]; rfl
theorem dec_val (u : Nat) : valD (Lib.decDigits u) = u ∧ ∀ c ∈ Lib.decDigits u, 48 ≤ c.toNat := by
  induction u using Nat.strongRecOn with
  | ind u ih =>
    have h8 : ∀ d, d < 10 → (UInt8.ofNat (48 + d)).toNat = 48 + d := fun d hd => by
      show (48 + d) % 256 = 48 + d
      omega
    by_cases h : u < 10
    · rw [Lib.decDigits, dif_pos h]
      refine ⟨?_, fun c hc => ?_⟩
      · show 10 * 0 + ((UInt8.ofNat (48 + u)).toNat - 48) = u
        rw [h8 u h]; omega
      · rw [List.mem_singleton] at hc
        rw [hc, h8 u h]; omega
    · obtain ⟨i1, i2⟩ := ih (u / 10) (by omega)
      rw [Lib.decDigits, dif_neg h]
      refine ⟨?_, fun c hc => ?_⟩
      · rw [valD_snoc, i1, h8 _ (Nat.mod_lt _ (by omega))]; omega
      · rcases List.mem_append.1 hc with hc | hc
        · exact i2 c hc
        · rw [List.mem_singleton] at hc
          rw [hc, h8 _ (Nat.mod_lt _ (by omega))]; omega
theorem itoa_one {a b : Int} (ha : 0 ≤ a) (hb : 0 ≤ b) (h : Lib.itoa a = Lib.itoa b) : a = b := by
  obtain ⟨m, rfl⟩ := Int.eq_ofNat_of_zero_le ha
  obtain ⟨n, rfl⟩ := Int.eq_ofNat_of_zero_le hb
  rw [Lib.itoa_nonneg, Lib.itoa_nonneg] at h
  have := (dec_val m).1
  rw [h, (dec_val n).1] at this
  rw [this]
theorem itoa_mark {a : Int} (ha : 0 ≤ a) : (32 : UInt8) ∉ Lib.itoa a := by
  obtain ⟨m, rfl⟩ := Int.eq_ofNat_of_zero_le ha
  rw [Lib.itoa_nonneg]
  intro h
  have := (dec_val m).2 _ h
  exact absurd this (by decide)
theorem split_mark : ∀ {a b r s : List UInt8}, (32 : UInt8) ∉ a → (32 : UInt8) ∉ b → a ++ 32 :: r = b ++ 32 :: s → a = b ∧ r = s
  | [], [], r, s, _, _, h => ⟨rfl, by simpa using h⟩
  | [], y :: b, r, s, _, hb, h => by
    simp only [List.nil_append, List.cons_append, List.cons.injEq] at h
    exact absurd (by rw [← h.1]; exact List.mem_cons_self) hb
  | x :: a, [], r, s, ha, _, h => by
    simp only [List.nil_append, List.cons_append, List.cons.injEq] at h
    exact absurd (by rw [h.1]; exact List.mem_cons_self) ha
  | x :: a, y :: b, r, s, ha, hb, h => by
    simp only [List.cons_append, List.cons.injEq] at h
    obtain ⟨e1, e2⟩ := split_mark (fun c => ha (List.mem_cons_of_mem _ c)) (fun c => hb (List.mem_cons_of_mem _ c)) h.2
    exact ⟨by rw [h.1, e1], e2⟩

/- terms with numbers -/
abbrev NumT := TermL → Option Int
def NumF (f : NumT) (s : Nat) : Prop := (∀ x v, f x = some v → 0 ≤ v ∧ v < s) ∧ ∀ x y v, f x = some v → f y = some v → x = y
def ExtN (f g : NumT) : Prop := ∀ x v, f x = some v → g x = some v
theorem ext_refl (f : NumT) : ExtN f f := fun _ _ h => h
theorem ExtN.trans {f g h : NumT} (a : ExtN f g) (b : ExtN g h) : ExtN f h := fun x v e => b x v (a x v e)
def putT (f : NumT) (t : TermL) (v : Option Int) : NumT := fun x => if x = t then v else f x
def stepN (p : NumT × Nat) (t : TermL) : NumT × Nat := if (p.1 t).isSome then p else (putT p.1 t (some p.2), p.2 + 1)
def runN (p : NumT × Nat) (r : List TermL) : NumT × Nat := r.foldl stepN p
theorem runN_snoc (p : NumT × Nat) (r : List TermL) (t : TermL) : runN p (r ++ [t]) = stepN (runN p r) t := by unfold runN; rw [List.foldl_append]; rfl
theorem num_none : NumF (fun _ => none) 0 := ⟨(fun _ _ h => nomatch h), (fun _ _ _ h => nomatch h)⟩
theorem step_num {p : NumT × Nat} (h : NumF p.1 p.2) (t : TermL) : NumF (stepN p t).1 (stepN p t).2 := by
  unfold stepN
  split
  · exact h
  · obtain ⟨h1, h2⟩ := h
    refine ⟨fun x v hx => ?_, fun x y v hx hy => ?_⟩
    · unfold putT at hx
      dsimp only at hx ⊢
      split at hx
      · have e : (p.2 : Int) = v := by simpa using hx
        omega
      · have := h1 x v hx; omega
    · unfold putT at hx hy
      dsimp only at hx hy
      split at hx
      · rename_i ex
        split at hy
        · rename_i ey; rw [ex, ey]
        · have e : (p.2 : Int) = v := by simpa using hx
          have := h1 y v hy
          omega
      · split at hy
        · have e : (p.2 : Int) = v := by simpa using hy
          have := h1 x v hx
          omega
        · exact h2 x y v hx hy
theorem step_ext (p : NumT × Nat) (t : TermL) : ExtN p.1 (stepN p t).1 := by
  unfold stepN
  split
  · exact ext_refl _
  · rename_i h
    intro x v hx
    show putT p.1 t _ x = _
    unfold putT
    by_cases e : x = t
    · rw [e] at hx; rw [hx] at h; exact absurd rfl h
    · rw [if_neg e]; exact hx
theorem step_has (p : NumT × Nat) (t : TermL) : ((stepN p t).1 t).isSome = true := by
  unfold stepN
  split
  · assumption
  · show (putT p.1 t _ t).isSome = true
    unfold putT
    rw [if_pos rfl]; rfl
theorem step_le (p : NumT × Nat) (t : TermL) : p.2 ≤ (stepN p t).2 ∧ (stepN p t).2 ≤ p.2 + 1 := by
  unfold stepN
  split
  · omega
  · dsimp only; omega
theorem ext_has {f g : NumT} (h : ExtN f g) {t : TermL} (ht : (f t).isSome = true) : (g t).isSome = true := by
  obtain ⟨v, hv⟩ := Option.isSome_iff_exists.1 ht
  rw [h t v hv]; rfl
theorem run_num {p : NumT × Nat} (h : NumF p.1 p.2) (r : List TermL) : NumF (runN p r).1 (runN p r).2 ∧ ExtN p.1 (runN p r).1 ∧ (∀ t ∈ r, ((runN p r).1 t).isSome = true) ∧ (runN p r).2 ≤ p.2 + r.length := by
  refine snoc_ind (P := fun r => NumF (runN p r).1 (runN p r).2 ∧ ExtN p.1 (runN p r).1 ∧ (∀ t ∈ r, ((runN p r).1 t).isSome = true) ∧ (runN p r).2 ≤ p.2 + r.length) ⟨h, ext_refl _, fun t ht => absurd ht List.not_mem_nil, Nat.le_refl _⟩ (fun l x ih => ?_) r
  obtain ⟨h1, h2, h3, h4⟩ := ih
  rw [runN_snoc]
  refine ⟨step_num h1 x, h2.trans (step_ext _ x), fun t ht => ?_, ?_⟩
  · rcases List.mem_append.1 ht with ht | ht
    · exact ext_has (step_ext _ x) (h3 t ht)
    · rw [List.mem_singleton] at ht; rw [ht]; exact step_has _ x
  · have := (step_le (runN p l) x).2
    rw [List.length_append, List.length_singleton]; omega

/- the text -/
def oneN (f : NumT) (t : TermL) : List UInt8 := Lib.itoa ((f t).getD 0) ++ [32]
def txtN (f : NumT) (r : List TermL) : List UInt8 := r.flatMap (oneN f)
theorem txt_snoc (f : NumT) (r : List TermL) (t : TermL) : txtN f (r ++ [t]) = txtN f r ++ (Lib.itoa ((f t).getD 0) ++ [32]) := by unfold txtN; rw [List.flatMap_append]; simp [oneN]
theorem txt_ext {f g : NumT} (h : ExtN f g) {r : List TermL} (hr : ∀ t ∈ r, (f t).isSome = true) : txtN g r = txtN f r := by
  unfold txtN
  induction r with
  | nil => rfl
  | cons t r ih =>
    rw [List.flatMap_cons, List.flatMap_cons, ih (fun x hx => hr x (List.mem_cons_of_mem _ hx))]
    congr 1
    obtain ⟨v, hv⟩ := Option.isSome_iff_exists.1 (hr t List.mem_cons_self)
    unfold oneN
    rw [hv, h t v hv]
theorem txt_one {f : NumT} {s : Nat} (h : NumF f s) : ∀ {a b : List TermL}, (∀ t ∈ a, (f t).isSome = true) → (∀ t ∈ b, (f t).isSome = true) → txtN f a = txtN f b → a = b
  | [], [], _, _, _ => rfl
  | [], t :: b, _, _, e => by
    unfold txtN oneN at e
    simp at e
  | t :: a, [], _, _, e => by
    unfold txtN oneN at e
    simp at e
  | t :: a, u :: b, ha, hb, e => by
    obtain ⟨v, hv⟩ := Option.isSome_iff_exists.1 (ha t List.mem_cons_self)
    obtain ⟨w, hw⟩ := Option.isSome_iff_exists.1 (hb u List.mem_cons_self)
    have e2 : Lib.itoa v ++ 32 :: txtN f a = Lib.itoa w ++ 32 :: txtN f b := by
      unfold txtN oneN at e ⊢
      rw [List.flatMap_cons, List.flatMap_cons, hv, hw] at e
      simpa using e
    obtain ⟨e3, e4⟩ := split_mark (itoa_mark (h.1 t v hv).1) (itoa_mark (h.1 u w hw).1) e2
    have e5 := itoa_one (h.1 t v hv).1 (h.1 u w hw).1 e3
    rw [← e5] at hw
    rw [h.2 t u v hv hw, txt_one h (fun x hx => ha x (List.mem_cons_of_mem _ hx)) (fun x hx => hb x (List.mem_cons_of_mem _ hx)) e4]
theorem itoa_len {v : Int} (h0 : 0 ≤ v) (h1 : v ≤ 9223372036854775807) : (Lib.itoa v).length ≤ 21 := Lib.itoa_length_le v (by omega) h1

theorem txt_len {f : NumT} {s : Nat} (h : NumF f s) (hs : s ≤ 1000000) (r : List TermL) (hr : ∀ t ∈ r, (f t).isSome = true) : (txtN f r).length ≤ r.length * 22 := by
  induction r with
  | nil => exact Nat.le_refl _
  | cons t r ih =>
    have := ih (fun x hx => hr x (List.mem_cons_of_mem _ hx))
    obtain ⟨v, hv⟩ := Option.isSome_iff_exists.1 (hr t List.mem_cons_self)
    have h2 := h.1 t v hv
    have h3 := itoa_len h2.1 (by omega)
    unfold txtN at this ⊢
    rw [List.flatMap_cons, List.length_append, List.length_cons]
    have e : (oneN f t).length = (Lib.itoa v).length + 1 := by unfold oneN; rw [hv, List.length_append]; rfl
    rw [e]
    omega

end Go.Proofs.YtdnfaoanaehjhaaGreatDoor
