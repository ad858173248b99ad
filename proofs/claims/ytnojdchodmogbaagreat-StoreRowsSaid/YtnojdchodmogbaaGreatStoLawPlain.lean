/- In plain words: what is in a store of some triples; a list turned; a row put into its pattern. -/
import Derived.Test.YtnojdchodmogbaaGreatStoMade
import Derived.Test.YtnojdchodmogbaaGreatStoPlains
namespace Go.Proofs.YtnojdchodmogbaaGreat
open Go.RowKit

theorem mem_addL {l : List TripL} {t x : TripL} (h : l.length < 4096) : x ∈ addL l t ↔ x ∈ l ∨ (x = t ∧ tripB t = true) := by
  cases hq : tripB t with
  | false => rw [(addL_form hq).1]; simp
  | true =>
    by_cases hin : t ∈ l
    · rw [(addL_there hq hin).1]
      constructor
      · exact fun h => .inl h
      · rintro (h | ⟨rfl, _⟩)
        · exact h
        · exact hin
    · rw [(addL_new hq hin (by omega)).1, mem_putL]
      simp [or_comm]
theorem ord_ofL (l : List TripL) : Ord 0 (ofL l) := by
  unfold ofL
  have : ∀ (l a : List TripL), Ord 0 a → Ord 0 (l.foldl addL a) := by
    intro l
    induction l with
    | nil => exact fun a h => h
    | cons x r ih => exact fun a h => ih _ (ord_addL h)
  exact this l [] List.Pairwise.nil
theorem mem_ofL (l : List TripL) (x : TripL) (hl : l.length ≤ 4096) : x ∈ ofL l ↔ x ∈ l ∧ tripB x = true := by
  have key : ∀ n, n ≤ l.length → (x ∈ ofL (l.take n) ↔ x ∈ l.take n ∧ tripB x = true) := by
    intro n
    induction n with
    | zero => intro _; simp [ofL]
    | succ n ih =>
      intro hn
      have hlt : n < l.length := by omega
      have hlen : (ofL (l.take n)).length < 4096 := by have := ofL_length (l.take n); rw [List.length_take] at this; omega
      rw [List.take_succ_eq_append_getElem hlt, ofL_more, mem_addL hlen, ih (by omega), List.mem_append, List.mem_singleton]
      constructor
      · rintro (⟨h1, h2⟩ | ⟨rfl, h2⟩)
        · exact ⟨.inl h1, h2⟩
        · exact ⟨.inr rfl, h2⟩
      · rintro ⟨h1 | rfl, h2⟩
        · exact .inl ⟨h1, h2⟩
        · exact .inr ⟨rfl, h2⟩
  have := key l.length (Nat.le_refl _)
  rwa [List.take_length] at this

/- a list turned -/
def turnL (L : List TripL) (r k : Nat) : List TripL := (List.range k).map fun i => L.getD ((i + r) % L.length) default
theorem turnL_length (L : List TripL) (r k : Nat) : (turnL L r k).length = k := by simp [turnL]
theorem turnL_more (L : List TripL) (r k : Nat) : turnL L r (k + 1) = turnL L r k ++ [L.getD ((k + r) % L.length) default] := by simp [turnL, List.range_succ]
theorem mem_turnL (L : List TripL) (r : Nat) (hr : r < L.length) (x : TripL) : x ∈ turnL L r L.length ↔ x ∈ L := by
  unfold turnL
  rw [List.mem_map]
  constructor
  · rintro ⟨i, _, rfl⟩
    have h : (i + r) % L.length < L.length := Nat.mod_lt _ (by omega)
    rw [List.getD_eq_getElem?_getD, List.getElem?_eq_getElem h]
    exact List.getElem_mem h
  · intro hx
    obtain ⟨j, hj, rfl⟩ := List.getElem_of_mem hx
    have fin : ∀ i, i < L.length → (i + r) % L.length = j → ∃ a, a ∈ List.range L.length ∧ L.getD ((a + r) % L.length) default = L[j] := fun i hi he => ⟨i, List.mem_range.2 hi, by rw [he, List.getD_eq_getElem?_getD, List.getElem?_eq_getElem hj]; rfl⟩
    by_cases h : r ≤ j
    · exact fin (j - r) (by omega) (by rw [Nat.sub_add_cancel h]; exact Nat.mod_eq_of_lt hj)
    · refine fin (j + L.length - r) (by omega) ?_
      rw [show j + L.length - r + r = j + L.length by omega, Nat.add_mod_right]
      exact Nat.mod_eq_of_lt hj
theorem made_turn (L : List TripL) (r : Nat) (hr : r < L.length) (hl : L.length ≤ 60) : madeL (turnL L r L.length) = madeL L := by
  unfold madeL
  rw [List.take_of_length_le hl, List.take_of_length_le (by rw [turnL_length]; exact hl)]
  refine ord_unique (ord_ofL _) (ord_ofL _) fun t => ?_
  rw [mem_ofL _ _ (by rw [turnL_length]; omega), mem_ofL _ _ (by omega), mem_turnL L r hr]
theorem made_cut (L : List TripL) : madeL (L.take 60) = madeL L := by unfold madeL; rw [List.take_take]; rfl

/- a row, put into its pattern -/
def ofT (x : TermL) : List (List UInt8) → List TermL → TermL
  | n :: V, t :: R => if x.k = 4 ∧ x.x = n then t else ofT x V R
  | _, _ => x
def putT (p : TripL) (V : List (List UInt8)) (R : List TermL) : TripL := ⟨ofT p.s V R, ofT p.p V R, ofT p.o V R⟩
theorem ofT_map (x : TermL) (f : List UInt8 → TermL) : ∀ V : List (List UInt8), ofT x V (V.map f) = if x.k = 4 ∧ x.x ∈ V then f x.x else x
  | [] => by simp [ofT]
  | n :: V => by
    rw [List.map_cons, ofT, ofT_map x f V]
    by_cases h : x.k = 4 ∧ x.x = n
    · rw [if_pos h, if_pos ⟨h.1, by simp [h.2]⟩, h.2]
    · rw [if_neg h]
      by_cases h4 : x.k = 4
      · have hn : ¬ x.x = n := fun e => h ⟨h4, e⟩
        simp [h4, hn]
      · simp [h4]
theorem more_in {l : List (List UInt8)} {t : TermL} (h : t.k = 4) : t.x ∈ moreL l t := by
  unfold moreL
  by_cases hx : t.x ∈ l
  · rw [if_neg (fun c => c.2 hx)]; exact hx
  · rw [if_pos ⟨h, hx⟩]; simp
theorem more_keeps {l : List (List UInt8)} {t : TermL} {x : List UInt8} (h : x ∈ l) : x ∈ moreL l t := by
  unfold moreL
  split
  · exact List.mem_append_left _ h
  · exact h
theorem vars_s {p : TripL} (h : p.s.k = 4) : p.s.x ∈ varsL p := more_keeps (more_keeps (more_in h))
theorem vars_p {p : TripL} (h : p.p.k = 4) : p.p.x ∈ varsL p := more_keeps (more_in h)
theorem vars_o {p : TripL} (h : p.o.k = 4) : p.o.x ∈ varsL p := more_in h
theorem match_parts {p t : TripL} (h : matchB p t = true) : (fitsB p.s t.s = true ∧ fitsB p.p t.p = true ∧ fitsB p.o t.o = true) ∧ (twiceB p.s p.p t.s t.p = false ∧ twiceB p.s p.o t.s t.o = false ∧ twiceB p.p p.o t.p t.o = false) := by
  unfold matchB at h
  simp only [Bool.and_eq_true, Bool.not_eq_true'] at h
  exact ⟨⟨h.1.1, h.1.2.1, h.1.2.2⟩, h.2.1, h.2.2.1, h.2.2.2⟩
theorem fits_not {p t : TermL} (h : fitsB p t = true) (hk : ¬ p.k = 4) : p = t := by
  unfold fitsB at h
  simp only [Bool.or_eq_true, beq_iff_eq, decide_eq_true_eq] at h
  exact h.resolve_left hk
theorem twice_not {a b x y : TermL} (h : twiceB a b x y = false) (ha : a.k = 4) (hb : b.k = 4) (he : a.x = b.x) : x = y := by
  unfold twiceB at h
  rw [decide_eq_true he] at h
  simp only [ha, hb, beq_self_eq_true, Bool.true_and, decide_eq_false_iff_not, Decidable.not_not] at h
  exact h
theorem put_row {p t : TripL} (hp : patB p = true) (hm : matchB p t = true) : putT p (varsL p) (rowP p t) = t := by
  obtain ⟨⟨f1, f2, f3⟩, w1, w2, w3⟩ := match_parts hm
  rw [row_eq hp]
  unfold putT
  rw [ofT_map, ofT_map, ofT_map]
  have hs : (if p.s.k = 4 ∧ p.s.x ∈ varsL p then atName p t p.s.x else p.s) = t.s := by
    by_cases h : p.s.k = 4
    · rw [if_pos ⟨h, vars_s h⟩]; unfold atName; rw [if_pos ⟨h, rfl⟩]
    · rw [if_neg (fun c => h c.1)]; exact fits_not f1 h
  have hpp : (if p.p.k = 4 ∧ p.p.x ∈ varsL p then atName p t p.p.x else p.p) = t.p := by
    by_cases h : p.p.k = 4
    · rw [if_pos ⟨h, vars_p h⟩]; unfold atName
      by_cases hx : p.s.k = 4 ∧ p.s.x = p.p.x
      · rw [if_pos hx]; exact twice_not w1 hx.1 h hx.2
      · rw [if_neg hx, if_pos ⟨h, rfl⟩]
    · rw [if_neg (fun c => h c.1)]; exact fits_not f2 h
  have ho : (if p.o.k = 4 ∧ p.o.x ∈ varsL p then atName p t p.o.x else p.o) = t.o := by
    by_cases h : p.o.k = 4
    · rw [if_pos ⟨h, vars_o h⟩]; unfold atName
      by_cases hx : p.s.k = 4 ∧ p.s.x = p.o.x
      · rw [if_pos hx]; exact twice_not w2 hx.1 h hx.2
      · rw [if_neg hx]
        by_cases hy : p.p.k = 4 ∧ p.p.x = p.o.x
        · rw [if_pos hy]; exact twice_not w3 hy.1 h hy.2
        · rw [if_neg hy]
    · rw [if_neg (fun c => h c.1)]; exact fits_not f3 h
  rw [hs, hpp, ho]

end Go.Proofs.YtnojdchodmogbaaGreat
