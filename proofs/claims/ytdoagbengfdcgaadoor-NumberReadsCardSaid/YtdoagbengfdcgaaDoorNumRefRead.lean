/- The document's own reading of a number's text: what package number's Read comes to, for every text. -/
import Derived.Test.YtdoagbengfdcgaaDoorNumReadRef
import Derived.Test.YtdoagbengfdcgaaDoorNumRefCut
namespace Go.Proofs.YtdoagbengfdcgaaDoor
open Go.RowKit

theorem get_list (s : ByteArray) (k : Nat) (h : k < s.size) : (s.data.toList[k]'(by simpa using h)) = s[k]'h := by simp; rfl
theorem walk_get (dec : Bool) (l : List UInt8) (k : Nat) (h : k < l.length) (n : Nat) (b v : Int) : walkR dec (l.drop k) n b v =
    if l[k] = 46 ∧ b < 0 ∧ dec = true then walkR dec (l.drop (k + 1)) n 0 v else if digitB l[k] = false ∨ n = 13 then none else walkR dec (l.drop (k + 1)) (n + 1) (if 0 ≤ b then b + 1 else b) (10 * v + (l[k].toNat : Int) - 48) := by
  rw [List.drop_eq_getElem_cons h, walk_cons]
theorem walk_end (dec : Bool) (l : List UInt8) (k : Nat) (h : l.length ≤ k) (n : Nat) (b v : Int) : walkR dec (l.drop k) n b v = some (n, b, v) := by
  rw [List.drop_eq_nil_of_le h]; rfl
theorem byte_46 (c : UInt8) : c = 46 ↔ (c.toNat : Int) = 46 := by
  constructor
  · intro h; rw [h]; rfl
  · intro h; apply UInt8.toNat_inj.1; show c.toNat = 46; omega

/- how a text begins -/
theorem head_cases (s : ByteArray) : (s.size = 0 ∧ unsigned s.data.toList = s.data.toList.drop 0 ∧ signOf s.data.toList = 1) ∨ ∃ h : 0 < s.size,
    ((((s[0]'h).toNat : Int) = 45 ∧ unsigned s.data.toList = s.data.toList.drop 1 ∧ signOf s.data.toList = -1) ∨
     (((s[0]'h).toNat : Int) = 43 ∧ unsigned s.data.toList = s.data.toList.drop 1 ∧ signOf s.data.toList = 1) ∨
     (((s[0]'h).toNat : Int) ≠ 45 ∧ ((s[0]'h).toNat : Int) ≠ 43 ∧ unsigned s.data.toList = s.data.toList.drop 0 ∧ signOf s.data.toList = 1)) := by
  by_cases h : 0 < s.size
  · right
    refine ⟨h, ?_⟩
    have e := get_list s 0 h
    have hl : s.data.toList = s[0] :: s.data.toList.drop 1 := by
      have := List.drop_eq_getElem_cons (l := s.data.toList) (i := 0) (by simpa using h)
      rw [List.drop_zero, e] at this
      exact this
    generalize s[0] = c at hl
    generalize s.data.toList.drop 1 = r at hl
    rw [hl]
    by_cases h1 : c = 45
    · left; subst h1; exact ⟨rfl, rfl, rfl⟩
    · have n1 : (c.toNat : Int) ≠ 45 := fun k => h1 (UInt8.toNat_inj.1 (by show c.toNat = 45; omega))
      by_cases h2 : c = 43
      · right; left; subst h2; exact ⟨rfl, rfl, rfl⟩
      · have n2 : (c.toNat : Int) ≠ 43 := fun k => h2 (UInt8.toNat_inj.1 (by show c.toNat = 43; omega))
        right; right
        exact ⟨n1, n2, by simp [unsigned, h1, h2], by simp [signOf, h1]⟩
  · left
    have : s.data.toList = [] := List.eq_nil_of_length_eq_zero (by rw [← Lib.size_eq]; omega)
    rw [this]
    exact ⟨by omega, rfl, rfl⟩

def Go45 (s : ByteArray) (sg : Int) : Prop := ∀ h : 0 < s.size, (sg = -1 ∧ (((s[0]'h).toNat : Int) == 45) = true) ∨ (sg = 1 ∧ (((s[0]'h).toNat : Int) == 45) = false)

/- the walk's relation -/
def RR (s : ByteArray) (dec : Bool) (R : Option (Nat × Int × Int)) (k n : Nat) (b v : Int) : Prop := v < ten n ∧ walkR dec (s.data.toList.drop k) n b v = R

theorem rr_dot {s : ByteArray} {R : Option (Nat × Int × Int)} {k n : Nat} {b v : Int} (hk : k < s.size) (h : RR s true R k n b v) (hc : ((s[k]'hk).toNat : Int) = 46) (hb : b < 0) : RR s true R (k + 1) n 0 v := by
  refine ⟨h.1, ?_⟩
  have := h.2
  rw [walk_get true _ k (by simpa using hk), get_list s k hk, if_pos ⟨(byte_46 _).2 hc, hb, rfl⟩] at this
  exact this
theorem rr_none {s : ByteArray} {dec : Bool} {R : Option (Nat × Int × Int)} {k n : Nat} {b v : Int} (hk : k < s.size) (h : RR s dec R k n b v) (hc : (((s[k]'hk).toNat : Int) = 46 → ¬ (b < 0 ∧ dec = true))) (hd : (((s[k]'hk).toNat : Int) < 48 ∨ 57 < ((s[k]'hk).toNat : Int)) ∨ n = 13) : R = none := by
  have := h.2
  rw [walk_get dec _ k (by simpa using hk), get_list s k hk, if_neg (fun e => hc ((byte_46 _).1 e.1) e.2), if_pos (by
    rcases hd with hd | hd
    · left; simp [digitB]; omega
    · exact .inr hd)] at this
  exact this.symm
theorem rr_digit {s : ByteArray} {dec : Bool} {R : Option (Nat × Int × Int)} {k n : Nat} {b v : Int} (hk : k < s.size) (h : RR s dec R k n b v) (h1 : 48 ≤ ((s[k]'hk).toNat : Int)) (h2 : ((s[k]'hk).toNat : Int) ≤ 57) (hn : n < 13) (b' : Int) (hb : b' = if 0 ≤ b then b + 1 else b) :
    RR s dec R (k + 1) (n + 1) b' (10 * v + ((s[k]'hk).toNat : Int) - 48) := by
  obtain ⟨ht, hw⟩ := h
  refine ⟨by have e : ten (n + 1) = 10 * ten n := rfl; omega, ?_⟩
  rw [walk_get dec _ k (by simpa using hk), get_list s k hk, if_neg (fun e => by have := (byte_46 _).1 e.1; omega), if_neg (by
    rintro (e | e)
    · simp [digitB] at e; omega
    · omega), ← hb] at hw
  exact hw
theorem rr_end {s : ByteArray} {dec : Bool} {R : Option (Nat × Int × Int)} {k n : Nat} {b v : Int} (hk : ¬ k < s.size) (h : RR s dec R k n b v) : R = some (n, b, v) := by
  have := h.2
  rw [walk_end dec _ k (by rw [← Lib.size_eq]; omega)] at this
  exact this.symm
theorem rr_small {s : ByteArray} {dec : Bool} {R : Option (Nat × Int × Int)} {k n : Nat} {b v : Int} (h : RR s dec R k n b v) (hn : n ≤ 13) : v < 10000000000000 := by
  have := ten_13 n hn; have := h.1; omega
theorem end_none (dec : Bool) (sg : Int) : endR dec sg none = (noNum, false) := rfl
theorem end_zero (dec : Bool) (sg b v : Int) : endR dec sg (some (0, b, v)) = (noNum, false) := by unfold endR; simp
theorem end_few (sg b v : Int) (n : Nat) (h : b < 1 ∨ 4 < b) : endR true sg (some (n, b, v)) = (noNum, false) := by
  unfold endR; simp only []; rw [if_pos (.inr ⟨by simp, h⟩)]
theorem end_made (dec : Bool) (sg b v : Int) (n : Nat) (hn : n ≠ 0) (h : dec = true → 1 ≤ b ∧ b ≤ 4) : endR dec sg (some (n, b, v)) = madeL (sg * v) (max b 0).toNat dec := by
  unfold endR
  simp only []
  rw [if_neg]
  rintro (e | ⟨e, e'⟩)
  · exact hn e
  · have := h e; omega

end Go.Proofs.YtdoagbengfdcgaaDoor
