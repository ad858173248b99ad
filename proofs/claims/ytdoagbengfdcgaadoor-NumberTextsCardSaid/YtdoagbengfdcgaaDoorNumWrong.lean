/- Numbers that are not right: no reckoning takes them. -/
import Derived.Test.YtdoagbengfdcgaaDoorNumCmp
namespace Go.Proofs.YtdoagbengfdcgaaDoor
open Go.RowKit

set_option maxHeartbeats 1000000 in
theorem Add_wrong (v s : Int) (d : Bool) (v' s' : Int) (d' : Bool) (w : World) (h : (rightZ v s d && rightZ v' s' d') = false) :
    Calls Tryd.prog 23 #[.agg #[.int .i64 v, .int .i64 s, .bool d], .agg #[.int .i64 v', .int .i64 s', .bool d']] w fun e w' => e = .returned (.tuple #[noNum.val, .int .i64 2]) ∧ Below w.heap.size w w' := by
  have E : rightZ v s d = false ∨ (rightZ v s d = true ∧ rightZ v' s' d' = false) := by
    cases h1 : rightZ v s d
    · exact .inl rfl
    · rw [h1] at h; exact .inr ⟨rfl, by simpa using h⟩
  clear h
  rcases E with h | ⟨h, h'⟩
  · have HR := Lib.hid h
    clear h
    go_enter Tryd.func23, Tryd.ntmps23
    go_wp2_with fail
    refine (right_calls _ _ _ _).mono ?_
    rintro e w1 ⟨rfl, hb1⟩
    rw [HR.out]
    obtain ⟨hc, hf⟩ := bcell hb1
    have hz : w.heap.size + 2 < w1.heap.size := by have := hb1.size; simp at this; omega
    go_wp2
    have HB := hb1
    refine bodyPost_ret (v := .tuple #[.agg #[.int .i64 0, .int .i64 0, .bool false], .int .i64 2]) (by simp [results, Tryd.results23, *, go_sem]) rfl ⟨rfl, ?_⟩
    exact (((((((Below.refl _ _).alloc (Nat.le_refl _) _).alloc (by simp) _).alloc (by simp; omega) _).trans (HB.mono (by simp; omega))).setCell (by simp; omega) _).setCell (by simp; omega) _).setCell (by simp; omega) _
  · have HR := Lib.hid h
    have HR' := Lib.hid h'
    clear h h'
    go_enter Tryd.func23, Tryd.ntmps23
    go_wp2_with fail
    refine (right_calls _ _ _ _).mono ?_
    rintro e w1 ⟨rfl, hb1⟩
    rw [HR.out]
    obtain ⟨hc, hf⟩ := bcell hb1
    have hz : w.heap.size + 2 < w1.heap.size := by have := hb1.size; simp at this; omega
    go_wp2_with fail
    refine (right_calls _ _ _ _).mono ?_
    rintro e w2 ⟨rfl, hb2'⟩
    rw [HR'.out]
    have hb2 := bnext hb1 hb2'
    clear hc hf hz
    obtain ⟨hc, hf⟩ := bcell hb2
    have hz : w.heap.size + 2 < w2.heap.size := by have := hb2.size; simp at this; omega
    go_wp2
    have HB := hb2
    refine bodyPost_ret (v := .tuple #[.agg #[.int .i64 0, .int .i64 0, .bool false], .int .i64 2]) (by simp [results, Tryd.results23, *, go_sem]) rfl ⟨rfl, ?_⟩
    exact (((((((Below.refl _ _).alloc (Nat.le_refl _) _).alloc (by simp) _).alloc (by simp; omega) _).trans (HB.mono (by simp; omega))).setCell (by simp; omega) _).setCell (by simp; omega) _).setCell (by simp; omega) _

set_option maxHeartbeats 1000000 in
theorem Sub_wrong (v s : Int) (d : Bool) (v' s' : Int) (d' : Bool) (w : World) (h : (rightZ v s d && rightZ v' s' d') = false) :
    Calls Tryd.prog 25 #[.agg #[.int .i64 v, .int .i64 s, .bool d], .agg #[.int .i64 v', .int .i64 s', .bool d']] w fun e w' => e = .returned (.tuple #[noNum.val, .int .i64 2]) ∧ Below w.heap.size w w' := by
  have E : rightZ v s d = false ∨ (rightZ v s d = true ∧ rightZ v' s' d' = false) := by
    cases h1 : rightZ v s d
    · exact .inl rfl
    · rw [h1] at h; exact .inr ⟨rfl, by simpa using h⟩
  clear h
  rcases E with h | ⟨h, h'⟩
  · have HR := Lib.hid h
    clear h
    go_enter Tryd.func25, Tryd.ntmps25
    go_wp2_with fail
    refine (right_calls _ _ _ _).mono ?_
    rintro e w1 ⟨rfl, hb1⟩
    rw [HR.out]
    obtain ⟨hc, hf⟩ := bcell hb1
    have hz : w.heap.size + 2 < w1.heap.size := by have := hb1.size; simp at this; omega
    go_wp2
    have HB := hb1
    refine bodyPost_ret (v := .tuple #[.agg #[.int .i64 0, .int .i64 0, .bool false], .int .i64 2]) (by simp [results, Tryd.results25, *, go_sem]) rfl ⟨rfl, ?_⟩
    exact (((((((Below.refl _ _).alloc (Nat.le_refl _) _).alloc (by simp) _).alloc (by simp; omega) _).trans (HB.mono (by simp; omega))).setCell (by simp; omega) _).setCell (by simp; omega) _).setCell (by simp; omega) _
  · have HR := Lib.hid h
    have HR' := Lib.hid h'
    clear h h'
    go_enter Tryd.func25, Tryd.ntmps25
    go_wp2_with fail
    refine (right_calls _ _ _ _).mono ?_
    rintro e w1 ⟨rfl, hb1⟩
    rw [HR.out]
    obtain ⟨hc, hf⟩ := bcell hb1
    have hz : w.heap.size + 2 < w1.heap.size := by have := hb1.size; simp at this; omega
    go_wp2_with fail
    refine (right_calls _ _ _ _).mono ?_
    rintro e w2 ⟨rfl, hb2'⟩
    rw [HR'.out]
    have hb2 := bnext hb1 hb2'
    clear hc hf hz
    obtain ⟨hc, hf⟩ := bcell hb2
    have hz : w.heap.size + 2 < w2.heap.size := by have := hb2.size; simp at this; omega
    go_wp2
    have HB := hb2
    refine bodyPost_ret (v := .tuple #[.agg #[.int .i64 0, .int .i64 0, .bool false], .int .i64 2]) (by simp [results, Tryd.results25, *, go_sem]) rfl ⟨rfl, ?_⟩
    exact (((((((Below.refl _ _).alloc (Nat.le_refl _) _).alloc (by simp) _).alloc (by simp; omega) _).trans (HB.mono (by simp; omega))).setCell (by simp; omega) _).setCell (by simp; omega) _).setCell (by simp; omega) _

set_option maxHeartbeats 1000000 in
theorem Mul_wrong (v s : Int) (d : Bool) (v' s' : Int) (d' : Bool) (w : World) (h : (rightZ v s d && rightZ v' s' d') = false) :
    Calls Tryd.prog 24 #[.agg #[.int .i64 v, .int .i64 s, .bool d], .agg #[.int .i64 v', .int .i64 s', .bool d']] w fun e w' => e = .returned (.tuple #[noNum.val, .int .i64 2]) ∧ Below w.heap.size w w' := by
  have E : rightZ v s d = false ∨ (rightZ v s d = true ∧ rightZ v' s' d' = false) := by
    cases h1 : rightZ v s d
    · exact .inl rfl
    · rw [h1] at h; exact .inr ⟨rfl, by simpa using h⟩
  clear h
  rcases E with h | ⟨h, h'⟩
  · have HR := Lib.hid h
    clear h
    go_enter Tryd.func24, Tryd.ntmps24
    go_wp2_with fail
    refine (right_calls _ _ _ _).mono ?_
    rintro e w1 ⟨rfl, hb1⟩
    rw [HR.out]
    obtain ⟨hc, hf⟩ := bcell hb1
    have hz : w.heap.size + 2 < w1.heap.size := by have := hb1.size; simp at this; omega
    go_wp2
    have HB := hb1
    refine bodyPost_ret (v := .tuple #[.agg #[.int .i64 0, .int .i64 0, .bool false], .int .i64 2]) (by simp [results, Tryd.results24, *, go_sem]) rfl ⟨rfl, ?_⟩
    exact (((((((Below.refl _ _).alloc (Nat.le_refl _) _).alloc (by simp) _).alloc (by simp; omega) _).trans (HB.mono (by simp; omega))).setCell (by simp; omega) _).setCell (by simp; omega) _).setCell (by simp; omega) _
  · have HR := Lib.hid h
    have HR' := Lib.hid h'
    clear h h'
    go_enter Tryd.func24, Tryd.ntmps24
    go_wp2_with fail
    refine (right_calls _ _ _ _).mono ?_
    rintro e w1 ⟨rfl, hb1⟩
    rw [HR.out]
    obtain ⟨hc, hf⟩ := bcell hb1
    have hz : w.heap.size + 2 < w1.heap.size := by have := hb1.size; simp at this; omega
    go_wp2_with fail
    refine (right_calls _ _ _ _).mono ?_
    rintro e w2 ⟨rfl, hb2'⟩
    rw [HR'.out]
    have hb2 := bnext hb1 hb2'
    clear hc hf hz
    obtain ⟨hc, hf⟩ := bcell hb2
    have hz : w.heap.size + 2 < w2.heap.size := by have := hb2.size; simp at this; omega
    go_wp2
    have HB := hb2
    refine bodyPost_ret (v := .tuple #[.agg #[.int .i64 0, .int .i64 0, .bool false], .int .i64 2]) (by simp [results, Tryd.results24, *, go_sem]) rfl ⟨rfl, ?_⟩
    exact (((((((Below.refl _ _).alloc (Nat.le_refl _) _).alloc (by simp) _).alloc (by simp; omega) _).trans (HB.mono (by simp; omega))).setCell (by simp; omega) _).setCell (by simp; omega) _).setCell (by simp; omega) _

set_option maxHeartbeats 1000000 in
theorem Div_wrong (v s : Int) (d : Bool) (v' s' : Int) (d' : Bool) (w : World) (h : (rightZ v s d && rightZ v' s' d') = false) :
    Calls Tryd.prog 36 #[.agg #[.int .i64 v, .int .i64 s, .bool d], .agg #[.int .i64 v', .int .i64 s', .bool d']] w fun e w' => e = .returned (.tuple #[noNum.val, .int .i64 2]) ∧ Below w.heap.size w w' := by
  have E : rightZ v s d = false ∨ (rightZ v s d = true ∧ rightZ v' s' d' = false) := by
    cases h1 : rightZ v s d
    · exact .inl rfl
    · rw [h1] at h; exact .inr ⟨rfl, by simpa using h⟩
  clear h
  rcases E with h | ⟨h, h'⟩
  · have HR := Lib.hid h
    clear h
    go_enter Tryd.func36, Tryd.ntmps36
    go_wp2_with fail
    refine (right_calls _ _ _ _).mono ?_
    rintro e w1 ⟨rfl, hb1⟩
    rw [HR.out]
    obtain ⟨hc, hf⟩ := bcell hb1
    have hz : w.heap.size + 2 < w1.heap.size := by have := hb1.size; simp at this; omega
    go_wp2
    have HB := hb1
    refine bodyPost_ret (v := .tuple #[.agg #[.int .i64 0, .int .i64 0, .bool false], .int .i64 2]) (by simp [results, Tryd.results36, *, go_sem]) rfl ⟨rfl, ?_⟩
    exact (((((((Below.refl _ _).alloc (Nat.le_refl _) _).alloc (by simp) _).alloc (by simp; omega) _).trans (HB.mono (by simp; omega))).setCell (by simp; omega) _).setCell (by simp; omega) _).setCell (by simp; omega) _
  · have HR := Lib.hid h
    have HR' := Lib.hid h'
    clear h h'
    go_enter Tryd.func36, Tryd.ntmps36
    go_wp2_with fail
    refine (right_calls _ _ _ _).mono ?_
    rintro e w1 ⟨rfl, hb1⟩
    rw [HR.out]
    obtain ⟨hc, hf⟩ := bcell hb1
    have hz : w.heap.size + 2 < w1.heap.size := by have := hb1.size; simp at this; omega
    go_wp2_with fail
    refine (right_calls _ _ _ _).mono ?_
    rintro e w2 ⟨rfl, hb2'⟩
    rw [HR'.out]
    have hb2 := bnext hb1 hb2'
    clear hc hf hz
    obtain ⟨hc, hf⟩ := bcell hb2
    have hz : w.heap.size + 2 < w2.heap.size := by have := hb2.size; simp at this; omega
    go_wp2
    have HB := hb2
    refine bodyPost_ret (v := .tuple #[.agg #[.int .i64 0, .int .i64 0, .bool false], .int .i64 2]) (by simp [results, Tryd.results36, *, go_sem]) rfl ⟨rfl, ?_⟩
    exact (((((((Below.refl _ _).alloc (Nat.le_refl _) _).alloc (by simp) _).alloc (by simp; omega) _).trans (HB.mono (by simp; omega))).setCell (by simp; omega) _).setCell (by simp; omega) _).setCell (by simp; omega) _

set_option maxHeartbeats 1000000 in
theorem Compare_wrong (v s : Int) (d : Bool) (v' s' : Int) (d' : Bool) (w : World) (h : (rightZ v s d && rightZ v' s' d') = false) :
    Calls Tryd.prog 21 #[.agg #[.int .i64 v, .int .i64 s, .bool d], .agg #[.int .i64 v', .int .i64 s', .bool d']] w fun e w' => e = .returned (.tuple #[.int .i64 0, .int .i64 2]) ∧ Below w.heap.size w w' := by
  have E : rightZ v s d = false ∨ (rightZ v s d = true ∧ rightZ v' s' d' = false) := by
    cases h1 : rightZ v s d
    · exact .inl rfl
    · rw [h1] at h; exact .inr ⟨rfl, by simpa using h⟩
  clear h
  rcases E with h | ⟨h, h'⟩
  · have HR := Lib.hid h
    clear h
    go_enter Tryd.func21, Tryd.ntmps21
    go_wp2_with fail
    refine (right_calls _ _ _ _).mono ?_
    rintro e w1 ⟨rfl, hb1⟩
    rw [HR.out]
    obtain ⟨hc, hf⟩ := bcell hb1
    have hz : w.heap.size + 1 < w1.heap.size := by have := hb1.size; simp at this; omega
    go_wp2
    have HB := hb1
    go_ret2
    exact ⟨rfl, ((((Below.refl _ _).alloc (Nat.le_refl _) _).alloc (by simp) _).trans (HB.mono (by simp; omega)))⟩
  · have HR := Lib.hid h
    have HR' := Lib.hid h'
    clear h h'
    go_enter Tryd.func21, Tryd.ntmps21
    go_wp2_with fail
    refine (right_calls _ _ _ _).mono ?_
    rintro e w1 ⟨rfl, hb1⟩
    rw [HR.out]
    obtain ⟨hc, hf⟩ := bcell hb1
    have hz : w.heap.size + 1 < w1.heap.size := by have := hb1.size; simp at this; omega
    go_wp2_with fail
    refine (right_calls _ _ _ _).mono ?_
    rintro e w2 ⟨rfl, hb2'⟩
    rw [HR'.out]
    have hb2 := bnext hb1 hb2'
    clear hc hf hz
    obtain ⟨hc, hf⟩ := bcell hb2
    have hz : w.heap.size + 1 < w2.heap.size := by have := hb2.size; simp at this; omega
    go_wp2
    have HB := hb2
    go_ret2
    exact ⟨rfl, ((((Below.refl _ _).alloc (Nat.le_refl _) _).alloc (by simp) _).trans (HB.mono (by simp; omega)))⟩

end Go.Proofs.YtdoagbengfdcgaaDoor
