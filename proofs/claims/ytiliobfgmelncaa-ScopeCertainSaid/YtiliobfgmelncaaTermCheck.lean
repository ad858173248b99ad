/- Which terms are right, and what Check answers of them: what package term's tests of a term come to, for every term. -/
import Derived.Test.YtiliobfgmelncaaTermRight
namespace Go.Proofs.Ytiliobfgmelncaa
open Go.RowKit

/- a term as a value -/
def termV (k : Int) (x y z : ByteArray) : Value := .agg #[.int .i64 k, .string x, .string y, .string z]

/- OK, or ErrForm -/
def formZ (b : Bool) : Int := if b then 0 else 2

theorem box_below (w : World) (o : Obj) : Below w.heap.size w (w.alloc o) := (Below.refl _ _).alloc (Nat.le_refl _) _

set_option maxHeartbeats 400000 in
theorem untagged_calls (k : Int) (x y z : ByteArray) (w : World) :
    Calls Try.prog 69 #[.agg #[.int .i64 k, .string x, .string y, .string z]] w fun e w' => e = .returned (.bool (bareL y.data.toList z.data.toList)) ∧ Below w.heap.size w w' := by
  have HY := Lib.hid (Lib.toList_data y)
  have HZ := Lib.hid (Lib.toList_data z)
  by_cases h1 : y.toList = [] <;> by_cases h2 : z.toList = []
  all_goals
    go_enter Try.func69, Try.ntmps69
    go_wp2
    go_ret
    exact ⟨ret_bool (by rw [← HY.out, ← HZ.out]; simp [bareL, h1, h2]), box_below _ _⟩

theorem bcell {W w1 : World} (hb : Below W.heap.size W w1) : (∀ b o, b < W.heap.size → w1.cell? ⟨b, o, none⟩ = W.cell? ⟨b, o, none⟩) ∧ (∀ b o, b < W.heap.size → w1.frozen? ⟨b, o, none⟩ = W.frozen? ⟨b, o, none⟩) :=
  ⟨fun b o h => hb.cell (p := ⟨b, o, none⟩) h, fun b o h => hb.frozen (p := ⟨b, o, none⟩) h⟩

set_option maxHeartbeats 400000 in
theorem rightTag_calls (k : Int) (x y z : ByteArray) (w : World) (_hy : y.size ≤ maxLen) (_hz : z.size ≤ maxLen) :
    Calls Try.prog 72 #[.agg #[.int .i64 k, .string x, .string y, .string z]] w fun e w' => e = .returned (.bool (tagL y.data.toList z.data.toList)) ∧ Below w.heap.size w w' := by
  have HY := Lib.hid (Lib.toList_data y)
  have HZ := Lib.hid (Lib.toList_data z)
  have E1 : y.toList.isEmpty = true ∨ y.toList.isEmpty = false := by cases y.toList.isEmpty <;> simp
  have E2 : z.toList.isEmpty = true ∨ z.toList.isEmpty = false := by cases z.toList.isEmpty <;> simp
  rcases E1 with h1 | h1 <;> rcases E2 with h2 | h2
  all_goals
    go_enter Try.func72, Try.ntmps72
    go_wp2_with (first | (go_at_call 70; refine (isIri_calls _ _ _hy).mono ?_; rintro e w' ⟨rfl, hb⟩) | (go_at_call 85; refine (isLang_calls _ _ _hz).mono ?_; rintro e w' ⟨rfl, hb⟩))
    all_goals go_ret
    all_goals exact ⟨ret_bool (by rw [← HY.out, ← HZ.out]; simp [tagL, h1, h2]), by first | exact box_below _ _ | exact (box_below _ _).trans (hb.mono (by simp))⟩


theorem bnext {W w1 w2 : World} (h1 : Below W.heap.size W w1) (h2 : Below w1.heap.size w1 w2) : Below W.heap.size W w2 := h1.trans (h2.mono h1.size)
theorem two_boxes {w w1 w2 : World} {o : Obj} (h1 : Below (w.alloc o).heap.size (w.alloc o) w1) (h2 : Below w1.heap.size w1 w2) : Below w.heap.size w w2 :=
  ((box_below w o).trans (h1.mono (by simp))).trans (h2.mono (by have := h1.size; simp at this; omega))
theorem one_box {w w1 : World} {o : Obj} (h1 : Below (w.alloc o).heap.size (w.alloc o) w1) : Below w.heap.size w w1 :=
  (box_below w o).trans (h1.mono (by simp))

set_option maxHeartbeats 1000000 in
theorem right_named (k : Int) (x y z : ByteArray) (w : World) (_hx : x.size ≤ maxLen) (hk : k = 1 ∨ k = 3 ∨ k = 4) :
    Calls Try.prog 48 #[.agg #[.int .i64 k, .string x, .string y, .string z]] w fun e w' => e = .returned (.bool (rightL k x.data.toList y.data.toList z.data.toList)) ∧ Below w.heap.size w w' := by
  have E1 : bareL y.data.toList z.data.toList = true ∨ bareL y.data.toList z.data.toList = false := by cases bareL y.data.toList z.data.toList <;> simp
  rcases hk with rfl | rfl | rfl <;> rcases E1 with h1 | h1
  all_goals
    go_enter Try.func48, Try.ntmps48
    go_wp2_with fail
    refine (untagged_calls _ _ _ _ _).mono ?_
    rintro e w1 ⟨rfl, hb1⟩
    obtain ⟨hc, hf⟩ := bcell hb1
    have hz : w.heap.size < w1.heap.size := by have := hb1.size; simp at this; omega
    go_wp2_with (first | (go_at_call 70; refine (isIri_calls _ _ _hx).mono ?_; rintro e w2 ⟨rfl, hb2⟩) | (go_at_call 24; refine (IsName_calls _ _ _hx).mono ?_; rintro e w2 ⟨rfl, hb2⟩))
    all_goals go_ret
    all_goals exact ⟨ret_bool (by simp [rightL, h1]), by first | exact one_box hb1 | exact two_boxes hb1 hb2⟩


set_option maxHeartbeats 1000000 in
theorem right_literal (x y z : ByteArray) (w : World) (_hx : x.size ≤ maxLen) (_hy : y.size ≤ maxLen) (_hz : z.size ≤ maxLen) :
    Calls Try.prog 48 #[.agg #[.int .i64 2, .string x, .string y, .string z]] w fun e w' => e = .returned (.bool (rightL 2 x.data.toList y.data.toList z.data.toList)) ∧ Below w.heap.size w w' := by
  have E1 : litL x.data.toList = true ∨ litL x.data.toList = false := by cases litL x.data.toList <;> simp
  rcases E1 with h1 | h1
  all_goals
    go_enter Try.func48, Try.ntmps48
    go_wp2_with fail
    refine (isLiteralText_calls _ _ _hx).mono ?_
    rintro e w1 ⟨rfl, hb1⟩
    obtain ⟨hc, hf⟩ := bcell hb1
    have hz : w.heap.size < w1.heap.size := by have := hb1.size; simp at this; omega
    go_wp2_with (go_at_call 72; refine (rightTag_calls _ _ _ _ _ _hy _hz).mono ?_; rintro e w2 ⟨rfl, hb2⟩)
    all_goals go_ret
    all_goals exact ⟨ret_bool (by simp [rightL, h1]), by first | exact one_box hb1 | exact two_boxes hb1 hb2⟩

set_option maxHeartbeats 1000000 in
theorem right_other (k : Int) (x y z : ByteArray) (w : World) (h1 : k ≠ 1) (h2 : k ≠ 2) (h3 : k ≠ 3) (h4 : k ≠ 4) :
    Calls Try.prog 48 #[.agg #[.int .i64 k, .string x, .string y, .string z]] w fun e w' => e = .returned (.bool (rightL k x.data.toList y.data.toList z.data.toList)) ∧ Below w.heap.size w w' := by
  have g1 : (k == 1) = false := beq_eq_false_iff_ne.2 h1
  have g2 : (k == 2) = false := beq_eq_false_iff_ne.2 h2
  have g3 : (k == 3) = false := beq_eq_false_iff_ne.2 h3
  have g4 : (k == 4) = false := beq_eq_false_iff_ne.2 h4
  have H1 := Lib.hid h1
  have H2 := Lib.hid h2
  have H3 := Lib.hid h3
  have H4 := Lib.hid h4
  clear h1 h2 h3 h4
  go_enter Try.func48, Try.ntmps48
  go_wp2
  all_goals go_ret
  all_goals exact ⟨ret_bool (by have e1 := H1.out; have e2 := H2.out; have e3 := H3.out; have e4 := H4.out; rw [← Lib.toList_data x, ← Lib.toList_data y, ← Lib.toList_data z]; simp [rightL, bareL, *]), box_below _ _⟩

theorem right_calls (k : Int) (x y z : ByteArray) (w : World) (hx : x.size ≤ maxLen) (hy : y.size ≤ maxLen) (hz : z.size ≤ maxLen) :
    Calls Try.prog 48 #[.agg #[.int .i64 k, .string x, .string y, .string z]] w fun e w' => e = .returned (.bool (rightL k x.data.toList y.data.toList z.data.toList)) ∧ Below w.heap.size w w' := by
  by_cases h1 : k = 1 ∨ k = 3 ∨ k = 4
  · exact right_named k x y z w hx h1
  · by_cases h2 : k = 2
    · subst h2; exact right_literal x y z w hx hy hz
    · exact right_other k x y z w (by omega) h2 (by omega) (by omega)

set_option maxHeartbeats 400000 in
theorem Check_calls (k : Int) (x y z : ByteArray) (w : World) (_hx : x.size ≤ maxLen) (_hy : y.size ≤ maxLen) (_hz : z.size ≤ maxLen) :
    Calls Try.prog 25 #[.agg #[.int .i64 k, .string x, .string y, .string z]] w fun e w' => e = .returned (.int .i64 (formZ (rightL k x.data.toList y.data.toList z.data.toList))) ∧ Below w.heap.size w w' := by
  have E1 : rightL k x.data.toList y.data.toList z.data.toList = true ∨ rightL k x.data.toList y.data.toList z.data.toList = false := by cases rightL k x.data.toList y.data.toList z.data.toList <;> simp
  rcases E1 with h1 | h1
  all_goals
    go_enter Try.func25, Try.ntmps25
    go_wp2_with (go_at_call 48; refine (right_calls _ _ _ _ _ _hx _hy _hz).mono ?_; rintro e w1 ⟨rfl, hb1⟩)
    go_ret
    exact ⟨by simp [h1, formZ], one_box hb1⟩

end Go.Proofs.Ytiliobfgmelncaa
