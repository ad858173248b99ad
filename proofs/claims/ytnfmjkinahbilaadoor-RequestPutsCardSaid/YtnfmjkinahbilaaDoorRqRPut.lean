/- The document's bytes of a right request. -/
import Derived.Test.YtnfmjkinahbilaaDoorRqDigits
import Derived.Test.YtnfmjkinahbilaaDoorRPctEnc
import Derived.Lib.QuietBelow
namespace Go.Proofs.YtnfmjkinahbilaaDoor
open Go.RowKit Go.Sort
open Go.Lib (decDigits)

def idS : ByteArray := ⟨#[105, 100, 61]⟩
def textS : ByteArray := ⟨#[38, 113, 117, 101, 114, 121, 61]⟩
theorem put_join (n : Nat) (s : ByteArray) : bs (wrS (twoL ⟨n, s.data.toList⟩)) = idS ++ bs (decDigits n) ++ textS ++ bs (encS s.data.toList) := by
  rw [put_bytes_dec]
  apply bs_eq
  show _ = _
  simp [idS, textS, bs]

set_option maxRecDepth 100000 in
set_option maxHeartbeats 2000000 in
theorem rPut_calls (n : Nat) (s : ByteArray) (hn : n < 4096) (hs : s.size ≤ 4096) (w : World) :
    Calls Tryd.prog 10 #[.agg #[.int .i64 n, .string s]] w fun e w' => e = .returned (.string (bs (wrS (twoL ⟨n, s.data.toList⟩)))) ∧ Below w.heap.size w w' := by
  have HJ := Lib.hid (put_join n s)
  have d1 := digits_len n hn
  have e1 := encS_len s.data.toList
  have hl : s.data.toList.length = s.size := (Lib.size_eq s).symm
  obtain ⟨D, hD⟩ : ∃ D, bs (decDigits n) = D := ⟨_, rfl⟩
  obtain ⟨E, hE⟩ : ∃ E, bs (encS s.data.toList) = E := ⟨_, rfl⟩
  have hDs : D.size ≤ 4 := by rw [← hD, bs_size]; omega
  have hEs : E.size ≤ 12288 := by rw [← hE, bs_size]; omega
  obtain ⟨X, hX⟩ : ∃ X, w.heap.size = X := ⟨_, rfl⟩
  obtain ⟨W1, hW1⟩ : ∃ W1, w.alloc (.cells #[.int .i64 n, .string s] 23) = W1 := ⟨_, rfl⟩
  have HK := Lib.hid (show Blk W1 X 23 #[.int .i64 n, .string s] by rw [← hW1, ← hX]; exact blk_new _ _ _)
  have HB := Lib.hid (show Below w.heap.size w W1 by rw [← hW1]; exact box_below _ _)
  have HX := Lib.hid hX
  have HW1 := Lib.hid hW1
  have c0 : ∀ d os, (grow (redrawn W1 d) os).cell? ⟨X, 0, none⟩ = some (.int .i64 n) := fun d os => cell_regrown ((blk_cell HK.out 0).trans rfl) d os
  have c1 : ∀ d os, (grow (redrawn W1 d) os).cell? ⟨X, 1, none⟩ = some (.string s) := fun d os => cell_regrown ((blk_cell HK.out 1).trans rfl) d os
  have cA : ∀ d os, Calls Tryd.prog 15 #[.int .i64 n, .int .i64 1] (grow (redrawn W1 d) os) fun e w'' => e = .returned (.string D) ∧ ∃ p : Regrown, w'' = grow (redrawn W1 p.d) p.os := fun d os => Calls.regrown_of (rDigits_dec n _ hn D hD)
  have cB : ∀ d os, Calls Tryd.prog 16 #[.string s] (grow (redrawn W1 d) os) fun e w'' => e = .returned (.string E) ∧ ∃ p : Regrown, w'' = grow (redrawn W1 p.d) p.os := fun d os => Calls.regrown_of (by
    have := rEncode_calls s (grow (redrawn W1 d) os) (by omega)
    rw [hE] at this
    exact this)
  have s1 : (idS ++ D).size = 3 + D.size := by rw [ByteArray.size_append]; rfl
  have s2 : (idS ++ D ++ textS).size = 3 + D.size + 7 := by rw [ByteArray.size_append, s1]; rfl
  have q1 : ∀ W : World, (Op.stringOp .add ⟨#[105, 100, 61]⟩ D).run Tryd.prog W = .ok (.string (idS ++ D)) W := fun W => run_string_add_sum W _ _ (by show 3 + _ ≤ 9223372036854775807; omega)
  have q2 : ∀ W : World, (Op.stringOp .add (idS ++ D) ⟨#[38, 113, 117, 101, 114, 121, 61]⟩).run Tryd.prog W = .ok (.string (idS ++ D ++ textS)) W := fun W => run_string_add_sum W _ _ (by rw [s1]; show _ + 7 ≤ 9223372036854775807; omega)
  have q3 : ∀ W : World, (Op.stringOp .add (idS ++ D ++ textS) E).run Tryd.prog W = .ok (.string (idS ++ D ++ textS ++ E)) W := fun W => run_string_add_sum W _ _ (by rw [s2]; omega)
  rw [hD, hE] at HJ
  clear s1 s2 d1 e1 hl hD hE hX hW1
  go_enter Tryd.func10, Tryd.ntmps10
  go_wp2_with fail
  rw [HW1.out, HX.out]
  refine wp_region_quiet_below (by kernel_rfl) (by kernel_rfl) ?_
  repeat (quiet_step (first | with_reducible exact cA _ _ | with_reducible exact cB _ _))
  refine wpQuiet_nil ?_
  intro _ hw'
  obtain ⟨⟨dq, osq⟩, hw''⟩ := hw'
  subst hw''
  have HBQ := Lib.hid (below_regrown W1 dq osq)
  obtain ⟨W2, hW2⟩ : ∃ W2, grow (redrawn W1 dq) osq = W2 := ⟨_, rfl⟩
  rw [hW2] at HBQ ⊢
  clear c0 c1 cA cB hW2
  go_wp2
  go_ret
  exact ⟨by rw [HJ.out]; rfl, fb2 HB.out HBQ.out (Nat.le_refl _)⟩

end Go.Proofs.YtnfmjkinahbilaaDoor
