/- A message sent, to a pool and to none. -/
import Derived.Test.YtheefhogphlkiaaPolPut
namespace Go.Proofs.Ytheefhogphlkiaa
open Go.RowKit

theorem put_first {B P : Nat} {v : Value} {E : Int} {L' : List MsgL} {w w1 : World} {e : Ending} {w' : World} (hb : Below w.heap.size w w1) (h : PutT B P v E L' w1 e w') : PutT B P v E L' w e w' := by
  obtain ⟨he, v', hp, hm⟩ := h
  exact ⟨he, v', hp, moved_first hb hm⟩

set_option maxRecDepth 100000 in
set_option maxHeartbeats 1000000 in
theorem send_calls (B P : Nat) (v : Value) (L : List MsgL) (m : MsgL) (w : World) (h : PoolT w B P v L) :
    Calls Try.prog 17 #[.pointer (some ⟨P, 0, none⟩), .agg #[.int .i64 m.f, .int .i64 m.t, .string m.b]] w (PutT B P v (sendE L m) (sendL L m) w) := by
  have HR := Lib.hid (fun W => right_calls m.f m.t m.b W)
  obtain ⟨X, hX⟩ : ∃ X, w.heap.size = X := ⟨_, rfl⟩
  obtain ⟨W1, hW1⟩ : ∃ W1, w.alloc (.cells #[.int .i64 m.f, .int .i64 m.t, .string m.b] 29) = W1 := ⟨_, rfl⟩
  have HB := Lib.hid (show Below w.heap.size w W1 by rw [← hW1]; exact box_below _ _)
  have HK := Lib.hid (show Blk W1 X 29 #[.int .i64 m.f, .int .i64 m.t, .string m.b] by rw [← hW1, ← hX]; exact blk_new _ _ _)
  have H := Lib.hid h
  have c0 : W1.cell? ⟨X, 0, none⟩ = some (.int .i64 m.f) := (blk_cell HK.out 0).trans rfl
  have c1 : W1.cell? ⟨X, 1, none⟩ = some (.int .i64 m.t) := (blk_cell HK.out 1).trans rfl
  have c2 : W1.cell? ⟨X, 2, none⟩ = some (.string m.b) := (blk_cell HK.out 2).trans rfl
  have HW1 := Lib.hid hW1
  have HX := Lib.hid hX
  clear hX hW1 h
  by_cases hr : rightM m = true
  · have e1 : sendE L m = if 256 ≤ L.length then 3 else 0 := by unfold sendE; rw [if_pos hr]
    have e2 : sendL L m = if 256 ≤ L.length then L else L ++ [m] := by unfold sendL; rw [if_pos hr]
    rw [e1, e2]
    have HP := Lib.hid (fun W (hW : PoolT W B P v L) => put_calls B P v L m W hW hr)
    have HR2 := Lib.hid hr
    clear hr e1 e2
    generalize (if 256 ≤ L.length then (3 : Int) else 0) = E at HP ⊢
    generalize (if 256 ≤ L.length then L else L ++ [m]) = R at HP ⊢
    go_enter Try.func17, Try.ntmps17
    go_wp2_with fail
    rw [HW1.out, HX.out]
    refine (HR.out _).mono ?_
    rintro e W2 ⟨rfl, hb⟩
    rw [HR2.out]
    replace c0 := keptC c0 hb (blk_lt HK.out)
    replace c1 := keptC c1 hb (blk_lt HK.out)
    replace c2 := keptC c2 hb (blk_lt HK.out)
    have HB2 := Lib.hid (fb2 HB.out hb (Nat.le_refl _))
    clear hb
    go_wp2_with fail
    refine (HP.out _ (pool_on H.out HB2.out)).mono ?_
    intro e W3 h3
    have H4 := Lib.hid (put_first HB2.out h3)
    obtain ⟨rfl, _⟩ := h3
    clear c0 c1 c2
    go_wp2
    go_ret
    exact H4.out
  · have hf : rightM m = false := by simpa using hr
    have e1 : sendE L m = 2 := by unfold sendE; rw [if_neg hr]
    have e2 : sendL L m = L := by unfold sendL; rw [if_neg hr]
    rw [e1, e2]
    have HR2 := Lib.hid hf
    clear hr e1 e2 hf
    go_enter Try.func17, Try.ntmps17
    go_wp2_with fail
    rw [HW1.out, HX.out]
    refine (HR.out _).mono ?_
    rintro e W2 ⟨rfl, hb⟩
    rw [HR2.out]
    have HB2 := Lib.hid (fb2 HB.out hb (Nat.le_refl _))
    clear hb
    go_wp2
    go_ret
    exact ⟨rfl, _, pool_on H.out HB2.out, moved_of HB2.out⟩

set_option maxHeartbeats 400000 in
theorem send_nil (m : MsgL) (w : World) : Calls Try.prog 17 #[.pointer none, .agg #[.int .i64 m.f, .int .i64 m.t, .string m.b]] w fun e w' => e = .returned (.int .i64 7) ∧ Below w.heap.size w w' := by
  go_enter Try.func17, Try.ntmps17
  go_wp2
  go_ret
  exact ⟨rfl, box_below _ _⟩

end Go.Proofs.Ytheefhogphlkiaa
