/- The document's Send: a message behind all others, in new memory. -/
import Derived.Test.YtheefhogphlkiaaPolApp
import Derived.Test.YtheefhogphlkiaaPolTake
namespace Go.Proofs.Ytheefhogphlkiaa
open Go.RowKit

/- what the document's calls leave: a row that reads so, the old one or a new one -/
def NewRow (B : Nat) (x : Value) (L' : List MsgL) (w : World) (x' : Value) (w' : World) : Prop := Own w' B x' L' ∧ (x'.ownBlock = x.ownBlock ∨ ∀ g, x'.ownBlock = some g → w.heap.size ≤ g) ∧ Below w.heap.size w w'
theorem newRow_first {B : Nat} {x x' : Value} {L' : List MsgL} {w w1 w' : World} (hb : Below w.heap.size w w1) (h : NewRow B x L' w1 x' w') : NewRow B x L' w x' w' :=
  ⟨h.1, h.2.1.imp id fun h2 g hg => Nat.le_trans hb.size (h2 g hg), fb2 hb h.2.2 (Nat.le_refl _)⟩
def RSendT (B : Nat) (x : Value) (E : Int) (L' : List MsgL) (w : World) (e : Ending) (w' : World) : Prop := ∃ x', e = .returned (.tuple #[x', .int .i64 E]) ∧ NewRow B x L' w x' w'

set_option maxRecDepth 100000 in
set_option maxHeartbeats 2000000 in
theorem rSend_calls (B : Nat) (x : Value) (L : List MsgL) (m : MsgL) (w : World) (h : Own w B x L) (hB : B ≤ w.heap.size) (hL : L.length ≤ 256) :
    Calls Try.prog 23 #[x, .agg #[.int .i64 m.f, .int .i64 m.t, .string m.b]] w (RSendT B x (sendE L m) (sendL L m) w) := by
  have HR := Lib.hid (fun W => rRight_calls m.f m.t m.b W)
  obtain ⟨X, hX⟩ : ∃ X, w.heap.size = X := ⟨_, rfl⟩
  obtain ⟨W1, hW1⟩ : ∃ W1, w.alloc (.cells #[.int .i64 m.f, .int .i64 m.t, .string m.b] 29) = W1 := ⟨_, rfl⟩
  have HB := Lib.hid (show Below w.heap.size w W1 by rw [← hW1]; exact box_below _ _)
  have HK := Lib.hid (show Blk W1 X 29 #[.int .i64 m.f, .int .i64 m.t, .string m.b] by rw [← hW1, ← hX]; exact blk_new _ _ _)
  have H := Lib.hid h
  have HBW := Lib.hid hB
  have c0 : W1.cell? ⟨X, 0, none⟩ = some (.int .i64 m.f) := (blk_cell HK.out 0).trans rfl
  have c1 : W1.cell? ⟨X, 1, none⟩ = some (.int .i64 m.t) := (blk_cell HK.out 1).trans rfl
  have c2 : W1.cell? ⟨X, 2, none⟩ = some (.string m.b) := (blk_cell HK.out 2).trans rfl
  have HW1 := Lib.hid hW1
  have HX := Lib.hid hX
  obtain ⟨va, vc, rfl⟩ := own_slice h
  obtain ⟨N, hN⟩ : ∃ N, L.length = N := ⟨_, rfl⟩
  have HN := Lib.hid hN
  clear hX hW1 h hB
  rw [hN] at hL ⊢
  by_cases hr : rightM m = true
  · have HR2 := Lib.hid hr
    by_cases hf : 256 ≤ N
    · have e1 : sendE L m = 3 := by unfold sendE; rw [if_pos hr, hN, if_pos hf]
      have e2 : sendL L m = L := by unfold sendL; rw [if_pos hr, hN, if_pos hf]
      rw [e1, e2]
      have g1 : (256 : Int) ≤ (N : Int) := by omega
      clear hr e1 e2 hN
      go_enter Try.func23, Try.ntmps23
      go_wp2_with fail
      rw [HW1.out, HX.out]
      refine (HR.out _).mono ?_
      rintro e W2 ⟨rfl, hb⟩
      rw [HR2.out]
      have HB2 := Lib.hid (fb2 HB.out hb (Nat.le_refl _))
      clear hb c0 c1 c2
      go_wp2
      go_ret2
      rw [← HN.out]
      exact ⟨_, rfl, own_on H.out HB2.out, .inl rfl, HB2.out⟩
    · have e1 : sendE L m = 0 := by unfold sendE; rw [if_pos hr, hN, if_neg hf]
      have e2 : sendL L m = L ++ [m] := by unfold sendL; rw [if_pos hr, hN, if_neg hf]
      rw [e1, e2]
      have g1 : ¬ (256 : Int) ≤ (N : Int) := by omega
      clear hr e1 e2 hN
      go_enter Try.func23, Try.ntmps23
      go_wp2_with fail
      rw [HW1.out, HX.out]
      refine (HR.out _).mono ?_
      rintro e W2 ⟨rfl, hb⟩
      rw [HR2.out]
      have HK2 := Lib.hid (blk_on HK.out hb (blk_lt HK.out))
      have HB2 := Lib.hid (fb2 HB.out hb (Nat.le_refl _))
      clear hb c0 c1 c2
      have HO2 := Lib.hid (src_on H.out (HB2.out.alloc HB2.out.size (.cells #[] 29)))
      have HE2 := Lib.hid (own_base (own_empty W2) HB2.out.size)
      have HL2 := Lib.hid (show w.heap.size ≤ W2.heap.size from HB2.out.size)
      rw [HN.out] at HO2
      go_wp2_with (first | (at_builtin; refine msg_append (.tmp 15) (.tmp 16) ⟨rfl, rfl⟩ w.heap.size _ [] rfl HE2.out _ L rfl HO2.out (by have := HN.out; simp; omega) (by have := HL2.out; simp; omega) ?_; intro v3 w3 hO3 hG3; rw [List.nil_append] at hO3; have HB3 := Lib.hid ((HB2.out.alloc HL2.out (.cells #[] 29)).grown hG3.out (by have := HL2.out; simp; omega) (fun k hk => (own_lt HE2.out k hk).1)); have HX3 := Lib.hid (blk_grown (blk_on HK2.out (box_below W2 (.cells #[] 29)) (blk_lt HK2.out)) hG3.out (fun e => by have e2 : X = W2.heap.size := Option.some.inj e; have := blk_lt HK2.out; omega)); have x0 : w3.cell? ⟨X, 0, none⟩ = some (.int .i64 m.f) := (blk_cell HX3.out 0).trans rfl; have x1 : w3.cell? ⟨X, 1, none⟩ = some (.int .i64 m.t) := (blk_cell HX3.out 1).trans rfl; have x2 : w3.cell? ⟨X, 2, none⟩ = some (.string m.b) := (blk_cell HX3.out 2).trans rfl) | (at_builtin; go_must (refine msg_append (.tmp 18) (.tmp 20) ⟨rfl, rfl⟩ w.heap.size _ L rfl (own_on hO3.out (box_below _ _)) _ [m] rfl (src_one _ m rfl) (by have := HN.out; simp; omega) (by have := HB3.out.size; simp; omega) ?_); intro v4 w4 hO4 hG4; have HB4 := Lib.hid ((HB3.out.alloc HB3.out.size (.cells #[.int .i64 m.f, .int .i64 m.t, .string m.b] 29)).grown hG4.out (by have := HB3.out.size; simp; omega) (fun k hk => (own_lt hO3.out k hk).1))))
      go_ret2
      exact ⟨_, rfl, own_base hO4.out HBW.out, .inr fun g hg => (own_lt hO4.out g hg).1, HB4.out⟩
  · have hf : rightM m = false := by simpa using hr
    have e1 : sendE L m = 2 := by unfold sendE; rw [if_neg hr]
    have e2 : sendL L m = L := by unfold sendL; rw [if_neg hr]
    rw [e1, e2]
    have HR2 := Lib.hid hf
    clear hr e1 e2 hf hN
    go_enter Try.func23, Try.ntmps23
    go_wp2_with fail
    rw [HW1.out, HX.out]
    refine (HR.out _).mono ?_
    rintro e W2 ⟨rfl, hb⟩
    rw [HR2.out]
    have HB2 := Lib.hid (fb2 HB.out hb (Nat.le_refl _))
    clear hb c0 c1 c2
    go_wp2
    go_ret2
    rw [← HN.out]
    exact ⟨_, rfl, own_on H.out HB2.out, .inl rfl, HB2.out⟩

end Go.Proofs.Ytheefhogphlkiaa
