/- A message taken out of a pool, and told; taken out; doubled. -/
import Derived.Test.YtheefhogphlkiaaPolAt
import Derived.Test.YtheefhogphlkiaaPolCut
import Derived.Test.YtheefhogphlkiaaPolSend
namespace Go.Proofs.Ytheefhogphlkiaa
open Go.RowKit

theorem blk_grown {W W' : World} {X : Nat} {T : TypeId} {a : Array Value} {row : Option Nat} (h : Blk W X T a) (hg : W.grownBy W' row) (hne : some X ≠ row) : Blk W' X T a := (hg.block X (blk_lt h) hne).trans h
theorem moved_grown {w W W' : World} {P D : Nat} {v v' : Value} (h : Moved w W P v v') (hg : W.grownBy W' (some D)) (hD : w.heap.size ≤ D) : Moved w W' P v v' :=
  ⟨hg.os.trans h.os, hg.tape.trans h.tape, hg.output.trans h.output, Nat.le_trans h.size hg.size,
    fun k hk h1 h2 => (hg.block k (Nat.lt_of_lt_of_le hk h.size) (fun e => by injection e with e; omega)).trans (h.block k hk h1 h2), h.own⟩
theorem pool_grown {W W' : World} {B P D : Nat} {v : Value} {L : List MsgL} (h : PoolT W B P v L) (hg : W.grownBy W' (some D)) (hP : P ≠ D) (hv : v.ownBlock ≠ some D) : PoolT W' B P v L :=
  ⟨blk_grown h.blk hg (fun e => by injection e with e; exact hP e), h.base, h.own.kept hg (by
    cases hq : v.ownBlock with
    | none => exact .inl rfl
    | some x => exact .inr (fun e => hv (by rw [hq]; exact e))), h.ok⟩
theorem take_ret (tm : Array Value) (W : World) (D : Nat) (f t : Int) (b : ByteArray) (E : Int) (Q : Ending → World → Prop) (h4 : tm.getD 4 undef = .pointer (some ⟨D, 0, none⟩)) (h5 : tm.getD 5 undef = .int .i64 E) (hD : Blk W D 29 #[.int .i64 f, .int .i64 t, .string b])
    (hQ : Q (.returned (.tuple #[.agg #[.int .i64 f, .int .i64 t, .string b], .int .i64 E])) W) : bodyPost Try.prog Try.f20 Q Exit.ret { tmps := tm, defers := [] } W := by
  have q0 : W.cell? ⟨D, 0, none⟩ = some (.int .i64 f) := by rw [blk_cell hD]; rfl
  have q1 : W.cell? ⟨D, 1, none⟩ = some (.int .i64 t) := by rw [blk_cell hD]; rfl
  have q2 : W.cell? ⟨D, 2, none⟩ = some (.string b) := by rw [blk_cell hD]; rfl
  have e4 : tm[4]?.getD undef = .pointer (some ⟨D, 0, none⟩) := by rw [← Array.getD_eq_getD_getElem?]; exact h4
  have e5 : tm[5]?.getD undef = .int .i64 E := by rw [← Array.getD_eq_getD_getElem?]; exact h5
  refine bodyPost_ret (v := .tuple #[.agg #[.int .i64 f, .int .i64 t, .string b], .int .i64 E]) (by simp [results, Try.results20, e4, e5, q0, q1, q2, go_sem]) rfl hQ

/- what Take leaves -/
def TakeT (B P : Nat) (v : Value) (m : MsgL) (E : Int) (L' : List MsgL) (w : World) (e : Ending) (w' : World) : Prop :=
  e = .returned (.tuple #[.agg #[.int .i64 m.f, .int .i64 m.t, .string m.b], .int .i64 E]) ∧ ∃ v', PoolT w' B P v' L' ∧ Moved w w' P v v'

set_option maxRecDepth 100000 in
set_option maxHeartbeats 1000000 in
theorem take_calls (B P : Nat) (v : Value) (L : List MsgL) (i : Int) (w : World) (h : PoolT w B P v L) :
    Calls Try.prog 20 #[.pointer (some ⟨P, 0, none⟩), .int .i64 i] w (TakeT B P v (takeM L i) (takeE L i) (takeL L i) w) := by
  obtain ⟨D, hD⟩ : ∃ D, w.heap.size = D := ⟨_, rfl⟩
  obtain ⟨W1, hW1⟩ : ∃ W1, w.alloc (.cells #[.int .i64 0, .int .i64 0, .string ⟨#[]⟩] 29) = W1 := ⟨_, rfl⟩
  have HB := Lib.hid (show Below w.heap.size w W1 by rw [← hW1]; exact box_below _ _)
  have HK := Lib.hid (show Blk W1 D 29 #[.int .i64 0, .int .i64 0, .string ⟨#[]⟩] by rw [← hW1, ← hD]; exact blk_new _ _ _)
  have HAT := Lib.hid (fun W hW => at_calls B P v L i W hW)
  have H := Lib.hid h
  have HP := Lib.hid (blk_lt h.blk)
  have HVL := Lib.hid (show ∀ k, v.ownBlock = some k → k < w.heap.size from fun k hk => (own_lt h.own k hk).2)
  have HW1 := Lib.hid hW1
  have HD := Lib.hid hD
  clear hD hW1 h
  by_cases hi : inB L.length i = true
  · have e1 : takeE L i = 0 := by unfold takeE; rw [if_pos hi]
    have e2 : takeL L i = L.take i.toNat ++ L.drop (i.toNat + 1) := by unfold takeL; rw [if_pos hi]
    rw [e1] at HAT
    rw [e1, e2]
    obtain ⟨j1, j2⟩ := in_lt hi
    have HC := Lib.hid (fun W (hW : PoolT W B P v L) => cut_calls L i.toNat B v W j1 (by have := hW.ok.2; omega) hW.own)
    obtain ⟨k, hk⟩ : ∃ k, i.toNat = k := ⟨_, rfl⟩
    rw [hk] at j2 HC ⊢
    subst j2
    have HOK := Lib.hid (ok_cut H.out.ok k)
    generalize takeM L (k : Int) = m at HAT ⊢
    clear hi hk e1 e2 j1
    go_enter Try.func20, Try.ntmps20
    go_wp2_with fail
    rw [HW1.out, HD.out]
    refine (HAT.out _ (pool_on H.out HB.out)).mono ?_
    rintro e W2 ⟨rfl, hb⟩
    have HB2 := Lib.hid (fb2 HB.out hb (Nat.le_refl _))
    have HK2 := Lib.hid (blk_on HK.out hb (blk_lt HK.out))
    have HP2 := Lib.hid (pool_on H.out HB2.out)
    have c9 := HP2.out.cell
    have hX := blk_lt HP2.out.blk
    clear hb
    obtain ⟨X, hXe⟩ : ∃ X, W2.heap.size = X := ⟨_, rfl⟩
    obtain ⟨W3, hW3⟩ : ∃ W3, W2.alloc (.cells #[.int .i64 m.f, .int .i64 m.t, .string m.b] 29) = W3 := ⟨_, rfl⟩
    have HB3 := Lib.hid (show Below w.heap.size w W3 by rw [← hW3]; exact HB2.out.alloc HB2.out.size _)
    have HK3 := Lib.hid (show Blk W3 D 29 #[.int .i64 0, .int .i64 0, .string ⟨#[]⟩] by rw [← hW3]; exact blk_on HK2.out (box_below _ _) (blk_lt HK2.out))
    have HX3 := Lib.hid (show Blk W3 X 29 #[.int .i64 m.f, .int .i64 m.t, .string m.b] by rw [← hW3, ← hXe]; exact blk_new _ _ _)
    have HP3 := Lib.hid (pool_on H.out HB3.out)
    have HXD := Lib.hid (show w.heap.size ≤ X by rw [← hXe]; exact HB2.out.size)
    have HW3 := Lib.hid hW3
    have HXE := Lib.hid hXe
    clear hW3 hXe
    go_wp2_with fail
    rw [HW3.out, HXE.out]
    clear c9 hX
    refine (HC.out _ HP3.out).mono ?_
    rintro e W4 ⟨v', rfl, hown, hg, hob⟩
    have HF := Lib.hid (pool_set HP3.out hg hown HOK.out (.inl hob))
    have HK4 := Lib.hid (blk_grown HK3.out hg (fun e => by have := HVL.out D e.symm; have := HD.out; omega))
    have HX4 := Lib.hid (blk_grown HX3.out hg (fun e => by have := HVL.out X e.symm; have := HXD.out; omega))
    have hPX := Lib.hid (show P ≠ X ∧ P ≠ D ∧ v'.ownBlock ≠ some D by
      have h1 := HP.out; have h2 := HXD.out; have h3 := HD.out
      refine ⟨by omega, by omega, fun e => ?_⟩
      rw [hob] at e
      have := HVL.out D e; omega)
    have q2 : W4.cell? ⟨P, 0, none⟩ = some v := blk_cell (pool_blk HP3.out hg) 0
    have q3 := blk_free (pool_blk HP3.out hg) 0
    have x0 : W4.cell? ⟨X, 0, none⟩ = some (.int .i64 m.f) := (blk_cell HX4.out 0).trans rfl
    have x1 : W4.cell? ⟨X, 1, none⟩ = some (.int .i64 m.t) := (blk_cell HX4.out 1).trans rfl
    have x2 : W4.cell? ⟨X, 2, none⟩ = some (.string m.b) := (blk_cell HX4.out 2).trans rfl
    have n1 : ¬ X = P := fun e => hPX.out.1 e.symm
    have n2 : ¬ P = X := hPX.out.1
    have HD5 := Lib.hid (show Blk (W4.setCell ⟨P, 0, none⟩ v') D 29 #[.int .i64 0, .int .i64 0, .string ⟨#[]⟩] by
      unfold Blk
      rw [Below.heap_setCell _ _ _ _ (fun e => hPX.out.2.1 e.symm)]; exact HK4.out)
    have HB4 := HB3.out.size
    have HDl := Lib.hid (show w.heap.size ≤ D by have := HD.out; omega)
    have HM := Lib.hid (moved_first HB3.out HF.out.2)
    clear hown hg hob HB4
    obtain ⟨va, vc, hv'⟩ := own_slice HF.out.1.own
    obtain ⟨q, hq⟩ : ∃ q, (List.take k L ++ List.drop (k + 1) L).length = q := ⟨_, rfl⟩
    rw [hq] at hv'
    subst hv'
    clear hq
    go_wp2_with (refine whole_abs 29 (.tmp 4) (.tmp 25) ⟨rfl, rfl⟩ D #[.int .i64 m.f, .int .i64 m.t, .string m.b] (by kernel_rfl) (by kernel_rfl) 29 #[.int .i64 0, .int .i64 0, .string ⟨#[]⟩] HD5.out (by kernel_rfl) rfl (msg_one _ _ _) ?_; intro W6 hK6 hG6)
    exact take_ret _ _ D _ _ _ _ _ rfl rfl hK6.out ⟨rfl, _, pool_grown HF.out.1 hG6.out hPX.out.2.1 hPX.out.2.2, moved_grown HM.out hG6.out HDl.out⟩
  · have e1 : takeE L i = 4 := by unfold takeE; rw [if_neg hi]
    have e2 : takeL L i = L := by unfold takeL; rw [if_neg hi]
    rw [e1] at HAT
    rw [e1, e2]
    generalize takeM L i = m at HAT ⊢
    clear hi e1 e2
    go_enter Try.func20, Try.ntmps20
    go_wp2_with fail
    rw [HW1.out, HD.out]
    refine (HAT.out _ (pool_on H.out HB.out)).mono ?_
    rintro e W2 ⟨rfl, hb⟩
    have HB2 := Lib.hid (fb2 HB.out hb (Nat.le_refl _))
    have HK2 := Lib.hid (blk_on HK.out hb (blk_lt HK.out))
    clear hb
    have HK3 := Lib.hid (blk_on HK2.out (box_below W2 (.cells #[.int .i64 m.f, .int .i64 m.t, .string m.b] 29)) (blk_lt HK2.out))
    have HB3 := Lib.hid (HB2.out.alloc HB2.out.size (.cells #[.int .i64 m.f, .int .i64 m.t, .string m.b] 29))
    have HDl := Lib.hid (show w.heap.size ≤ D by have := HD.out; omega)
    have hPX := Lib.hid (show P ≠ D ∧ v.ownBlock ≠ some D by
      have h1 := HP.out; have h3 := HD.out
      exact ⟨by omega, fun e => by have := HVL.out D e; omega⟩)
    go_wp2_with (refine whole_abs 29 (.tmp 4) (.tmp 25) ⟨rfl, rfl⟩ D #[.int .i64 m.f, .int .i64 m.t, .string m.b] (by kernel_rfl) (by kernel_rfl) 29 #[.int .i64 0, .int .i64 0, .string ⟨#[]⟩] HK3.out (by kernel_rfl) rfl (msg_one _ _ _) ?_; intro W6 hK6 hG6)
    exact take_ret _ _ D _ _ _ _ _ rfl rfl hK6.out ⟨rfl, _, pool_grown (pool_on H.out HB3.out) hG6.out hPX.out.1 hPX.out.2, moved_grown (moved_of HB3.out) hG6.out HDl.out⟩

set_option maxHeartbeats 1000000 in
theorem take_nil (i : Int) (w : World) :
    Calls Try.prog 20 #[.pointer none, .int .i64 i] w fun e w' => e = .returned (.tuple #[.agg #[.int .i64 0, .int .i64 0, .string ⟨#[]⟩], .int .i64 7]) ∧ Below w.heap.size w w' := by
  obtain ⟨D, hD⟩ : ∃ D, w.heap.size = D := ⟨_, rfl⟩
  obtain ⟨W1, hW1⟩ : ∃ W1, w.alloc (.cells #[.int .i64 0, .int .i64 0, .string ⟨#[]⟩] 29) = W1 := ⟨_, rfl⟩
  have HB := Lib.hid (show Below w.heap.size w W1 by rw [← hW1]; exact box_below _ _)
  have HK := Lib.hid (show Blk W1 D 29 #[.int .i64 0, .int .i64 0, .string ⟨#[]⟩] by rw [← hW1, ← hD]; exact blk_new _ _ _)
  have HW1 := Lib.hid hW1
  have HD := Lib.hid hD
  clear hD hW1
  go_enter Try.func20, Try.ntmps20
  go_wp2_with fail
  rw [HW1.out, HD.out]
  refine (at_nil i _).mono ?_
  rintro e W2 ⟨rfl, hb⟩
  have HB2 := Lib.hid (fb2 HB.out hb (Nat.le_refl _))
  have HK2 := Lib.hid (blk_on HK.out hb (blk_lt HK.out))
  clear hb
  have HK3 := Lib.hid (blk_on HK2.out (box_below W2 (.cells #[.int .i64 0, .int .i64 0, .string ⟨#[]⟩] 29)) (blk_lt HK2.out))
  have HB3 := Lib.hid (HB2.out.alloc HB2.out.size (.cells #[.int .i64 0, .int .i64 0, .string ⟨#[]⟩] 29))
  go_wp2_with (refine whole_abs 29 (.tmp 4) (.tmp 25) ⟨rfl, rfl⟩ D #[.int .i64 0, .int .i64 0, .string ⟨#[]⟩] (by kernel_rfl) (by kernel_rfl) 29 #[.int .i64 0, .int .i64 0, .string ⟨#[]⟩] HK3.out (by kernel_rfl) rfl (msg_one _ _ _) ?_; intro W6 hK6 hG6)
  exact take_ret _ _ D _ _ _ _ _ rfl rfl hK6.out ⟨rfl, HB3.out.grown hG6.out HB3.out.size (fun q hq => by injection hq with hq; have := HD.out; omega)⟩

end Go.Proofs.Ytheefhogphlkiaa
