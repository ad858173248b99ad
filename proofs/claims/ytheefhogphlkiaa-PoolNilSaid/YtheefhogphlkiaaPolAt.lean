/- The message at a place. -/
import Derived.Test.YtheefhogphlkiaaPolPut
namespace Go.Proofs.Ytheefhogphlkiaa
open Go.RowKit

theorem at_ret (tm : Array Value) (W : World) (D : Nat) (f t : Int) (b : ByteArray) (E : Int) (Q : Ending → World → Prop) (h4 : tm.getD 4 undef = .pointer (some ⟨D, 0, none⟩)) (h5 : tm.getD 5 undef = .int .i64 E) (hD : Blk W D 29 #[.int .i64 f, .int .i64 t, .string b])
    (hQ : Q (.returned (.tuple #[.agg #[.int .i64 f, .int .i64 t, .string b], .int .i64 E])) W) : bodyPost Try.prog Try.f29 Q Exit.ret { tmps := tm, defers := [] } W := by
  have q0 : W.cell? ⟨D, 0, none⟩ = some (.int .i64 f) := by rw [blk_cell hD]; rfl
  have q1 : W.cell? ⟨D, 1, none⟩ = some (.int .i64 t) := by rw [blk_cell hD]; rfl
  have q2 : W.cell? ⟨D, 2, none⟩ = some (.string b) := by rw [blk_cell hD]; rfl
  have e4 : tm[4]?.getD undef = .pointer (some ⟨D, 0, none⟩) := by rw [← Array.getD_eq_getD_getElem?]; exact h4
  have e5 : tm[5]?.getD undef = .int .i64 E := by rw [← Array.getD_eq_getD_getElem?]; exact h5
  refine bodyPost_ret (v := .tuple #[.agg #[.int .i64 f, .int .i64 t, .string b], .int .i64 E]) (by simp [results, Try.results29, e4, e5, q0, q1, q2, go_sem]) rfl hQ

set_option maxRecDepth 100000 in
set_option maxHeartbeats 1000000 in
theorem at_calls (B P : Nat) (v : Value) (L : List MsgL) (i : Int) (w : World) (h : PoolT w B P v L) :
    Calls Try.prog 29 #[.pointer (some ⟨P, 0, none⟩), .int .i64 i] w fun e w' => e = .returned (.tuple #[.agg #[.int .i64 (takeM L i).f, .int .i64 (takeM L i).t, .string (takeM L i).b], .int .i64 (takeE L i)]) ∧ Below w.heap.size w w' := by
  obtain ⟨D, hD⟩ : ∃ D, w.heap.size = D := ⟨_, rfl⟩
  obtain ⟨W1, hW1⟩ : ∃ W1, w.alloc (.cells #[.int .i64 0, .int .i64 0, .string ⟨#[]⟩] 29) = W1 := ⟨_, rfl⟩
  have HB := Lib.hid (show Below w.heap.size w W1 by rw [← hW1]; exact box_below _ _)
  have HK := Lib.hid (show Blk W1 D 29 #[.int .i64 0, .int .i64 0, .string ⟨#[]⟩] by rw [← hW1, ← hD]; exact blk_new _ _ _)
  have h1 := pool_on h HB.out
  have c0 := h1.cell
  have c9 := h.cell
  have hX := blk_lt h.blk
  obtain ⟨va, vc, rfl, hcap, hmax, hrow⟩ := own_open h1.own
  have HH := Lib.hid (fun a n c W => has_calls a n c i W)
  obtain ⟨N, hN⟩ : ∃ N, L.length = N := ⟨_, rfl⟩
  have HN := Lib.hid hN
  have HW1 := Lib.hid hW1
  have HD := Lib.hid hD
  unfold takeM takeE
  replace hrow := show 0 < N → ∃ g, va = some ⟨g, 0, none⟩ ∧ B ≤ g ∧ g < W1.heap.size ∧ ∀ j (h : j < L.length), Msg3 W1 g (j * 3) L[j] from fun h0 => hrow (by rw [hN]; exact h0)
  rw [hN] at c0 c9 ⊢
  clear hD hW1 hN h h1 hcap hmax
  by_cases hi : inB N i = true
  · rw [if_pos hi, if_pos hi]
    obtain ⟨j1, j2⟩ := in_lt hi
    obtain ⟨k, hk⟩ : ∃ k, i.toNat = k := ⟨_, rfl⟩
    rw [hk] at j1 j2 ⊢
    subst j2
    clear hk
    obtain ⟨g, rfl, hgB, hgl, hm⟩ := hrow (by omega)
    have hkL : k < L.length := by rw [HN.out]; exact j1
    rw [show L.getD k noMsg = L[k] by rw [List.getD_eq_getElem?_getD, List.getElem?_eq_getElem hkL]; rfl]
    have hc := hm k hkL
    generalize L[k] = m at hc ⊢
    obtain ⟨f, t, b⟩ := m
    obtain ⟨d0, d1, d2⟩ := hc
    dsimp only at d0 d1 d2 ⊢
    have HI := Lib.hid hi
    have g1 : (0 : Int) ≤ (k : Int) := by omega
    have g2 : (k : Int) < (N : Int) := by omega
    clear hm hrow hi hgB
    go_enter Try.func29, Try.ntmps29
    go_wp2_with fail
    rw [HW1.out, HD.out]
    refine (HH.out _ _ _ _).mono ?_
    rintro e w' ⟨rfl, hw⟩
    obtain rfl := hw.symm
    clear hw
    rw [HI.out]
    go_wp2_with (refine whole_abs 29 (.tmp 4) (.tmp 25) ⟨rfl, rfl⟩ D #[.int .i64 f, .int .i64 t, .string b] (by kernel_rfl) (by kernel_rfl) 29 #[.int .i64 0, .int .i64 0, .string ⟨#[]⟩] HK.out (by kernel_rfl) rfl (msg_one _ _ _) ?_; intro W2 hK2 hG2)
    exact at_ret _ _ D _ _ _ _ _ rfl rfl hK2.out ⟨rfl, HB.out.grown hG2.out HB.out.size (fun q hq => by injection hq with hq; have := HD.out; omega)⟩
  · have hf : inB N i = false := by simpa using hi
    rw [if_neg hi, if_neg hi]
    have HI := Lib.hid hf
    clear hrow hi hf
    go_enter Try.func29, Try.ntmps29
    go_wp2_with fail
    rw [HW1.out, HD.out]
    refine (HH.out _ _ _ _).mono ?_
    rintro e w' ⟨rfl, hw⟩
    obtain rfl := hw.symm
    clear hw
    rw [HI.out]
    go_wp2_with (refine whole_abs 29 (.tmp 4) (.tmp 18) ⟨rfl, rfl⟩ D #[.int .i64 0, .int .i64 0, .string ⟨#[]⟩] (by kernel_rfl) (by kernel_rfl) 29 #[.int .i64 0, .int .i64 0, .string ⟨#[]⟩] HK.out (by kernel_rfl) rfl (msg_one _ _ _) ?_; intro W2 hK2 hG2)
    exact at_ret _ _ D _ _ _ _ _ rfl rfl hK2.out ⟨rfl, HB.out.grown hG2.out HB.out.size (fun q hq => by injection hq with hq; have := HD.out; omega)⟩

set_option maxHeartbeats 1000000 in
theorem at_nil (i : Int) (w : World) :
    Calls Try.prog 29 #[.pointer none, .int .i64 i] w fun e w' => e = .returned (.tuple #[.agg #[.int .i64 0, .int .i64 0, .string ⟨#[]⟩], .int .i64 7]) ∧ Below w.heap.size w w' := by
  go_enter Try.func29, Try.ntmps29
  go_wp2
  refine bodyPost_ret (v := .tuple #[.agg #[.int .i64 0, .int .i64 0, .string ⟨#[]⟩], .int .i64 7]) (by simp [results, Try.results29, go_sem]) rfl ⟨rfl, ?_⟩
  exact box_below _ _

end Go.Proofs.Ytheefhogphlkiaa
