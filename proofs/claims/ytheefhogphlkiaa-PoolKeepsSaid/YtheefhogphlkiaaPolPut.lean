/- A message put behind all others, and sent. -/
import Derived.Test.YtheefhogphlkiaaPolLeaf
import Derived.Deep.RegionLaw
import Derived.Deep.AppendLies
namespace Go.Proofs.Ytheefhogphlkiaa
open Go.RowKit

theorem alloc_old (w : World) (o : Obj) {k : Nat} (hk : k < w.heap.size) : (w.alloc o).heap[k]? = w.heap[k]? := (box_below w o).block k hk
theorem grown_two {w w3 : World} {o1 o2 : Obj} {row : Option Nat} (h : (((w.alloc o1).alloc o2).drew).grownBy w3 row) : w.grownBy w3 row := by
  refine ⟨h.os, h.tape, h.output, ?_, fun k hk hr => ?_⟩
  · have := h.size
    have e : (((w.alloc o1).alloc o2).drew).heap.size = w.heap.size + 1 + 1 := by simp
    omega
  · rw [h.block k (by simp; omega) hr]
    exact (alloc_old _ _ (by simp; omega)).trans (alloc_old _ _ hk)
theorem pool_apart {w : World} {B P : Nat} {v : Value} {L : List MsgL} (h : PoolT w B P v L) : v.ownBlock ≠ some P := by
  intro e
  obtain ⟨cur, hc⟩ := own_blk h.own P e
  exact blk_kinds hc h.blk (by decide) rfl
theorem pool_blk {w w3 : World} {B P : Nat} {v : Value} {L : List MsgL} (h : PoolT w B P v L) (hg : w.grownBy w3 v.ownBlock) : Blk w3 P 55 #[v] := by
  unfold Blk
  rw [hg.block P (blk_lt h.blk) (fun e => pool_apart h e.symm)]
  exact h.blk
/- the row's new value is put into the pool -/
theorem pool_set {w w3 : World} {B P : Nat} {v v' : Value} {L L' : List MsgL} (h : PoolT w B P v L) (hg : w.grownBy w3 v.ownBlock) (hr : Own w3 B v' L') (hok : OkL L') (hat : v'.ownBlock = v.ownBlock ∨ ∀ g, v'.ownBlock = some g → w.heap.size ≤ g) :
    PoolT (w3.setCell ⟨P, 0, none⟩ v') B P v' L' ∧ Moved w (w3.setCell ⟨P, 0, none⟩ v') P v v' := by
  have hk := pool_blk h hg
  have hne : ∀ g, v'.ownBlock = some g → g ≠ P := fun g e => by
    obtain ⟨cur, hc⟩ := own_blk hr g e
    exact blk_kinds hc hk (by decide)
  refine ⟨⟨by simpa using blk_set hk 0 v', h.base, ?_, hok⟩, ⟨hg.os, hg.tape, hg.output, by simpa using hg.size, fun k hk1 h1 h2 => ?_, hat⟩⟩
  · refine ⟨hr.1, ?_⟩
    rcases hr.2 with h0 | ⟨g, cap, cur, hv, hg', hh, r⟩
    · exact .inl h0
    · exact .inr ⟨g, cap, cur, hv, hg', by rw [Below.heap_setCell _ _ _ _ (hne g (by rw [hv]; rfl))]; exact hh, r⟩
  · rw [Below.heap_setCell _ _ _ _ h1]
    exact hg.block k hk1 (fun e => h2 e.symm)

/- what a call on a pool leaves: its answer, and the row behind it -/
def PutT (B P : Nat) (v : Value) (E : Int) (L' : List MsgL) (w : World) (e : Ending) (w' : World) : Prop :=
  e = .returned (.int .i64 E) ∧ ∃ v', PoolT w' B P v' L' ∧ Moved w w' P v v'

set_option maxRecDepth 100000 in
set_option maxHeartbeats 1000000 in
theorem put_calls (B P : Nat) (v : Value) (L : List MsgL) (m : MsgL) (w : World) (h : PoolT w B P v L) (hm : rightM m = true) :
    Calls Try.prog 28 #[.pointer (some ⟨P, 0, none⟩), .agg #[.int .i64 m.f, .int .i64 m.t, .string m.b]] w (PutT B P v (if 256 ≤ L.length then 3 else 0) (if 256 ≤ L.length then L else L ++ [m]) w) := by
  have H := Lib.hid h
  have HM := Lib.hid hm
  have c0 := h.cell
  have hX := blk_lt h.blk
  have fr := fun i => blk_free h.blk i
  obtain ⟨va, vc, rfl⟩ := own_slice h.own
  obtain ⟨N, hN⟩ : ∃ N, L.length = N := ⟨_, rfl⟩
  have HN := Lib.hid hN
  rw [hN] at c0 ⊢
  have hown := h.own
  unfold Own at hown
  rw [hN] at hown
  have hsz : B ≤ w.heap.size := by have := h.base; omega
  clear h hm hN
  by_cases hf : 256 ≤ N
  · rw [if_pos hf, if_pos hf]
    have g1 : (256 : Int) ≤ (N : Int) := by omega
    go_enter Try.func28, Try.ntmps28
    go_wp2
    go_ret
    rw [← HN.out]
    exact ⟨rfl, _, pool_on H.out (box_below _ _), moved_of (box_below _ _)⟩
  · rw [if_neg hf, if_neg hf]
    have g1 : ¬ (256 : Int) ≤ (N : Int) := by omega
    obtain ⟨i0, hi, hz0, hz1, hz2⟩ := info_parts info_msg
    have HOK := Lib.hid (ok_more H.out.ok HM.out (by rw [HN.out]; exact hf))
    go_enter Try.func28, Try.ntmps28
    go_wp2
    go_region_law (refine step_append_lies _ (by rfl) (.tmp 15) (.tmp 17) 53 (by rfl) B 29 i0 (.agg #[.int .i64 0, .int .i64 0, .string ⟨#[]⟩]) 3 32 Try.underlying53 hi hz0 hz1 hz2 rfl (by decide) _ _ _ rfl ((hown.alloc _).alloc _) ⟨w.heap.size + 1, 0, none⟩ 1 1 m.cs rfl rfl (news_gen _ _ _ (by simp)) (by intro u hu; simp [MsgL.cs] at hu; rcases hu with rfl | rfl | rfl <;> rfl) (by decide) (by unfold maxLen; omega) (by omega) (by simp; omega) (w.heap.size + 1 + 1) (by simp) ?_; intro g cap w3 hown3 hgrow3 hat3 hlt3; have hg0 := grown_two hgrow3; rw [← HN.out] at hg0 hown3 hat3; have hb3 := pool_blk H.out hg0; have HF := Lib.hid (pool_set H.out hg0 (v' := .slice (some ⟨g, 0, none⟩) (L.length + 1) cap) (L' := L ++ [m]) (by unfold Own; rw [cellsM_append, cellsM_one, List.length_append]; exact hown3) HOK.out (hat3.imp (fun e => e.symm) (fun e q hq => by simp only [Value.ownBlock, Option.some.injEq] at hq; omega))); have q2 : w3.cell? ⟨P, 0, none⟩ = some (.slice va L.length vc) := (by exact blk_cell hb3 0); have q3 := blk_free hb3 0; clear hgrow3 hat3 hlt3 hown3 hg0 hb3; rw [HN.out] at q2)
    all_goals go_wp2
    all_goals go_ret
    all_goals rw [← HN.out]
    all_goals exact ⟨rfl, _, HF.out.1, HF.out.2⟩

end Go.Proofs.Ytheefhogphlkiaa
