/- A part that is added to the reader's; the next word; a variable that is read. -/
import Derived.Test.YtgkpdcjkobieiaaDoorFormRd
import Derived.Deep.RegionLaw
import Derived.Deep.AppendLies
namespace Go.Proofs.YtgkpdcjkobieiaaDoor
open Go.RowKit

/- a part's cells in a block that has just been made -/
theorem news7p (W : World) (T : TypeId) (p : PartL) {X : Nat} (hX : X = W.heap.size) : ∀ n u, p.cells[n]? = some u → (W.alloc (.cells p.cells.toArray T)).cell? ((⟨X, 0, none⟩ : Addr).add n) = some u :=
  news7 W T _ _ _ _ _ _ _ hX
theorem rd_added {A X : Nat} {v pv pv' : Value} {L : List TokL} {a : Nat} {P : List PartL} {p : PartL} {w w3 : World} (h : Rd A X v L a P pv w) (ha : P.length < a) (hr : w3.ownsRow A 41 7 pv' (P.length + 1) (partCells P ++ p.cells)) (hg : w.grownBy w3 pv.ownBlock)
    (hne : ∀ g, pv'.ownBlock = some g → g ≠ X) : Rd A X v L a (P ++ [p]) pv' (w3.setCell ⟨X, 2, none⟩ pv') ∧ Below A w (w3.setCell ⟨X, 2, none⟩ pv') := by
  have hX := blk_lt h.blk
  have hlow : ∀ q, pv.ownBlock = some q → A ≤ q := fun q hq => by
    rcases h.row.2 with ⟨rfl, _⟩ | ⟨g', cap, cur, rfl, hA, hh, _⟩
    · simp [Value.ownBlock] at hq
    · simp only [Value.ownBlock, Option.some.injEq] at hq; omega
  have hb : Below A w w3 := (Below.refl A w).grown hg h.size hlow
  have hblk : Blk w3 X 48 #[v, .int .i64 a, pv] := by
    unfold Blk
    rw [hg.block X hX (fun e => h.apart X e.symm rfl)]
    exact h.blk
  have hb2 : Below A w (w3.setCell ⟨X, 2, none⟩ pv') := hb.setCell h.low _
  refine ⟨⟨by simpa using blk_set hblk 2 pv', ?_, h.low, h.toks.on hb2, h.good.on hb2, ⟨by rw [List.length_append]; exact ha, h.most.2⟩⟩, hb2⟩
  rw [partCells_append, partCells_one, List.length_append]
  refine ⟨hr.1, ?_⟩
  rcases hr.2 with h0 | ⟨g, cap, cur, hv, hg', hh, r⟩
  · exact .inl h0
  · refine .inr ⟨g, cap, cur, hv, hg', ?_, r⟩
    rw [heap_setCell_other w3 ⟨X, 2, none⟩ g _ (fun e => hne g (by rw [hv]; rfl) (by simpa using e))]
    exact hh

theorem alloc_old (w : World) (o : Obj) {k : Nat} (hk : k < w.heap.size) : (w.alloc o).heap[k]? = w.heap[k]? := by
  have := (box_below w o).block k hk
  exact this
theorem grown_two {w w3 : World} {o1 o2 : Obj} {row : Option Nat} (h : (((w.alloc o1).alloc o2).drew).grownBy w3 row) : w.grownBy w3 row := by
  refine ⟨h.os, h.tape, h.output, ?_, fun k hk hr => ?_⟩
  · have := h.size
    have e : (((w.alloc o1).alloc o2).drew).heap.size = w.heap.size + 1 + 1 := by simp
    omega
  · rw [h.block k (by simp; omega) hr]
    exact (alloc_old _ _ (by simp; omega)).trans (alloc_old _ _ hk)
theorem step_added {X N cap i g : Nat} {pv u : Value} {w w3 : World} (hg : w.grownBy w3 pv.ownBlock) (hat : pv.ownBlock = some g ∨ w.heap.size ≤ g) : Step X pv (.slice (some ⟨g, 0, none⟩) N cap) w (w3.setCell ⟨X, i, none⟩ u) := by
  refine ⟨fun k hk hX hp => ?_, ?_, by have := hg.size; simpa using this⟩
  · rw [heap_setCell_other w3 ⟨X, i, none⟩ k u (fun e => hX (by simpa using e))]
    exact hg.block k hk (fun e => hp e.symm)
  · rcases hat with e | e
    · exact .inl e.symm
    · exact .inr fun q hq => by simp only [Value.ownBlock, Option.some.injEq] at hq; omega
theorem rd_blk3 {A X : Nat} {v pv : Value} {L : List TokL} {a : Nat} {P : List PartL} {w w3 : World} (h : Rd A X v L a P pv w) (hg : w.grownBy w3 pv.ownBlock) : Blk w3 X 48 #[v, .int .i64 a, pv] := by
  unfold Blk
  rw [hg.block X (blk_lt h.blk) (fun e => h.apart X e.symm rfl)]
  exact h.blk
theorem row_apart {A X n : Nat} {pv : Value} {xs : List Value} {cs : Array Value} {w : World} (hr : w.ownsRow A 41 7 pv n xs) (hb : Blk w X 48 cs) : ∀ g, pv.ownBlock = some g → g ≠ X := by
  rintro g hg rfl
  rcases hr.2 with ⟨rfl, _⟩ | ⟨g', cap, cur, rfl, _, hh, _⟩
  · simp [Value.ownBlock] at hg
  · simp only [Value.ownBlock, Option.some.injEq] at hg
    subst hg
    unfold Blk at hb
    rw [hh] at hb
    simp only [Option.some.injEq, Obj.cells.injEq] at hb
    exact absurd hb.2.1 (by decide)

set_option maxRecDepth 100000 in
set_option maxHeartbeats 1000000 in
theorem add_calls (A X : Nat) (v pv : Value) (L : List TokL) (a : Nat) (P : List PartL) (p : PartL) (w : World) (h : Rd A X v L a P pv w) (hL : L.length ≤ 1000) (ha : P.length < a) :
    Calls Tryd.prog 45 #[.pointer (some ⟨X, 0, none⟩), p.v] w fun e w' => e = .returned (.tuple #[]) ∧ RdT A X v L pv (a, P ++ [p]) w w' := by
  have H := Lib.hid h
  obtain ⟨c0, c1, c2⟩ := h.cells
  have hX := blk_lt h.blk
  have fr := fun i => blk_free h.blk i
  obtain ⟨hPa, haL⟩ := h.most
  have hsz := h.size
  obtain ⟨i0, hi, hz0, hz1, hz2⟩ := info_parts info_part
  have hrow := h.row
  obtain ⟨v5, c5, rfl⟩ := row_slice hrow
  have HA := Lib.hid ha
  clear h
  obtain ⟨N, hN⟩ : ∃ N, P.length = N := ⟨_, rfl⟩
  have HN := Lib.hid hN
  rw [hN] at hrow c2 ha hPa
  clear hN
  have hN1 : N ≤ 1000 := by omega
  simp only [PartL.v]
  go_enter Tryd.func45, Tryd.ntmps45
  go_wp2
  go_region_law (refine step_append_lies _ (by rfl) (.tmp 8) (.tmp 10) 22 (by rfl) A 41 i0 noPart.v 7 88 Tryd.underlying22 hi hz0 hz1 hz2 rfl (by decide) _ _ _ rfl ((hrow.alloc _).alloc _) ⟨w.heap.size + 1, 0, none⟩ 1 1 p.cells rfl rfl (news7 _ _ _ _ _ _ _ _ _ (by simp)) (by intro u hu; simp [PartL.cells] at hu; rcases hu with rfl | rfl | rfl | rfl | rfl | rfl | rfl <;> rfl) (by decide) (by unfold maxLen; omega) (by omega) (by simp; omega) (w.heap.size + 1 + 1) (by simp) ?_; intro g cap w3 hown3 hgrow3 hat3 hlt3; rw [← HN.out] at hown3 hgrow3 hat3; have hg0 := grown_two hgrow3; have hb3 := rd_blk3 H.out hg0; have HF := Lib.hid (rd_added H.out HA.out hown3 hg0 (row_apart hown3 hb3)); have HS := Lib.hid (step_added (X := X) (N := P.length + 1) (cap := cap) (i := 2) (u := .slice (some ⟨g, 0, none⟩) (P.length + 1) cap) hg0 (hat3.imp id (fun e => (by omega : w.heap.size ≤ g)))); have q2 : w3.cell? ⟨X, 2, none⟩ = some (.slice v5 P.length c5) := (by exact blk_cell hb3 2); have q3 := blk_free hb3 2; clear hgrow3 hat3 hlt3 hown3 hg0 hb3; rw [HN.out] at q2)
  all_goals go_wp2
  all_goals refine bodyPost_end (v := .tuple #[]) (by simp [results, Tryd.results45, go_sem]) rfl ?_
  all_goals exact ⟨rfl, _, by rw [← HN.out]; exact HF.out.1, by rw [← HN.out]; exact HF.out.2, by rw [← HN.out]; exact HS.out⟩

end Go.Proofs.YtgkpdcjkobieiaaDoor
