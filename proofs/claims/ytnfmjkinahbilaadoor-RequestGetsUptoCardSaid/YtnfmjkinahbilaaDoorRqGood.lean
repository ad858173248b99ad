/- The world of layer 16: the table of powers and the two errors of strconv are there; strconv's Itoa and Atoi at every input. -/
import Derived.Test.YtnfmjkinahbilaaDoorRqPlain
import Derived.Test.YtnfmjkinahbilaaDoorPctKit
import Derived.Test.YtnfmjkinahbilaaDoorShelf
import Derived.Lib.SmallJoins
import Derived.Lib.LaidTab
namespace Go.Proofs.YtnfmjkinahbilaaDoor
open Go.RowKit

structure Good (w : World) : Prop where
  dec : Lib.TabIs Tryd.prog w "internal/strconv.uint64pow10" .u64 Lib.pow10Tab
  decLt : 3 < w.heap.size
  err : ∃ e1 e2, w.cell? ⟨1, 0, none⟩ = some e1 ∧ (e1 = .nilIface ∨ ∃ te pe, e1 = .iface te pe) ∧ w.cell? ⟨2, 0, none⟩ = some e2 ∧ (e2 = .nilIface ∨ ∃ te pe, e2 = .iface te pe)
theorem gDec : Tryd.prog.globalNamed "internal/strconv.uint64pow10" = some 3 := by kernel_rfl
theorem Good.on {w w' : World} (h : Good w) (hb : Below w.heap.size w w') : Good w' := by
  refine ⟨?_, Nat.lt_of_lt_of_le h.decLt hb.size, ?_⟩
  · have h1 := h.dec
    unfold Lib.TabIs World.var? at *
    rw [gDec] at h1 ⊢
    simp only [Option.bind_some] at h1 ⊢
    rw [hb.block _ h.decLt]; exact h1
  · obtain ⟨e1, e2, h1, h2, h3, h4⟩ := h.err
    exact ⟨e1, e2, keptC h1 hb (cell_lt h1), h2, keptC h3 hb (cell_lt h3), h4⟩
theorem grow_below (w : World) (k : Nat) (os : Array Obj) : Below w.heap.size w (Sort.grow (w.drewN k) os) :=
  ⟨rfl, rfl, rfl, by show w.heap.size ≤ (w.heap ++ os).size; simp, fun i hi => by show (w.heap ++ os)[i]? = w.heap[i]?; exact Array.getElem?_append_left hi⟩
theorem itoa_calls (i : Int) (h0 : -9223372036854775808 ≤ i) (h1 : i ≤ 9223372036854775807) (S : ByteArray) (hS : bs (Lib.itoa i) = S) (w : World) (hg : Good w) :
    Calls Tryd.prog 20 #[.int .i64 i] w fun e w' => e = .returned (.string S) ∧ Below w.heap.size w w' := by
  subst hS
  exact (Tryd.strconv_Itoa i h0 h1 w hg.dec).mono fun e w' ⟨he, k, os, hw⟩ => ⟨by rw [he]; rfl, by rw [hw]; exact grow_below w k os⟩
theorem atoi_calls (x : List UInt8) (hx : x.length ≤ 140737488355327) (n : Int) (hn : numOf x = n) (w : World) (hg : Good w) : Calls Tryd.prog 27 #[.string (bs x)] w fun e w' => ∃ ev, e = .returned (.tuple #[.int .i64 n, ev]) ∧ Below w.heap.size w w' := by
  subst hn
  obtain ⟨e1, e2, h1, h2, h3, h4⟩ := hg.err
  have hs : (bs x).size ≤ 281474976710656 := by rw [bs_size]; omega
  rcases hz : Lib.atoiAll x with v | _ | _
  · refine (Tryd.strconv_Atoi_ok (bs x) (Nat.le_trans hs (by decide)) v hz w).mono ?_
    rintro e w' ⟨rfl, rfl | ⟨t, rfl⟩⟩
    · exact ⟨_, by unfold numOf; rw [hz], Below.refl _ _⟩
    · exact ⟨_, by unfold numOf; rw [hz], Go.Joins.below_bytesWorld _ _ _ _ (Nat.le_refl _)⟩
  · refine (Any.strconv_Atoi_syntax Tryd.laysC172 (bs x) hs hz e1 w h1 h2).mono ?_
    rintro e w' ⟨N, rfl, _, _, hb⟩
    exact ⟨_, by unfold numOf; rw [hz], hb⟩
  · refine (Tryd.strconv_Atoi_range (bs x) hs hz e2 w h3 h4).mono ?_
    rintro e w' ⟨N, rfl, _, _, hb⟩
    exact ⟨_, by unfold numOf; rw [hz]; rfl, hb⟩
theorem num_bounds (x : List UInt8) : -9223372036854775808 ≤ numOf x ∧ numOf x ≤ 9223372036854775807 := by
  unfold numOf
  rcases hz : Lib.atoiAll x with v | _ | _
  · exact Lib.atoiAll_bounds hz
  · dsimp only; omega
  · unfold Lib.atoiSat; dsimp only; split <;> omega

end Go.Proofs.YtnfmjkinahbilaaDoor
