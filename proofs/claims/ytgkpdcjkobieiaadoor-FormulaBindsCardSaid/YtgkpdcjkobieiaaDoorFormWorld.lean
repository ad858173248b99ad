/- The world that every function on formulas finds: the two tables read as they are laid; which kind's mark a text is. -/
import Derived.Test.YtgkpdcjkobieiaaDoorFormPlains
import Derived.Test.YtgkpdcjkobieiaaDoorLexBlk
import Derived.Test.YtgkpdcjkobieiaaDoorLexRows
import Derived.Deep.LoopGhost
namespace Go.Proofs.YtgkpdcjkobieiaaDoor
open Go.RowKit

structure Good (A : Nat) (w : World) : Prop where
  mark : ∀ k, k < 27 → w.cell? ⟨1, k, none⟩ = some (.string (bs (markN k)))
  lv0 : ∀ k, k < 5 → w.cell? ⟨0, k * 3, none⟩ = some (.int .i64 (lev k).1)
  lv1 : ∀ k, k < 5 → w.cell? ⟨0, k * 3 + 1, none⟩ = some (.int .i64 (lev k).2.1)
  lv2 : ∀ k, k < 5 → w.cell? ⟨0, k * 3 + 2, none⟩ = some (.bool (lev k).2.2)
  mA : 1 < A
  lA : 0 < A
theorem Good.on {A : Nat} {w w' : World} (h : Good A w) (hb : Below A w w') : Good A w' :=
  ⟨fun k hk => by rw [hb.cell (p := ⟨1, k, none⟩) h.mA]; exact h.mark k hk,
   fun k hk => by rw [hb.cell (p := ⟨0, k * 3, none⟩) h.lA]; exact h.lv0 k hk,
   fun k hk => by rw [hb.cell (p := ⟨0, k * 3 + 1, none⟩) h.lA]; exact h.lv1 k hk,
   fun k hk => by rw [hb.cell (p := ⟨0, k * 3 + 2, none⟩) h.lA]; exact h.lv2 k hk, h.mA, h.lA⟩
theorem Good.up {A B : Nat} {w : World} (h : Good A w) (hAB : A ≤ B) : Good B w := ⟨h.mark, h.lv0, h.lv1, h.lv2, Nat.lt_of_lt_of_le h.mA hAB, Nat.lt_of_lt_of_le h.lA hAB⟩

theorem bs_same {a b : List UInt8} (h : a = b) : ((bs a).toList == (bs b).toList) = true := by rw [bs_toList, bs_toList]; exact beq_iff_eq.2 h
theorem bs_other {a b : List UInt8} (h : ¬ a = b) : ((bs a).toList == (bs b).toList) = false := by rw [bs_toList, bs_toList]; exact beq_eq_false_iff_ne.2 h

set_option maxHeartbeats 1000000 in
theorem kindOf_calls (A : Nat) (x : List UInt8) (f t : Nat) (w : World) (hg : Good A w) (ht : t < 27) (hf : f ≤ t + 1) :
    Calls Tryd.prog 51 #[.string (bs x), .int .i64 f, .int .i64 t] w fun e w' => e = .returned (.int .i64 (kindM x f (t + 1 - f))) ∧ w' = w := by
  have HG := Lib.hid hg
  clear hg
  go_enter Tryd.func51, Tryd.ntmps51
  go_wp2
  go_loopg [7] (t + 1 - f) (fun g i wr => ∃ k : Nat, i = .int .i64 k ∧ wr = w ∧ k + g = t + 1 ∧ Hid (kindM x f (t + 1 - f) = kindM x k g))
  case atStart => exact ⟨f, rfl, rfl, by omega, Lib.hid rfl⟩
  case round =>
    obtain ⟨k, rfl, rfl, hkg, HL⟩ := hrel
    by_cases hk : k ≤ t
    · obtain ⟨g, rfl⟩ : ∃ g, gk = g + 1 := ⟨gk - 1, by omega⟩
      have hc := HG.out.mark k (by omega)
      have hk' : (k : Int) ≤ (t : Int) := by omega
      have hk27 : k < 27 := by omega
      by_cases he : markN k = x
      · have HY := Lib.hid (show kindM x k (g + 1) = k by unfold kindM; rw [if_pos he])
        have hq := bs_same he
        have HQ := Lib.hid he
        clear he
        go_wp2
        go_ret
        exact ⟨by rw [HL.out, HY.out]; rfl, rfl⟩
      · have HN := Lib.hid (show kindM x k (g + 1) = kindM x (k + 1) g by rw [kindM, if_neg he])
        have hq := bs_other he
        clear he
        go_wp2
        go_roundg g
        case measure => omega
        case rel => exact ⟨k + 1, by go_num, rfl, by omega, Lib.hid (by rw [HL.out, HN.out])⟩
    · have hz : gk = 0 := by omega
      subst hz
      have hk' : ¬ (k : Int) ≤ (t : Int) := by omega
      go_wp2
      go_ret
      exact ⟨by rw [HL.out]; rfl, rfl⟩

end Go.Proofs.YtgkpdcjkobieiaaDoor
