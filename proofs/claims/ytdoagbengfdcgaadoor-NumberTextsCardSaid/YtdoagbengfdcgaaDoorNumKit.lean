/- The world that every function here finds: the two tables read as they are laid; what is below stays; the small tests. -/
import Derived.Test.YtdoagbengfdcgaaDoorNumPlain
import Derived.Test.YtdoagbengfdcgaaDoorProg
import Derived.WalkKit
import Derived.Lib.Hide
import Derived.Lib.LaidTab
import Derived.Lib.ItoaMem
import Derived.WalkSpells
import Derived.WalkLawsBesides
import Derived.BigQuiet
import Derived.Deep.QuietTactic
import Derived.RegionTactic
import Derived.ChangeAlike
namespace Go.Proofs.YtdoagbengfdcgaaDoor
open Go.RowKit

theorem box_below (w : World) (o : Obj) : Below w.heap.size w (w.alloc o) := (Below.refl _ _).alloc (Nat.le_refl _) _
theorem two_alloc (w : World) (o o2 : Obj) : Below w.heap.size w ((w.alloc o).alloc o2) := (box_below w o).alloc (by simp) _
theorem bcell {W w1 : World} (hb : Below W.heap.size W w1) : (∀ b o, b < W.heap.size → w1.cell? ⟨b, o, none⟩ = W.cell? ⟨b, o, none⟩) ∧ (∀ b o, b < W.heap.size → w1.frozen? ⟨b, o, none⟩ = W.frozen? ⟨b, o, none⟩) :=
  ⟨fun b o h => hb.cell (p := ⟨b, o, none⟩) h, fun b o h => hb.frozen (p := ⟨b, o, none⟩) h⟩
theorem bnext {W w1 w2 : World} (h1 : Below W.heap.size W w1) (h2 : Below w1.heap.size w1 w2) : Below W.heap.size W w2 := h1.trans (h2.mono h1.size)
theorem one_box {w w1 : World} {o : Obj} (h1 : Below (w.alloc o).heap.size (w.alloc o) w1) : Below w.heap.size w w1 :=
  (box_below w o).trans (h1.mono (by simp))
theorem below_drewN {B : Nat} {a w : World} (h : Below B a w) (n : Nat) : Below B a (w.drewN n) := ⟨h.os, h.tape, h.output, h.size, h.block⟩

theorem quiet_add_same {P : Program} {f : FuncId} {args : Array Value} {w : World} {a n : Nat} {v : Value}
    (h : Calls P f args (w.drewN (a + n)) fun e w' => e = .returned v ∧ w' = w.drewN (a + n)) :
    Calls P f args (w.drewN (a + n)) fun e w'' => e = .returned v ∧ ∃ m, w'' = w.drewN (a + m) :=
  h.mono fun _ _ ⟨he, hm⟩ => ⟨he, n, hm⟩

/- the two tables -/
def powTab : List Int := [1, 10, 100, 1000, 10000, 100000, 1000000, 10000000, 100000000]
structure Good (w : World) : Prop where
  pow : Lib.TabIs Tryd.prog w "legation/number.powers" .i64 powTab
  dec : Lib.TabIs Tryd.prog w "internal/strconv.uint64pow10" .u64 Lib.pow10Tab
  big : 0 < w.heap.size
  big2 : 1 < w.heap.size

theorem gPow : Tryd.prog.globalNamed "legation/number.powers" = some 0 := by kernel_rfl
theorem gDec : Tryd.prog.globalNamed "internal/strconv.uint64pow10" = some 1 := by kernel_rfl

theorem var?_below {P : Program} {B g : Nat} {W W' : World} {n : String} {cs : Array Value} (h : Below B W W') (hg : P.globalNamed n = some g) (hgB : g < B) (hv : W.var? P n = some cs) : W'.var? P n = some cs := by
  unfold World.var? at hv ⊢
  simp only [hg, Option.bind_some] at hv ⊢
  rw [h.block g hgB]
  exact hv

theorem Good.on {w w' : World} (h : Good w) (hb : Below w.heap.size w w') : Good w' :=
  ⟨var?_below hb gPow h.big h.pow, var?_below hb gDec h.big2 h.dec, Nat.lt_of_lt_of_le h.big hb.size, Nat.lt_of_lt_of_le h.big2 hb.size⟩
theorem Good.alloc {w : World} (h : Good w) (o : Obj) : Good (w.alloc o) := h.on (box_below w o)
theorem Good.drew {w : World} (h : Good w) : Good w.drew := h.on (Below.refl _ _).drew
theorem Good.drewN {w : World} (h : Good w) (n : Nat) : Good (w.drewN n) := h.on (below_drewN (Below.refl _ _) n)

theorem Good.cell {w : World} (h : Good w) (i : Nat) (hi : i < 9) : w.cell? ⟨0, i, none⟩ = some (.int .i64 (powTab.getD i 0)) := by
  rw [h.pow.cell gPow i (by simpa [powTab] using hi)]

end Go.Proofs.YtdoagbengfdcgaaDoor
