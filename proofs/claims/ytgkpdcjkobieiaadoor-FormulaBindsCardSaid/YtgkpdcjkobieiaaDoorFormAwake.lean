/- The program answers: the statements' awake. -/
import Derived.Test.YtgkpdcjkobieiaaDoorFormChains
import Derived.Test.YtgkpdcjkobieiaaDoorRefLex
import Derived.Test.YtgkpdcjkobieiaaDoorLexAwake
namespace Go.Proofs.YtgkpdcjkobieiaaDoor
open Go.RowKit

theorem toks_of {w : World} {B : Nat} {v : Value} {L : List TokL} (h : w.ownsRow B 35 7 v L.length (tokCells L)) (hL : 0 < L.length) : TokS w.heap.size v L w := by
  rcases reads_of h with ⟨_, h0⟩ | ⟨g, cap, hv, hg, hn, hm, hc⟩
  · omega
  · exact ⟨⟨g, cap, hv, hg, hn, fun k hk => toks_cell hc k hk⟩⟩
theorem Good.next {w w' : World} (h : Good w.heap.size w) (hb : Below w.heap.size w w') : Good w'.heap.size w' := (h.on hb).up hb.size
/- the cells of a row of parts -/
theorem part_cell {w : World} {B g cap n : Nat} {P : List PartL} {xs : List Value} (h : w.ownsRow B 41 7 (.slice (some ⟨g, 0, none⟩) n cap) n xs) (hx : xs = partCells P) (hn : n = P.length) (k : Nat) (hk : k < P.length) : w.cell? ⟨g, k * 7, none⟩ = some (.int .i64 (P[k]).k) := by
  subst hx hn
  have e := partCells_at P k hk 0 (by omega)
  rw [Nat.add_zero] at e
  rw [h.cellAt (k * 7) (by omega), e]
  rfl

def wakeS : List UInt8 := [63, 97, 32, 43, 32, 63, 98, 32, 42, 32, 63, 99]
def wakeT : List TokL := [⟨2, [97], noTerm, 0⟩, ⟨5, [43], noTerm, 3⟩, ⟨2, [98], noTerm, 5⟩, ⟨5, [42], noTerm, 8⟩, ⟨2, [99], noTerm, 10⟩]
def wakeP : List PartL := [varPart [97], varPart [98], varPart [99], signPart 16, signPart 14]
theorem wake_ans : lexS wakeS = (wakeT, 0, 0) := by rfl
theorem wake_parse : chainM wakeT 6 0 (0, []) = some (5, wakeP) := by kernel_rfl

set_option maxRecDepth 100000 in
set_option maxHeartbeats 1000000 in
theorem awake_calls (w : World) (hg : Good w.heap.size w) : Calls Tryd.prog 7 #[] w fun e w' => e = .returned (.bool true) ∧ Below w.heap.size w w' := by
  have HG := Lib.hid hg
  clear hg
  go_enter Tryd.func7, Tryd.ntmps7
  go_wp2_with fail
  refine (rLex_calls _ _).mono ?_
  rintro e w1 ⟨v, rfl, hown, hb⟩
  rw [show (ByteArray.data ⟨#[63, 97, 32, 43, 32, 63, 98, 32, 42, 32, 63, 99]⟩).toList = wakeS from rfl, wake_ans] at *
  dsimp only at *
  have HB := Lib.hid hb
  have HT := Lib.hid (toks_of hown (by decide))
  clear hown hb
  go_wp2_with fail
  refine (Parse_calls v wakeT (by decide) (by decide) 6 (5, wakeP) w1 wake_parse HT.out (HG.out.next HB.out)).mono ?_
  rintro e w2 ⟨p, rfl, hrow, hb2⟩
  have HB2 := Lib.hid (step_below HB.out hb2)
  dsimp only at hrow ⊢
  rcases hrow.2 with ⟨_, h0⟩ | ⟨g, cap, cur, rfl, hg0, hh, hn, hm, _⟩
  · exact absurd h0 (by decide)
  · have c3 := part_cell hrow rfl rfl 3 (by decide)
    have c4 := part_cell hrow rfl rfl 4 (by decide)
    rw [show (wakeP[3]'(by decide)).k = 16 from rfl] at c3
    rw [show (wakeP[4]'(by decide)).k = 14 from rfl] at c4
    simp only [Nat.reduceMul] at c3 c4
    clear hrow hh hg0 hb2
    rw [show wakeP.length = 5 from rfl] at hn ⊢
    go_wp2
    go_ret
    exact ⟨rfl, HB2.out⟩

end Go.Proofs.YtgkpdcjkobieiaaDoor
