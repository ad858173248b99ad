/- The program answers: the statements' awake. -/
import Derived.Test.YtnapnfobnfadeaaPctRead
import Derived.Test.YtnapnfobnfadeaaPctEnc
namespace Go.Proofs.Ytnapnfobnfadeaa
open Go.RowKit

def awS : List UInt8 := [105, 100, 61, 49, 38, 113, 61, 97, 37, 50, 48, 98]
def awL : List PairL := [⟨[105, 100], [49]⟩, ⟨[113], [97, 32, 98]⟩]
set_option maxRecDepth 100000 in
theorem aw_read : rdS awS = (awL, 0) := by kernel_rfl
set_option maxRecDepth 100000 in
theorem aw_enc : encS [97, 32, 98, 63] = [97, 37, 50, 48, 98, 37, 51, 70] := by kernel_rfl

set_option maxRecDepth 100000 in
set_option maxHeartbeats 1000000 in
theorem awake_calls (w : World) : Calls Try.prog 11 #[] w fun e w' => e = .returned (.bool true) ∧ Below w.heap.size w w' := by
  have HR := Lib.hid (show Calls Try.prog 15 #[.string ⟨#[105, 100, 61, 49, 38, 113, 61, 97, 37, 50, 48, 98]⟩] w (ReadT w (awL, 0)) from by
    have := pRead_calls ⟨#[105, 100, 61, 49, 38, 113, 61, 97, 37, 50, 48, 98]⟩ w (by show 12 ≤ _; omega)
    rw [show (ByteArray.mk #[105, 100, 61, 49, 38, 113, 61, 97, 37, 50, 48, 98]).data.toList = awS from rfl, aw_read] at this
    exact this)
  have HE : Hid (∀ W, Calls Try.prog 8 #[.string ⟨#[97, 32, 98, 63]⟩] W fun e w' => e = .returned (.string ⟨#[97, 37, 50, 48, 98, 37, 51, 70]⟩) ∧ Below W.heap.size W w') := Lib.hid fun W => by
    have := pEncode_calls ⟨#[97, 32, 98, 63]⟩ W (by show 4 ≤ _; omega)
    rw [show (ByteArray.mk #[97, 32, 98, 63]).data.toList = [97, 32, 98, 63] from rfl, aw_enc] at this
    exact this
  go_enter Try.func11, Try.ntmps11
  go_wp2_with fail
  refine HR.out.mono ?_
  rintro e W1 ⟨v, rfl, hown, hb⟩
  have HB1 := Lib.hid hb
  clear hb HR
  obtain ⟨a, c, rfl, hP⟩ := prA_own hown rfl
  have hcap := hP.cap
  have hmost := hP.most
  obtain ⟨g, o, rfl, hg, hcells⟩ := hP.cells (by decide)
  obtain ⟨_, c1⟩ := hcells 1 (by decide)
  have e2 : awL.length = 2 := rfl
  dsimp only at hcap
  rw [e2] at hcap
  dsimp only
  rw [e2]
  clear hcells hP hown
  unfold maxLen at hmost
  replace c1 : W1.cell? ⟨g, o + 3, none⟩ = some (.string ⟨#[97, 32, 98]⟩) := c1
  go_wp2_with (go_at_call 8; refine (HE.out _).mono ?_; rintro e W2 ⟨rfl, hb⟩; have HB2 := Lib.hid (fb2 HB1.out hb (Nat.le_refl _)); clear hb)
  go_ret
  exact ⟨rfl, HB2.out⟩

end Go.Proofs.Ytnapnfobnfadeaa
