/- The law ScopeChecks: may any operations be a code. -/
import Derived.Test.YtiliobfgmelncaaGreatScopeEnds
import Derived.Test.YtiliobfgmelncaaGreatScopeTolds
namespace Go.Proofs.YtiliobfgmelncaaGreat
open Go.RowKit

set_option maxRecDepth 100000 in
set_option maxHeartbeats 8000000 in
theorem scopeChecks_calls (C : List OpL) (hok : ∀ o ∈ C, OpOk o) (a : Option Addr) (n c : Nat) (w : World) (hin : OpsA w a n c C) : Calls Tryz.prog 4 #[.slice a n c] w fun e w' => e = .returned (.bool true) ∧ Below w.heap.size w w' := by
  have HP := Lib.hid (fun (W : World) (hb : Below w.heap.size w W) => oCheck_calls C hok a n c W (hin.on hb))
  have HR := Lib.hid (fun (W : World) (hb : Below w.heap.size w W) => rOCheck_calls C hok a n c W (hin.on hb))
  have HBG := Lib.hid (big_calls a n c)
  have HAW := Lib.hid (fun W => awake_calls W)
  clear hok hin
  rw [resE_is] at HP
  generalize checkC C = E at HP HR
  cases hbg : bigB n with
  | true =>
    rw [hbg] at HBG
    clear hbg
    go_enter Tryz.func4, Tryz.ntmps4
    go_wp2_with fail
    refine (HBG.out _).mono ?_
    rintro e w1 ⟨rfl, rfl⟩
    go_wp2_with fail
    refine (HAW.out _).mono ?_
    rintro e w2 ⟨rfl, hb⟩
    have HB := Lib.hid hb
    clear hb
    go_wp2
    go_ret
    exact ⟨rfl, HB.out⟩
  | false =>
    rw [hbg] at HBG
    clear hbg
    go_enter Tryz.func4, Tryz.ntmps4
    go_wp2_with fail
    refine (HBG.out _).mono ?_
    rintro e w1 ⟨rfl, rfl⟩
    go_wp2_with fail
    refine (HP.out _ (Below.refl _ _)).mono ?_
    rintro e w2 ⟨rfl, hb2⟩
    have HB2 := Lib.hid hb2
    clear hb2
    go_wp2_with fail
    refine (HR.out _ HB2.out).mono ?_
    rintro e w3 ⟨rfl, hb3⟩
    have HB3 := Lib.hid (HB2.out.trans (hb3.mono HB2.out.size))
    clear hb3
    go_wp2_with fail
    refine (HAW.out _).mono ?_
    rintro e w4 ⟨rfl, hb4⟩
    have HB4 := Lib.hid (HB3.out.trans (hb4.mono HB3.out.size))
    clear hb4
    go_wp2
    go_ret
    exact ⟨rfl, HB4.out⟩

end Go.Proofs.YtiliobfgmelncaaGreat
