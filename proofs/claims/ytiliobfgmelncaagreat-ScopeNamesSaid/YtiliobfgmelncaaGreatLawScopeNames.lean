/- The law ScopeNames: which variables are in scope, and which are certain. -/
import Derived.Test.YtiliobfgmelncaaGreatScopeEnds
import Derived.Test.YtiliobfgmelncaaGreatScopeTolds
namespace Go.Proofs.YtiliobfgmelncaaGreat
open Go.RowKit

set_option maxRecDepth 100000 in
set_option maxHeartbeats 8000000 in
theorem scopeNames_calls (C : List OpL) (hok : ∀ o ∈ C, OpOk o) (a : Option Addr) (n c : Nat) (i : Int) (w : World) (hin : OpsA w a n c C) : Calls Tryz.prog 5 #[.slice a n c, .int .i64 i] w fun e w' => e = .returned (.bool true) ∧ Below w.heap.size w w' := by
  have HP := Lib.hid (fun (W : World) (hb : Below w.heap.size w W) => inScope_calls C hok a n c i W (hin.on hb))
  have HQ := Lib.hid (fun (W : World) (hb : Below w.heap.size w W) => certain_calls C hok a n c i W (hin.on hb))
  have HT := Lib.hid (fun (cert : Bool) (L : List (List UInt8)) (la : Option Addr) (lc : Nat) (W : World) (hb : Below w.heap.size w W) (hL : TxtA W la L.length lc L) h1 h2 => told_calls C hok a n c i cert L la lc W (hin.on hb) hL h1 h2)
  have HNM := Lib.hid (fun (cert : Bool) (L : List (List UInt8)) h => fun h0 => (inT_names (C := C) (i := i) (cert := cert) (L := L) h h0).2.2.2)
  have HBG := Lib.hid (big_calls a n c)
  have HAW := Lib.hid (fun W => awake_calls W)
  clear hok hin
  cases hbg : bigB n with
  | true =>
    rw [hbg] at HBG
    clear hbg
    go_enter Tryz.func5, Tryz.ntmps5
    go_wp2_with fail
    refine (HBG.out _).mono ?_
    rintro e w1 ⟨rfl, rfl⟩
    go_wp2_with fail
    refine (HAW.out _).mono ?_
    rintro e w2 ⟨rfl, hb⟩
    have HB := Lib.hid hb
    clear hb
    go_wp2
    go_ret
    exact ⟨rfl, HB.out⟩
  | false =>
    rw [hbg] at HBG
    clear hbg
    go_enter Tryz.func5, Tryz.ntmps5
    go_wp2_with fail
    refine (HBG.out _).mono ?_
    rintro e w1 ⟨rfl, rfl⟩
    go_wp2_with fail
    refine (HP.out _ (Below.refl _ _)).mono ?_
    rintro e w2 ⟨hb2, L, la, lc, rfl, hL, hri, hL1, hL2, hL3⟩
    have HB2 := Lib.hid hb2
    have HL := Lib.hid (fun W (hb : Below w2.heap.size w2 W) => hL.on hb)
    have HL1 := Lib.hid hL1
    have HL2 := Lib.hid (HNM.out false L hL2)
    clear hb2 hL hL1 hL2 hL3 hri
    go_wp2_with fail
    refine (HQ.out _ HB2.out).mono ?_
    rintro e w3 ⟨hb3, M, ma, mc, rfl, hM, hri, hM1, hM2, hM3⟩
    have HL' := Lib.hid (HL.out _ hb3)
    have HB3 := Lib.hid (HB2.out.trans (hb3.mono HB2.out.size))
    have HM := Lib.hid (fun W (hb : Below w3.heap.size w3 W) => hM.on hb)
    have HM1 := Lib.hid hM1
    have HM2 := Lib.hid (HNM.out true M hM2)
    have HLL := Lib.hid (fun W (hb : Below w3.heap.size w3 W) => HL'.out.on hb)
    clear hb3 hM hM1 hM2 hM3 hri HL HNM
    go_wp2_with fail
    refine (HT.out false L la lc _ HB3.out HL'.out HL1.out HL2.out).mono ?_
    rintro e w4 ⟨rfl, hb4⟩
    have HB4 := Lib.hid (HB3.out.trans (hb4.mono HB3.out.size))
    have HM' := Lib.hid (HM.out _ hb4)
    clear hb4
    go_wp2_with fail
    refine (HT.out true M ma mc _ HB4.out HM'.out HM1.out HM2.out).mono ?_
    rintro e w5 ⟨rfl, hb5⟩
    have HB5 := Lib.hid (HB4.out.trans (hb5.mono HB4.out.size))
    clear hb5
    go_wp2_with fail
    refine (HAW.out _).mono ?_
    rintro e w6 ⟨rfl, hb6⟩
    have HB6 := Lib.hid (HB5.out.trans (hb6.mono HB5.out.size))
    clear hb6
    go_wp2
    go_ret
    exact ⟨rfl, HB6.out⟩

end Go.Proofs.YtiliobfgmelncaaGreat
