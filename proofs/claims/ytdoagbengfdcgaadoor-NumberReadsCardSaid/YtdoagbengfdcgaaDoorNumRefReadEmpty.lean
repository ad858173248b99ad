/- The document's own reading of a number's text: the texts that begin so (empty). -/
import Derived.Test.YtdoagbengfdcgaaDoorNumRefRead
namespace Go.Proofs.YtdoagbengfdcgaaDoor
open Go.RowKit

set_option maxRecDepth 100000 in
set_option maxHeartbeats 8000000 in
theorem rReadEmpty (s : ByteArray) (dec : Bool) (w : World) (_hs : s.size ≤ maxLen) (R : Option (Nat × Int × Int)) (hR : walkR dec (s.data.toList.drop 0) 0 (-1) 0 = R) (hz : s.size = 0) :
    Calls Tryd.prog 17 #[.string s, .bool dec] w fun e w' => e = .returned (NumL.ret (endR dec (1) R)) ∧ Below w.heap.size w w' := by
  unfold maxLen at _hs
  have HR : Hid (RR s dec R 0 0 (-1) 0) := Lib.hid ⟨by decide, hR⟩
  clear hR
  obtain ⟨P, hP⟩ : ∃ P, endR dec (1) R = P := ⟨_, rfl⟩
  have HP := Lib.hid hP
  rw [hP]
  clear hP
  go_enter Tryd.func17, Tryd.ntmps17
  go_wp2
  go_loop [7, 8, 9, 10] (fun n b v i => ∃ (k m : Nat) (bb vv : Int), n = .int .i64 m ∧ b = .int .i64 bb ∧ v = .int .i64 vv ∧ i = .int .i64 k ∧ k ≤ s.size ∧ m ≤ k ∧ m ≤ 13 ∧ -1 ≤ bb ∧ bb ≤ m ∧ 0 ≤ vv ∧ vv < 10000000000000 ∧ Hid (RR s dec R k m bb vv) ∧ Hid (dec = false → bb < 0)) (fun _ _ _ i => s.size - (intOf i).toNat)
  case atStart => exact ⟨0, 0, -1, 0, rfl, rfl, rfl, rfl, by omega, by omega, by omega, by omega, by omega, by omega, by omega, HR, Lib.hid fun _ => by omega⟩
  case round =>
    clear HR
    obtain ⟨k, m, bb, vv, rfl, rfl, rfl, rfl, hk, hmk, hm, hb1, hb2, hv1, hv2, HL, HF⟩ := hrel
    by_cases hp : k < s.size
    · exfalso; omega
    · have HE0 := Lib.hid (rr_end hp HL.out)
      clear HL
      by_cases hm0 : m = 0
      · have HE := Lib.hid (show P = (noNum, false) from by rw [← HP.out, HE0.out, hm0, end_zero])
        have g3 : ((m : Int) == 0) = true := beq_iff_eq.2 (by omega)
        clear hm0
        go_wp2
        refine bodyPost_ret (v := .tuple #[.agg #[.int .i64 0, .int .i64 0, .bool false], .bool false]) (by simp [results, Tryd.results17, go_sem]) rfl ⟨by rw [HE.out]; rfl, ?_⟩
        exact box_below _ _
      · exfalso; omega

end Go.Proofs.YtdoagbengfdcgaaDoor
