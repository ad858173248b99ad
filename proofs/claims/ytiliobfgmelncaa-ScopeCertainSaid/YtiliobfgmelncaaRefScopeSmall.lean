
/- What may stand in a table, names looked for, patterns: by the document's own answer. -/
import Derived.Test.YtiliobfgmelncaaScopeSlice
import Derived.Test.YtiliobfgmelncaaRefTrips
namespace Go.Proofs.Ytiliobfgmelncaa
open Go.RowKit

set_option maxHeartbeats 1000000 in
theorem InA_calls (L : List (List UInt8)) (x : List UInt8) (a : Option Addr) (n c : Nat) (w : World) (h : TxtA w a n c L) :
    Calls Try.prog 6 #[.slice a n c, .string (bs x)] w fun e w' => e = .returned (.bool (decide (x ∈ L))) ∧ w' = w := by
  have hn := h.len
  have hc := h.cap
  have hm := h.most
  have HX := Lib.hid h.cells
  have HN := Lib.hid hn
  clear h hn
  unfold maxLen at hm
  go_enter Try.func6, Try.ntmps6
  go_wp2
  go_loop [5] (fun i => ∃ k : Nat, k ≤ n ∧ i = .int .i64 k ∧ Hid (¬ x ∈ L.take k)) (fun i => n - (intOf i).toNat)
  case atStart => exact ⟨0, Nat.zero_le _, rfl, by show ¬ _; simp⟩
  case round =>
    obtain ⟨k, hk, rfl, hno⟩ := hrel
    by_cases hlt : k < n
    · have hlt' : k < L.length := by rw [HN.out]; exact hlt
      obtain ⟨g, o, ha, hgw, hcells⟩ := HX.out (by omega)
      subst ha
      have hc := hcells k hlt'
      clear hcells
      have hts : x ∈ L.take (k + 1) ↔ x ∈ L.take k ∨ x = L[k] := by rw [List.take_succ_eq_append_getElem hlt', List.mem_append, List.mem_singleton]
      obtain ⟨y, hy⟩ : ∃ y, L[k] = y := ⟨_, rfl⟩
      rw [hy] at hc hts
      by_cases he : x = y
      · have HIN := Lib.hid (show decide (x ∈ L) = true from decide_eq_true (by rw [he, ← hy]; exact List.getElem_mem hlt'))
        have heq : (bs y).toList = (bs x).toList := by rw [he]
        clear hts hy he
        go_wp2
        go_ret
        exact ⟨ret_bool HIN.out.symm, rfl⟩
      · have HNX := Lib.hid (show ¬ x ∈ L.take (k + 1) from fun c => (hts.1 c).elim hno.out he)
        have hne : ((bs y).toList == (bs x).toList) = false := by rw [bs_toList, bs_toList]; exact beq_eq_false_iff_ne.2 (fun c => he c.symm)
        clear hts hy he
        go_wp2
        exact ⟨⟨k + 1, by omega, by go_num, HNX⟩, by simp [intOf]; omega⟩
    · have HIN := Lib.hid (show decide (x ∈ L) = false from decide_eq_false (by have := hno.out; rwa [List.take_of_length_le (by rw [HN.out]; omega)] at this))
      go_wp2
      go_ret
      exact ⟨ret_bool HIN.out.symm, rfl⟩

theorem patsB_long {T : List TripL} (h : 32 < T.length) : patsB T = false := by unfold patsB; rw [decide_eq_false (by omega)]; simp
end Go.Proofs.Ytiliobfgmelncaa
