/- The names of a triple's variables, by the document's own answer. -/
import Derived.Test.YtiliobfgmelncaaRefReads
namespace Go.Proofs.Ytiliobfgmelncaa
open Go.RowKit

set_option maxHeartbeats 1000000 in
theorem In_calls (L : List (List UInt8)) (x : List UInt8) (v : Value) (w : World) (hl : L.length ≤ 3) (h : Reads w v L.length (textCells L)) :
    Calls Try.prog 6 #[v, .string (bs x)] w fun e w' => e = .returned (.bool (decide (x ∈ L))) ∧ w' = w := by
  rcases h with ⟨rfl, h0⟩ | ⟨g, cap, rfl, hg, hn, hm, hc⟩
  · have e : L = [] := List.eq_nil_of_length_eq_zero h0
    subst e
    go_enter Try.func6, Try.ntmps6
    go_wp2
    go_loop [5] (fun i => i = .int .i64 0) (fun _ => 0)
    case atStart => rfl
    case round =>
      subst hrel
      go_wp2
      go_ret
      exact ⟨ret_bool (by simp), rfl⟩
  · have HC := Lib.hid hc
    have hX := Lib.hid (show ∀ j (h : j < L.length), w.cell? ⟨g, j, none⟩ = some (.string (bs L[j])) from fun j h => hc j _ (by simp [textCells, h]))
    clear hc
    unfold maxLen at hm
    obtain ⟨N, hN⟩ : ∃ N, L.length = N := ⟨_, rfl⟩
    rw [hN] at hl hn
    have HN := Lib.hid hN
    clear hN
    rw [HN.out]
    go_enter Try.func6, Try.ntmps6
    go_wp2
    go_loop [5] (fun i => ∃ k : Nat, k ≤ N ∧ i = .int .i64 k ∧ Hid (¬ x ∈ L.take k)) (fun i => N - (intOf i).toNat)
    case atStart => exact ⟨0, Nat.zero_le _, rfl, by show ¬ _; simp⟩
    case round =>
      obtain ⟨k, hk, rfl, hno⟩ := hrel
      by_cases hlt : k < N
      · have hlt' : k < L.length := by rw [HN.out]; exact hlt
        have hc := hX.out k hlt'
        have hts : x ∈ L.take (k + 1) ↔ x ∈ L.take k ∨ x = L[k] := by rw [List.take_succ_eq_append_getElem hlt', List.mem_append, List.mem_singleton]
        obtain ⟨y, hy⟩ : ∃ y, L[k] = y := ⟨_, rfl⟩
        rw [hy] at hc hts
        by_cases he : x = y
        · have HIN := Lib.hid (show decide (x ∈ L) = true from decide_eq_true (by rw [he, ← hy]; exact List.getElem_mem hlt'))
          have heq : (bs y).toList = (bs x).toList := by rw [he]
          clear hts hy he
          go_wp2
          go_ret
          exact ⟨ret_bool HIN.out.symm, rfl⟩
        · have HNX := Lib.hid (show ¬ x ∈ L.take (k + 1) from fun c => (hts.1 c).elim hno.out he)
          have hne : ((bs y).toList == (bs x).toList) = false := by rw [bs_toList, bs_toList]; exact beq_eq_false_iff_ne.2 (fun c => he c.symm)
          clear hts hy he
          go_wp2
          exact ⟨⟨k + 1, by omega, by go_num, HNX⟩, by simp [intOf]; omega⟩
      · have HIN := Lib.hid (show decide (x ∈ L) = false from decide_eq_false (by have := hno.out; rwa [List.take_of_length_le (by rw [HN.out]; omega)] at this))
        go_wp2
        go_ret
        exact ⟨ret_bool HIN.out.symm, rfl⟩

end Go.Proofs.Ytiliobfgmelncaa
