/- The term that a text begins with: what package term's readers of IRIs and names come to, for every text. -/
import Derived.Test.YtkejninogmphhaaDoorTermAhead
namespace Go.Proofs.YtkejninogmphhaaDoor
open Go.RowKit

set_option maxHeartbeats 400000 in
theorem namedAhead_calls (k : Int) (s : ByteArray) (a : Int) (w : World) (hs : s.size ≤ 281474976710656) (ha : 1 ≤ a) (hb : a ≤ 2) (hl : a ≤ s.size) :
    Calls Tryd.prog 38 #[.int .i64 k, .string s, .int .i64 a] w fun e w' => e = .returned (.tuple #[(namedS k s.data.toList a.toNat).1.v, .int .i64 (namedS k s.data.toList a.toNat).2]) ∧ Below w.heap.size w w' := by
  have hn : nameLead (s.data.toList.drop a.toNat) ≤ s.size - a.toNat := lead_le_size _ s a.toNat
  have hS := Lib.hid (show namedS k s.data.toList a.toNat = _ from by unfold namedS; rfl)
  go_enter Tryd.func38, Tryd.ntmps38
  go_wp2_with fail
  rw [drop_bs s a.toNat]
  refine (nameLength_calls (bs _) _ (by rw [bs_size, List.length_drop, ← Lib.size_eq]; unfold maxLen; omega)).mono ?_
  rintro e w1 ⟨rfl, hb1⟩
  rw [bs_data]
  obtain ⟨hc, hf⟩ := bcell hb1
  have hz : w.heap.size < w1.heap.size := by have := hb1.size; simp at this; omega
  generalize nameLead (List.drop a.toNat s.data.toList) = n at hn hS
  by_cases h0 : n = 0
  · have g0 : ((n : Int) == 0) = true := beq_iff_eq.2 (by omega)
    have hS' := Lib.hid (hS.out.trans (if_pos h0))
    clear h0 hS
    go_wp2
    refine bodyPost_ret (v := .tuple #[noTerm.v, .int .i64 0]) (by simp [results, Tryd.results38, noTerm, TermL.v, bs_nil, hc, go_sem]) rfl ⟨by rw [hS'.out]; rfl, ?_⟩
    exact ((((one_box hb1).setCell (Nat.le_refl _) _).setCell (Nat.le_refl _) _).setCell (Nat.le_refl _) _).setCell (Nat.le_refl _) _
  · have g0 : ((n : Int) == 0) = false := beq_eq_false_iff_ne.2 (by omega)
    have hS' := Lib.hid (hS.out.trans (if_neg h0))
    clear hS
    go_wp2_with (go_at_call 25; refine (Clone_calls _ _ ?_).mono ?_; rotate_left; rintro e w3 ⟨rfl, hb3⟩; have hb4 := hb1.trans (hb3.mono hb1.size); obtain ⟨hc3, hf3⟩ := bcell hb4; have hz3 : w.heap.size < w3.heap.size := (by have := hb3.size; omega))
    · refine bodyPost_ret (v := .tuple #[.agg #[.int .i64 k, .string (s.extract a.toNat (a + n).toNat), .string ⟨#[]⟩, .string ⟨#[]⟩], .int .i64 (a + n)]) (by simp [results, Tryd.results38, hc3, go_sem]) rfl ⟨?_, ?_⟩
      · rw [hS'.out, piece_bs, show (a + (n : Int)).toNat - a.toNat = n by omega, show (a + (n : Int)) = ((a.toNat + n : Nat) : Int) by omega]; rfl
      · exact ((((one_box hb4).setCell (Nat.le_refl _) _).setCell (Nat.le_refl _) _).setCell (Nat.le_refl _) _).setCell (Nat.le_refl _) _
    · rw [piece_bs, bs_size, List.length_take, List.length_drop, ← Lib.size_eq]; omega

set_option maxHeartbeats 400000 in
theorem iriAhead_calls (s : ByteArray) (w : World) (hs : s.size ≤ 281474976710656) :
    Calls Tryd.prog 37 #[.string s] w fun e w' => e = .returned (.tuple #[(iriS s.data.toList).1.v, .int .i64 (iriS s.data.toList).2]) ∧ Below w.heap.size w w' := by
  have hS := Lib.hid (show iriS s.data.toList = _ from by unfold iriS; rfl)
  go_enter Tryd.func37, Tryd.ntmps37
  go_wp2_with fail
  refine (bracketed_calls _ _ hs).mono ?_
  rintro e w1 ⟨rfl, hb1⟩
  obtain ⟨hc, hf⟩ := bcell hb1
  have hz : w.heap.size < w1.heap.size := by have := hb1.size; simp at this; omega
  generalize bracketS s.data.toList = p at hS
  obtain ⟨x, n⟩ := p
  simp only at hS
  by_cases h0 : n = 0
  · have g0 : ((n : Int) == 0) = true := beq_iff_eq.2 (by omega)
    have hS' := Lib.hid (hS.out.trans (if_pos h0))
    clear h0 hS
    go_wp2
    refine bodyPost_ret (v := .tuple #[noTerm.v, .int .i64 0]) (by simp [results, Tryd.results37, noTerm, TermL.v, bs_nil, hc, go_sem]) rfl ⟨by rw [hS'.out]; rfl, ?_⟩
    exact ((((one_box hb1).setCell (Nat.le_refl _) _).setCell (Nat.le_refl _) _).setCell (Nat.le_refl _) _).setCell (Nat.le_refl _) _
  · have g0 : ((n : Int) == 0) = false := beq_eq_false_iff_ne.2 (by omega)
    have hS' := Lib.hid (hS.out.trans (if_neg h0))
    clear hS
    go_wp2
    refine bodyPost_ret (v := .tuple #[.agg #[.int .i64 1, .string (bs x), .string ⟨#[]⟩, .string ⟨#[]⟩], .int .i64 n]) (by simp [results, Tryd.results37, hc, go_sem]) rfl ⟨by rw [hS'.out]; rfl, ?_⟩
    exact ((((one_box hb1).setCell (Nat.le_refl _) _).setCell (Nat.le_refl _) _).setCell (Nat.le_refl _) _).setCell (Nat.le_refl _) _

end Go.Proofs.YtkejninogmphhaaDoor
