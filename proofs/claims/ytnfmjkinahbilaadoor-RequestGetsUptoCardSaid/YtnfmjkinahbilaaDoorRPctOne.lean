/- The pair of a text by the document's own answer, for every text. -/
import Derived.Test.YtnfmjkinahbilaaDoorRPctDec
import Derived.Test.YtnfmjkinahbilaaDoorPctPair
namespace Go.Proofs.YtnfmjkinahbilaaDoor
open Go.RowKit

def rOneR (l : List UInt8) : PairL × Bool := if cutI 61 l then (⟨(rDecR (cutA 61 l)).1, (rDecR (cutB 61 l)).1⟩, (rDecR (cutA 61 l)).2 && (rDecR (cutB 61 l)).2) else (⟨[], []⟩, false)
theorem one_at {l : List UInt8} {k : Nat} (h : k < l.length) (hk : l[k] = 61) (hn : (61 : UInt8) ∉ l.take k) : rOneR l = (⟨(rDecR (l.take k)).1, (rDecR (l.drop (k + 1))).1⟩, (rDecR (l.take k)).2 && (rDecR (l.drop (k + 1))).2) := by
  have e : l = l.take k ++ 61 :: l.drop (k + 1) := by
    conv => lhs; rw [← List.take_append_drop k l, List.drop_eq_getElem_cons h, hk]
  obtain ⟨h1, h2, h3⟩ := cut_app 61 (l.take k) (l.drop (k + 1)) hn
  rw [← e] at h1 h2 h3
  unfold rOneR
  rw [h3, h1, h2]; rfl
theorem one_end {l : List UInt8} {k : Nat} (h : l.length ≤ k) (hn : (61 : UInt8) ∉ l.take k) : rOneR l = (⟨[], []⟩, false) := by
  rw [List.take_of_length_le h] at hn
  unfold rOneR
  rw [(cut_none 61 l hn).2.2]; rfl
theorem one_next {l : List UInt8} {k : Nat} (h : k < l.length) (hk : ¬ l[k] = 61) (hn : (61 : UInt8) ∉ l.take k) : (61 : UInt8) ∉ l.take (k + 1) := by
  rw [List.take_succ_eq_append_getElem h, List.mem_append, List.mem_singleton]
  rintro (h | h)
  · exact hn h
  · exact hk h.symm
theorem rOne_is (l : List UInt8) : (rOneR l).2 = (oneP l).isSome ∧ ∀ p, oneP l = some p → (rOneR l).1 = p := by
  unfold rOneR oneP rDecR
  cases cutI 61 l with
  | false => simp
  | true =>
    simp only [if_true]
    cases decS (cutA 61 l) <;> cases decS (cutB 61 l) <;> simp
theorem rdecB (l : List UInt8) (h : l.length ≤ 40000000000000) (W : World) (q : List UInt8 × Bool) (hq : rDecR l = q) : Calls Tryd.prog 41 #[.string (bs l)] W fun e w' => e = .returned (.tuple #[.string (bs q.1), .bool q.2]) ∧ Below W.heap.size W w' := by
  subst hq
  exact rDecode_calls (bs l) W h
def OneT (w : World) (q : PairL × Bool) (e : Ending) (w' : World) : Prop := e = .returned (.tuple #[.agg #[.string (bs q.1.k), .string (bs q.1.v)], .bool q.2]) ∧ Below w.heap.size w w'
theorem is61 {b : UInt8} (h : (b.toNat : Int) = 61) : b = 61 := (u8_of (b := b) (n := 61) (by omega)).1 h
theorem not61 {b : UInt8} (h : ¬ (b.toNat : Int) = 61) : ¬ b = 61 := fun e => h (by rw [e]; rfl)

set_option maxRecDepth 100000 in
set_option maxHeartbeats 2000000 in
theorem rOne_calls (s : ByteArray) (w : World) (hs : s.size ≤ 40000000000000) : Calls Tryd.prog 28 #[.string s] w (OneT w (rOneR s.data.toList)) := by
  have HSL := Lib.hid (show s.data.toList.length = s.size from (Lib.size_eq s).symm)
  obtain ⟨X, hX⟩ : ∃ X, w.heap.size = X := ⟨_, rfl⟩
  obtain ⟨W0, hW0⟩ : ∃ W0, w.alloc (.cells #[.string ⟨#[]⟩, .string ⟨#[]⟩] 38) = W0 := ⟨_, rfl⟩
  have HB0 := Lib.hid (show Below w.heap.size w W0 by rw [← hW0]; exact box_below _ _)
  have HK0 := Lib.hid (show Blk W0 X 38 #[.string ⟨#[]⟩, .string ⟨#[]⟩] by rw [← hW0, ← hX]; exact blk_new _ _ _)
  have HX := Lib.hid hX
  have HW0 := Lib.hid hW0
  clear hX hW0
  go_enter Tryd.func28, Tryd.ntmps28
  go_wp2_with fail
  rw [HW0.out, HX.out]
  go_loopg [4] s.size (fun g i wr => ∃ k : Nat, i = .int .i64 k ∧ k + g = s.size ∧ Hid ((61 : UInt8) ∉ s.data.toList.take k) ∧ Hid (W0 = wr))
  case atStart => exact ⟨0, rfl, by omega, Lib.hid (by simp), Lib.hid rfl⟩
  case round =>
    obtain ⟨k, rfl, hkg, HN, HW⟩ := hrel
    obtain rfl := HW.out
    by_cases hk : k < s.size
    · obtain ⟨gg, rfl⟩ : ∃ gg, gk = gg + 1 := ⟨gk - 1, by omega⟩
      have hkl : k < s.data.toList.length := by rw [HSL.out]; exact hk
      have hgk := get_list s k hk
      by_cases h61 : (s[k].toNat : Int) = 61
      · have g61 : ((s[k].toNat : Int) == 61) = true := beq_iff_eq.2 h61
        have ho := one_at hkl (by rw [hgk]; exact is61 h61) HN.out
        obtain ⟨⟨ka, oa⟩, hqa⟩ : ∃ q, rDecR (s.data.toList.take k) = q := ⟨_, rfl⟩
        obtain ⟨⟨kb, ob⟩, hqb⟩ : ∃ q, rDecR (s.data.toList.drop (k + 1)) = q := ⟨_, rfl⟩
        have HD1 := Lib.hid (fun W => rdecB (s.data.toList.take k) (by rw [List.length_take]; omega) W _ hqa)
        have HD2 := Lib.hid (fun W => rdecB (s.data.toList.drop (k + 1)) (by rw [List.length_drop, HSL.out]; omega) W _ hqb)
        rw [hqa, hqb] at ho
        have HE := Lib.hid ho
        have e1 : s.extract 0 k = bs (List.take k s.data.toList) := by rw [piece_bs]; rfl
        have e2 : s.extract (k + 1) s.size = bs (List.drop (k + 1) s.data.toList) := drop_bs s (k + 1)
        rw [← e1] at HD1
        rw [← e2] at HD2
        have j0 : (0 : Int) ≤ (k : Int) := by omega
        have j1 : (k : Int) ≤ (s.size : Int) := by omega
        have j2 : (0 : Int) ≤ (k : Int) + 1 := by omega
        have j3 : (k : Int) + 1 ≤ (s.size : Int) := by omega
        clear ho hqa hqb e1 e2 h61 hgk
        dsimp only at HD1 HD2 HE
        go_wp2_with fail
        refine (HD1.out _).mono ?_
        rintro e W2 ⟨rfl, hb⟩
        have HB2 := Lib.hid (fb2 HB0.out hb (Nat.le_refl _))
        have HK2 := Lib.hid (blk_on HK0.out hb (blk_lt HK0.out))
        clear hb
        go_wp2_with fail
        refine (HD2.out _).mono ?_
        rintro e W3 ⟨rfl, hb⟩
        have HB3 := Lib.hid (fb2 HB2.out hb (Nat.le_refl _))
        have HK3 := Lib.hid (blk_on HK2.out hb (blk_lt HK2.out))
        clear hb
        cases oa
        all_goals
          go_wp2_with (refine whole_abs 38 (.tmp 2) (.tmp 36) ⟨rfl, rfl⟩ X #[.string (bs ka), .string (bs kb)] rfl rfl 38 #[.string ⟨#[]⟩, .string ⟨#[]⟩] HK3.out (by kernel_rfl) rfl (two_one _ _) ?_; intro w9 hA9 hG9)
          have q0 : w9.cell? ⟨X, 0, none⟩ = some (.string (bs ka)) := (blk_cell hA9.out 0).trans rfl
          have q1 : w9.cell? ⟨X, 1, none⟩ = some (.string (bs kb)) := (blk_cell hA9.out 1).trans rfl
          have hb9 := HB3.out.grown hG9.out (by have := HX.out; have := HB3.out.size; omega) (fun q hq => by injection hq with hq; have := HX.out; omega)
        · refine bodyPost_ret (v := .tuple #[.agg #[.string (bs ka), .string (bs kb)], .bool false]) (by simp [results, Tryd.results28, q0, q1, go_sem]) rfl ⟨by rw [HE.out]; rfl, hb9⟩
        · refine bodyPost_ret (v := .tuple #[.agg #[.string (bs ka), .string (bs kb)], .bool ob]) (by simp [results, Tryd.results28, q0, q1, go_sem]) rfl ⟨by rw [HE.out]; rfl, hb9⟩
      · have g61 : ((s[k].toNat : Int) == 61) = false := beq_eq_false_iff_ne.2 h61
        have HN' := Lib.hid (one_next hkl (by rw [hgk]; exact not61 h61) HN.out)
        clear h61 hgk
        go_wp2
        go_roundg gg
        case measure => omega
        case rel => exact ⟨k + 1, by go_num, by omega, HN', Lib.hid rfl⟩
    · have HE := Lib.hid (one_end (by rw [HSL.out]; omega) HN.out)
      have k1 : ¬ (k : Int) < (s.size : Int) := by omega
      clear hk hkg
      go_wp2_with (refine whole_abs 38 (.tmp 2) (.tmp 41) ⟨rfl, rfl⟩ X #[.string ⟨#[]⟩, .string ⟨#[]⟩] rfl rfl 38 #[.string ⟨#[]⟩, .string ⟨#[]⟩] HK0.out (by kernel_rfl) rfl (two_one _ _) ?_; intro w9 hA9 hG9)
      have q0 : w9.cell? ⟨X, 0, none⟩ = some (.string ⟨#[]⟩) := (blk_cell hA9.out 0).trans rfl
      have q1 : w9.cell? ⟨X, 1, none⟩ = some (.string ⟨#[]⟩) := (blk_cell hA9.out 1).trans rfl
      refine bodyPost_ret (v := .tuple #[.agg #[.string ⟨#[]⟩, .string ⟨#[]⟩], .bool false]) (by simp [results, Tryd.results28, q0, q1, go_sem]) rfl ⟨by rw [HE.out]; rfl, HB0.out.grown hG9.out (by have := HX.out; have := HB0.out.size; omega) (fun q hq => by injection hq with hq; have := HX.out; omega)⟩

end Go.Proofs.YtnfmjkinahbilaaDoor
