/- Two slices that read as the same pairs: the document's Same tells so. The value of a key: package percent's Get and the document's own. -/
import Derived.Test.YtnapnfobnfadeaaPctStore
import Derived.Deep.QuietTactic
import Derived.BigQuiet
namespace Go.Proofs.Ytnapnfobnfadeaa
open Go.RowKit

set_option maxRecDepth 100000 in
set_option maxHeartbeats 2000000 in
theorem same_calls (L : List PairL) (a b : Option Addr) (n c d : Nat) (w : World) (ha : PrA w a n c L) (hb : PrA w b n d L) :
    Calls Try.prog 16 #[.slice a n c, .slice b n d] w fun e w' => e = .returned (.bool true) ∧ Below w.heap.size w w' := by
  have HA := Lib.hid ha
  have HB := Lib.hid hb
  have HL := Lib.hid ha.len
  have hc := ha.cap; have hm := ha.most; have hd := hb.cap; have hm2 := hb.most
  unfold maxLen at hm hm2
  clear ha hb
  go_enter Try.func16, Try.ntmps16
  go_wp2
  go_loopg [5] n (fun g i wr => ∃ k : Nat, i = .int .i64 k ∧ k + g = n ∧ Hid (Below w.heap.size w wr))
  case atStart => exact ⟨0, rfl, by omega, Lib.hid (Below.refl _ _)⟩
  case round =>
    obtain ⟨W1, rfl⟩ : ∃ W1, W1 = wr := ⟨_, rfl⟩
    obtain ⟨k, rfl, hkg, HW⟩ := hrel
    have k0 : (0 : Int) ≤ (k : Int) := by omega
    by_cases hk : k < n
    · obtain ⟨gg, rfl⟩ : ∃ gg, gk = gg + 1 := ⟨gk - 1, by omega⟩
      have hkL : k < L.length := by rw [HL.out]; exact hk
      obtain ⟨g, o, rfl, hg, hcells⟩ := HA.out.cells (by omega)
      obtain ⟨g', o', rfl, hg', hcells'⟩ := HB.out.cells (by omega)
      obtain ⟨c0, c1⟩ := (hcells k hkL).on HW.out hg
      obtain ⟨d0, d1⟩ := (hcells' k hkL).on HW.out hg'
      clear hcells hcells'
      generalize L[k] = t at c0 c1 d0 d1
      obtain ⟨tk, tv⟩ := t
      dsimp only at c0 c1 d0 d1
      generalize bs tk = sk at c0 d0
      generalize bs tv = sv at c1 d1
      have k1 : (k : Int) < (n : Int) := by omega
      go_wp2
      go_quiet (fail)
      go_wp2
      go_roundg gg
      case measure => omega
      case rel => exact ⟨k + 1, by go_num, by omega, Lib.hid (drewN_below HW.out _)⟩
    · have k1 : ¬ (k : Int) < (n : Int) := by omega
      go_wp2
      go_ret
      exact ⟨rfl, HW.out⟩

theorem texts_is (a b : List UInt8) : ((bs a).toList == (bs b).toList) = decide (a = b) := by
  rw [bs_toList, bs_toList]
  by_cases h : a = b
  · subst h; simp
  · rw [decide_eq_false h]; exact beq_eq_false_iff_ne.2 h
theorem get_next {L : List PairL} {i : Nat} (h : i < L.length) (k : List UInt8) {n : Nat} {v : List UInt8} (hg : getN (L.take i) k = (n, v)) : getN (L.take (i + 1)) k = if L[i].k = k then (n + 1, L[i].v) else (n, v) := by
  rw [List.take_succ_eq_append_getElem h, getN_more, hg]
def GetT (w : World) (q : List UInt8 × Int) (e : Ending) (w' : World) : Prop := e = .returned (.tuple #[.string (bs q.1), .int .i64 q.2]) ∧ Below w.heap.size w w'
theorem getS_one {L : List PairL} {k v : List UInt8} (h : getN L k = (1, v)) : getS L k = (v, 0) := by unfold getS; rw [h]; rfl
theorem getS_no {L : List PairL} {k v : List UInt8} {n : Nat} (h : getN L k = (n, v)) (hn : ¬ n = 1) : getS L k = ([], 2) := by unfold getS; rw [h, if_neg hn]
theorem getN_take {L : List PairL} {i : Nat} {k : List UInt8} {q : Nat × List UInt8} (hi : L.length ≤ i) (h : getN (L.take i) k = q) : getN L k = q := by rw [List.take_of_length_le hi] at h; exact h

theorem text_is (a : List UInt8) (b : ByteArray) : ((bs a).toList == b.toList) = decide (a = b.data.toList) := texts_is a b.data.toList

set_option maxRecDepth 100000 in
set_option maxHeartbeats 2000000 in
theorem rGet_calls (L : List PairL) (key : ByteArray) (a : Option Addr) (n c : Nat) (w : World) (ha : PrA w a n c L) :
    Calls Try.prog 19 #[.slice a n c, .string key] w (GetT w (getS L key.data.toList)) := by
  have HA := Lib.hid ha
  have HL := Lib.hid ha.len
  have hc := ha.cap; have hm := ha.most
  unfold maxLen at hm
  clear ha
  go_enter Try.func19, Try.ntmps19
  go_wp2
  go_loopg [6, 7, 8] n (fun g o m i wr => ∃ (k j : Nat) (v : List UInt8), i = .int .i64 k ∧ m = .int .i64 j ∧ o = .string (bs v) ∧ k + g = n ∧ j ≤ k ∧ Hid (getN (L.take k) key.data.toList = (j, v)) ∧ Hid (Below w.heap.size w wr))
  case atStart => exact ⟨0, 0, [], rfl, rfl, rfl, by omega, Nat.le_refl _, Lib.hid rfl, Lib.hid (Below.refl _ _)⟩
  case round =>
    obtain ⟨W1, rfl⟩ : ∃ W1, W1 = wr := ⟨_, rfl⟩
    obtain ⟨k, j, v, rfl, rfl, rfl, hkg, hjk, HN, HW⟩ := hrel
    have k0 : (0 : Int) ≤ (k : Int) := by omega
    by_cases hk : k < n
    · obtain ⟨gg, rfl⟩ : ∃ gg, gk = gg + 1 := ⟨gk - 1, by omega⟩
      have hkL : k < L.length := by rw [HL.out]; exact hk
      obtain ⟨g, o, rfl, hg, hcells⟩ := HA.out.cells (by omega)
      obtain ⟨c0, c1⟩ := (hcells k hkL).on HW.out hg
      have hnx := get_next hkL key.data.toList HN.out
      clear hcells
      generalize L[k] = t at c0 c1 hnx
      obtain ⟨tk, tv⟩ := t
      dsimp only at c0 c1 hnx
      have he := text_is tk key
      have k1 : (k : Int) < (n : Int) := by omega
      by_cases hq : tk = key.data.toList
      · rw [if_pos hq] at hnx
        rw [decide_eq_true hq] at he
        have HX := Lib.hid hnx
        clear hnx hq
        generalize bs tk = sk at c0 he
        go_wp2
        go_roundg gg
        case measure => omega
        case rel => exact ⟨k + 1, j + 1, tv, by go_num, by go_num, rfl, by omega, by omega, HX, HW⟩
      · rw [if_neg hq] at hnx
        rw [decide_eq_false hq] at he
        have HX := Lib.hid hnx
        clear hnx hq
        generalize bs tk = sk at c0 he
        go_wp2
        go_roundg gg
        case measure => omega
        case rel => exact ⟨k + 1, j, v, by go_num, rfl, rfl, by omega, by omega, HX, HW⟩
    · have k1 : ¬ (k : Int) < (n : Int) := by omega
      have hend := getN_take (by rw [HL.out]; omega) HN.out
      by_cases h1 : j = 1
      · have HE := Lib.hid (getS_one (by rw [hend, h1]))
        have g1 : ((j : Int) == 1) = true := by rw [h1]; rfl
        clear hend h1
        go_wp2
        go_ret2
        exact ⟨by rw [HE.out]; rfl, HW.out⟩
      · have HE := Lib.hid (getS_no hend h1)
        have g1 : ((j : Int) == 1) = false := beq_eq_false_iff_ne.2 (by omega)
        clear hend h1
        go_wp2
        go_ret2
        exact ⟨by rw [HE.out]; rfl, HW.out⟩

set_option maxRecDepth 100000 in
set_option maxHeartbeats 2000000 in
theorem pGet_calls (L : List PairL) (key : ByteArray) (a : Option Addr) (n c : Nat) (w : World) (ha : PrA w a n c L) :
    Calls Try.prog 18 #[.slice a n c, .string key] w (GetT w (getS L key.data.toList)) := by
  have HA := Lib.hid ha
  have HL := Lib.hid ha.len
  have hc := ha.cap; have hm := ha.most
  unfold maxLen at hm
  clear ha
  go_enter Try.func18, Try.ntmps18
  go_wp2
  go_loopg [6, 7, 12] n (fun g o m i wr => ∃ (k j : Nat) (v : List UInt8), i = .int .i64 k ∧ m = .int .i64 j ∧ o = .string (bs v) ∧ k + g = n ∧ j ≤ k ∧ Hid (getN (L.take k) key.data.toList = (j, v)) ∧ Hid (Below w.heap.size w wr))
  case atStart => exact ⟨0, 0, [], rfl, rfl, rfl, by omega, Nat.le_refl _, Lib.hid rfl, Lib.hid (Below.refl _ _)⟩
  case round =>
    obtain ⟨W1, rfl⟩ : ∃ W1, W1 = wr := ⟨_, rfl⟩
    obtain ⟨k, j, v, rfl, rfl, rfl, hkg, hjk, HN, HW⟩ := hrel
    have k0 : (0 : Int) ≤ (k : Int) := by omega
    by_cases hk : k < n
    · obtain ⟨gg, rfl⟩ : ∃ gg, gk = gg + 1 := ⟨gk - 1, by omega⟩
      have hkL : k < L.length := by rw [HL.out]; exact hk
      obtain ⟨g, o, rfl, hg, hcells⟩ := HA.out.cells (by omega)
      obtain ⟨c0, c1⟩ := (hcells k hkL).on HW.out hg
      have hnx := get_next hkL key.data.toList HN.out
      clear hcells
      generalize L[k] = t at c0 c1 hnx
      obtain ⟨tk, tv⟩ := t
      dsimp only at c0 c1 hnx
      have he := text_is tk key
      have k1 : (k : Int) < (n : Int) := by omega
      by_cases hq : tk = key.data.toList
      · rw [if_pos hq] at hnx
        rw [decide_eq_true hq] at he
        have HX := Lib.hid hnx
        clear hnx hq
        generalize bs tk = sk at c0 he
        go_wp2
        go_roundg gg
        case measure => omega
        case rel => exact ⟨k + 1, j + 1, tv, by go_num, by go_num, rfl, by omega, by omega, HX, Lib.hid (HW.out.alloc HW.out.size _)⟩
      · rw [if_neg hq] at hnx
        rw [decide_eq_false hq] at he
        have HX := Lib.hid hnx
        clear hnx hq
        generalize bs tk = sk at c0 he
        go_wp2
        go_roundg gg
        case measure => omega
        case rel => exact ⟨k + 1, j, v, by go_num, rfl, rfl, by omega, by omega, HX, Lib.hid (HW.out.alloc HW.out.size _)⟩
    · have k1 : ¬ (k : Int) < (n : Int) := by omega
      have hend := getN_take (by rw [HL.out]; omega) HN.out
      by_cases h1 : j = 1
      · have HE := Lib.hid (getS_one (by rw [hend, h1]))
        have g1 : ((j : Int) != 1) = false := by rw [h1]; rfl
        clear hend h1
        go_wp2
        go_ret2
        exact ⟨by rw [HE.out]; rfl, HW.out⟩
      · have HE := Lib.hid (getS_no hend h1)
        have g1 : ((j : Int) != 1) = true := by simp; omega
        clear hend h1
        go_wp2
        go_ret2
        exact ⟨by rw [HE.out]; rfl, HW.out⟩

end Go.Proofs.Ytnapnfobnfadeaa
