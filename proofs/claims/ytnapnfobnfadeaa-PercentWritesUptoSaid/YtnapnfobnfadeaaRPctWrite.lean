/- Pairs, written, by the document's own answer. -/
import Derived.Test.YtnapnfobnfadeaaRPctEnc
import Derived.Test.YtnapnfobnfadeaaPctMake
import Derived.Lib.QuietBelow
namespace Go.Proofs.Ytnapnfobnfadeaa
open Go.RowKit Go.Sort

theorem wr_first {L : List PairL} (h : 0 < L.length) : wrS (L.take 1) = wr1 L[0] := by
  cases L with
  | nil => simp at h
  | cons p r => simp [wrS]
theorem wr_next {L : List PairL} {k : Nat} (h : k < L.length) (h0 : 0 < k) : wrS (L.take (k + 1)) = wrS (L.take k) ++ 38 :: wr1 L[k] := by
  rw [List.take_succ_eq_append_getElem h]
  match hq : L.take k with
  | [] =>
    have := congrArg List.length hq
    rw [List.length_take, List.length_nil] at this
    omega
  | p :: r => exact wrS_more p r L[k]
theorem wr_bs (p : PairL) : bs (wr1 p) = bs (encS p.k) ++ ⟨#[61]⟩ ++ bs (encS p.v) := by
  show _ = bs (encS p.k) ++ bs [61] ++ bs (encS p.v)
  rw [bs_app, bs_app]; unfold wr1; simp
theorem wr_bs1 {L : List PairL} {k : Nat} (h : k < L.length) (h0 : k = 0) {O A B : ByteArray} (ho : bs (wrS (L.take k)) = O) (ha : bs (encS L[k].k) = A) (hb : bs (encS L[k].v) = B) : bs (wrS (L.take (k + 1))) = O ++ A ++ ⟨#[61]⟩ ++ B := by
  subst h0
  rw [wr_first h, ← ho, ← ha, ← hb]
  show _ = bs [] ++ bs (encS L[0].k) ++ bs [61] ++ bs (encS L[0].v)
  rw [bs_app, bs_app, bs_app]
  unfold wr1; simp
theorem wr_bs2 {L : List PairL} {k : Nat} (h : k < L.length) (h0 : 0 < k) {O A B : ByteArray} (ho : bs (wrS (L.take k)) = O) (ha : bs (encS L[k].k) = A) (hb : bs (encS L[k].v) = B) : bs (wrS (L.take (k + 1))) = O ++ ⟨#[38]⟩ ++ A ++ ⟨#[61]⟩ ++ B := by
  rw [wr_next h h0, ← ho, ← ha, ← hb]
  show _ = bs (wrS (L.take k)) ++ bs [38] ++ bs (encS L[k].k) ++ bs [61] ++ bs (encS L[k].v)
  rw [bs_app, bs_app, bs_app, bs_app]
  unfold wr1; simp

set_option maxRecDepth 100000 in
set_option maxHeartbeats 4000000 in
theorem rWrite_calls (L : List PairL) (a : Option Addr) (n c : Nat) (w : World) (ha : PrA w a n c L) (hM : ∀ p ∈ L, p.k.length ≤ 1048576 ∧ p.v.length ≤ 1048576) (h6 : n ≤ 64) :
    Calls Try.prog 14 #[.slice a n c] w fun e w' => e = .returned (.string (bs (wrS L))) ∧ Below w.heap.size w w' := by
  have HA := Lib.hid ha
  have HL := Lib.hid ha.len
  have HM := Lib.hid hM
  have hc := ha.cap; have hm := ha.most
  unfold maxLen at hm
  clear ha hM
  go_enter Try.func14, Try.ntmps14
  go_wp2
  go_loopg [3, 4] n (fun g o i wr => ∃ (k : Nat) (O : ByteArray), i = .int .i64 k ∧ o = .string O ∧ k + g = n ∧ Hid (bs (wrS (L.take k)) = O) ∧ Hid (Below w.heap.size w wr))
  case atStart => exact ⟨0, ⟨#[]⟩, rfl, rfl, by omega, Lib.hid rfl, Lib.hid (Below.refl _ _)⟩
  case round =>
    obtain ⟨W1, rfl⟩ : ∃ W1, W1 = wr := ⟨_, rfl⟩
    obtain ⟨k, O, rfl, rfl, hkg, HO, HW⟩ := hrel
    have k0 : (0 : Int) ≤ (k : Int) := by omega
    have hos : O.size ≤ 402653312 := by
      rw [← HO.out, bs_size]
      have h1 := wrS_len 1048576 (L.take k) fun p hp => HM.out p (List.mem_of_mem_take hp)
      have h2 : (L.take k).length ≤ 64 := by rw [List.length_take, HL.out]; omega
      have h3 := Nat.mul_le_mul_right (6 * 1048576 + 2) h2
      omega
    by_cases hk : k < n
    · obtain ⟨gg, rfl⟩ : ∃ gg, gk = gg + 1 := ⟨gk - 1, by omega⟩
      have hkL : k < L.length := by rw [HL.out]; exact hk
      obtain ⟨g, o, rfl, hg, hcells⟩ := HA.out.cells (by omega)
      obtain ⟨c0', c1'⟩ := (hcells k hkL).on HW.out hg
      obtain ⟨hmk, hmv⟩ := HM.out L[k] (List.getElem_mem hkL)
      have e1 := encS_len L[k].k
      have e2 := encS_len L[k].v
      have c0 : ∀ d os, (grow (redrawn W1 d) os).cell? ⟨g, o + k * 2, none⟩ = some (.string (bs L[k].k)) := fun d os => cell_regrown c0' d os
      have c1 : ∀ d os, (grow (redrawn W1 d) os).cell? ⟨g, o + k * 2 + 1, none⟩ = some (.string (bs L[k].v)) := fun d os => cell_regrown c1' d os
      obtain ⟨A, hA⟩ : ∃ A, bs (encS L[k].k) = A := ⟨_, rfl⟩
      obtain ⟨B, hB⟩ : ∃ B, bs (encS L[k].v) = B := ⟨_, rfl⟩
      have cA : ∀ d os, Calls Try.prog 10 #[.string (bs L[k].k)] (grow (redrawn W1 d) os) fun e w'' => e = .returned (.string A) ∧ ∃ p : Regrown, w'' = grow (redrawn W1 p.d) p.os := fun d os => Calls.regrown_of (by
        have := rEncode_calls (bs L[k].k) (grow (redrawn W1 d) os) (by rw [bs_size]; omega)
        rw [show (bs L[k].k).data.toList = L[k].k from rfl, hA] at this
        exact this)
      have cB : ∀ d os, Calls Try.prog 10 #[.string (bs L[k].v)] (grow (redrawn W1 d) os) fun e w'' => e = .returned (.string B) ∧ ∃ p : Regrown, w'' = grow (redrawn W1 p.d) p.os := fun d os => Calls.regrown_of (by
        have := rEncode_calls (bs L[k].v) (grow (redrawn W1 d) os) (by rw [bs_size]; omega)
        rw [show (bs L[k].v).data.toList = L[k].v from rfl, hB] at this
        exact this)
      have hAs : A.size ≤ 3145728 := by rw [← hA, bs_size]; omega
      have hBs : B.size ≤ 3145728 := by rw [← hB, bs_size]; omega
      have k1 : (k : Int) < (n : Int) := by omega
      by_cases h0 : 0 < k
      · have HN := Lib.hid (wr_bs2 hkL h0 HO.out hA hB)
        have j0 : (0 : Int) < (k : Int) := by omega
        have j1 : O.size + 1 ≤ 281474976710656 := by omega
        have j2 : O.size + 1 + A.size ≤ 281474976710656 := by omega
        have j3 : O.size + 1 + A.size + 1 ≤ 281474976710656 := by omega
        have j4 : O.size + 1 + A.size + 1 + B.size ≤ 281474976710656 := by omega
        have s1 : (O ++ (⟨#[38]⟩ : ByteArray)).size = O.size + 1 := ByteArray.size_append
        have s2 : (O ++ (⟨#[38]⟩ : ByteArray) ++ A).size = O.size + 1 + A.size := by rw [ByteArray.size_append, s1]
        have s3 : (O ++ (⟨#[38]⟩ : ByteArray) ++ A ++ (⟨#[61]⟩ : ByteArray)).size = O.size + 1 + A.size + 1 := by rw [ByteArray.size_append, s2]; rfl
        have q2 : ∀ W : World, (Op.stringOp .add (O ++ (⟨#[38]⟩ : ByteArray)) A).run Try.prog W = .ok (.string (O ++ (⟨#[38]⟩ : ByteArray) ++ A)) W := fun W => run_string_add_sum W _ _ (by rw [s1]; omega)
        have q3 : ∀ W : World, (Op.stringOp .add (O ++ (⟨#[38]⟩ : ByteArray) ++ A) ⟨#[61]⟩).run Try.prog W = .ok (.string (O ++ (⟨#[38]⟩ : ByteArray) ++ A ++ (⟨#[61]⟩ : ByteArray))) W := fun W => run_string_add_sum W _ _ (by rw [s2]; show _ + 1 ≤ 9223372036854775807; omega)
        have q4 : ∀ W : World, (Op.stringOp .add (O ++ (⟨#[38]⟩ : ByteArray) ++ A ++ (⟨#[61]⟩ : ByteArray)) B).run Try.prog W = .ok (.string (O ++ (⟨#[38]⟩ : ByteArray) ++ A ++ (⟨#[61]⟩ : ByteArray) ++ B)) W := fun W => run_string_add_sum W _ _ (by rw [s3]; omega)
        clear s1 s2 s3
        clear hcells c0' c1' hmk hmv e1 e2 hA hB
        generalize bs L[k].k = sk at c0 cA
        generalize bs L[k].v = sv at c1 cB
        go_wp2_with fail
        refine wp_region_quiet_below (by kernel_rfl) (by kernel_rfl) ?_
        repeat (quiet_step (first | with_reducible exact cA _ _ | with_reducible exact cB _ _))
        refine wpQuiet_nil ?_
        intro _ hw'
        obtain ⟨⟨dq, osq⟩, hw''⟩ := hw'
        subst hw''
        have HBQ := Lib.hid (below_regrown W1 dq osq)
        obtain ⟨W2, hW2⟩ : ∃ W2, grow (redrawn W1 dq) osq = W2 := ⟨_, rfl⟩
        rw [hW2] at HBQ ⊢
        clear c0 c1 cA cB hW2
        go_wp2
        go_roundg gg
        case measure => omega
        case rel => exact ⟨k + 1, _, by go_num, rfl, by omega, HN, Lib.hid (fb2 HW.out HBQ.out (Nat.le_refl _))⟩
      · have HN := Lib.hid (wr_bs1 hkL (by omega) HO.out hA hB)
        have j0 : ¬ (0 : Int) < (k : Int) := by omega
        have s2 : (O ++ A).size = O.size + A.size := ByteArray.size_append
        have s3 : (O ++ A ++ (⟨#[61]⟩ : ByteArray)).size = O.size + A.size + 1 := by rw [ByteArray.size_append, s2]; rfl
        have q2 : ∀ W : World, (Op.stringOp .add O A).run Try.prog W = .ok (.string (O ++ A)) W := fun W => run_string_add_sum W _ _ (by omega)
        have q3 : ∀ W : World, (Op.stringOp .add (O ++ A) ⟨#[61]⟩).run Try.prog W = .ok (.string (O ++ A ++ (⟨#[61]⟩ : ByteArray))) W := fun W => run_string_add_sum W _ _ (by rw [s2]; show _ + 1 ≤ 9223372036854775807; omega)
        have q4 : ∀ W : World, (Op.stringOp .add (O ++ A ++ (⟨#[61]⟩ : ByteArray)) B).run Try.prog W = .ok (.string (O ++ A ++ (⟨#[61]⟩ : ByteArray) ++ B)) W := fun W => run_string_add_sum W _ _ (by rw [s3]; omega)
        clear s2 s3
        clear hcells c0' c1' hmk hmv e1 e2 hA hB
        generalize bs L[k].k = sk at c0 cA
        generalize bs L[k].v = sv at c1 cB
        go_wp2_with fail
        refine wp_region_quiet_below (by kernel_rfl) (by kernel_rfl) ?_
        repeat (quiet_step (first | with_reducible exact cA _ _ | with_reducible exact cB _ _))
        refine wpQuiet_nil ?_
        intro _ hw'
        obtain ⟨⟨dq, osq⟩, hw''⟩ := hw'
        subst hw''
        have HBQ := Lib.hid (below_regrown W1 dq osq)
        obtain ⟨W2, hW2⟩ : ∃ W2, grow (redrawn W1 dq) osq = W2 := ⟨_, rfl⟩
        rw [hW2] at HBQ ⊢
        clear c0 c1 cA cB hW2
        go_wp2
        go_roundg gg
        case measure => omega
        case rel => exact ⟨k + 1, _, by go_num, rfl, by omega, HN, Lib.hid (fb2 HW.out HBQ.out (Nat.le_refl _))⟩
    · have k1 : ¬ (k : Int) < (n : Int) := by omega
      have HE := Lib.hid (show bs (wrS L) = O by have := HO.out; rw [List.take_of_length_le (by rw [HL.out]; omega)] at this; exact this)
      go_wp2
      go_ret
      exact ⟨by rw [HE.out]; rfl, HW.out⟩

end Go.Proofs.Ytnapnfobnfadeaa
