/- The term that a text begins with, and the term whose text it is, by the document's own answers: what they come to, for every text. -/
import Derived.Test.YtgkpdcjkobieiaaDoorRefPrefix
namespace Go.Proofs.YtgkpdcjkobieiaaDoor
open Go.RowKit

theorem hp_cons (a c : UInt8) (r : List UInt8) : Lib.hasPrefix (a :: r) [c] = (c == a) := by
  show (c == a && true) = _; rw [Bool.and_true]
theorem prefix_iri (r : List UInt8) : (placeFrom 62 r 1 = -1 ∧ prefixS (60 :: r) = (noTerm, 0)) ∨
    (∃ N, 1 ≤ N ∧ N ≤ r.length ∧ placeFrom 62 r 1 = (N : Int) ∧ prefixS (60 :: r) = if iriL (r.take (N - 1)) = true then (⟨1, r.take (N - 1), [], []⟩, N + 1) else (noTerm, 0)) := by
  have hb := bracket_ref r
  have hp : prefixS (60 :: r) = if (bracketS (60 :: r)).2 = 0 then (noTerm, 0) else (⟨1, (bracketS (60 :: r)).1, [], []⟩, (bracketS (60 :: r)).2) := by
    unfold prefixS; rw [hp_cons]; rfl
  rcases place_spec 62 r 1 with ⟨h1, _⟩ | ⟨n, hn, h1, _, _⟩
  · left
    rw [h1, if_neg (fun c => by omega)] at hb
    exact ⟨h1, by rw [hp, hb]; rfl⟩
  · right
    refine ⟨1 + n, by omega, by omega, h1, ?_⟩
    rw [h1, show (((1 + n : Nat) : Int)).toNat = 1 + n by omega] at hb
    by_cases hi : iriL (r.take (1 + n - 1)) = true
    · rw [if_pos (show (0 : Int) < ((1 + n : Nat) : Int) ∧ _ from ⟨by omega, hi⟩)] at hb
      rw [hp, hb, if_pos hi]; simp
    · rw [if_neg (show ¬ ((0 : Int) < ((1 + n : Nat) : Int) ∧ iriL (r.take (1 + n - 1)) = true) from fun c => hi c.2)] at hb
      rw [hp, hb, if_neg hi]; rfl

theorem prefix_var (r : List UInt8) : prefixS (63 :: r) = namedS 4 (63 :: r) 1 := by
  unfold prefixS
  rw [hp_cons, hp_cons, show Lib.hasPrefix (63 :: r) [95, 58] = false from rfl]; rfl
theorem prefix_lit (r : List UInt8) : prefixS (34 :: r) = literalS (34 :: r) := by
  unfold prefixS
  rw [hp_cons, hp_cons, hp_cons, show Lib.hasPrefix (34 :: r) [95, 58] = false from rfl]; rfl
theorem prefix_blank (r : List UInt8) : prefixS (95 :: 58 :: r) = namedS 3 (95 :: 58 :: r) 2 := by
  unfold prefixS
  rw [hp_cons, show Lib.hasPrefix (95 :: 58 :: r) [95, 58] = true from by simp [Lib.hasPrefix]]; rfl
theorem prefix_under (b : UInt8) (r : List UInt8) (h : ¬ b = 58) : prefixS (95 :: b :: r) = (noTerm, 0) := by
  unfold prefixS
  rw [hp_cons, hp_cons, hp_cons, show Lib.hasPrefix (95 :: b :: r) [95, 58] = false from by
    show ((95 : UInt8) == 95 && ((58 : UInt8) == b && true)) = false
    rw [show ((58 : UInt8) == b) = false from beq_eq_false_iff_ne.2 (fun c => h c.symm)]; rfl]
  rfl
theorem prefix_else (a : UInt8) (r : List UInt8) (h1 : ¬ a = 60) (h2 : ¬ a = 95) (h3 : ¬ a = 63) (h4 : ¬ a = 34) : prefixS (a :: r) = (noTerm, 0) := by
  unfold prefixS
  rw [not_pre _ _ _ _ h1, not_pre _ _ _ _ h2, not_pre _ _ _ _ h3, not_pre _ _ _ _ h4]; rfl
theorem prefix_short (l : List UInt8) (h : l.length < 2) : prefixS l = (noTerm, 0) := by
  match l, h with
  | [], _ => rfl
  | [a], _ =>
    by_cases h1 : a = 60
    · subst h1; rfl
    · by_cases h2 : a = 63
      · subst h2; rfl
      · by_cases h3 : a = 34
        · subst h3; rfl
        · by_cases h4 : a = 95
          · subst h4; rfl
          · exact prefix_else a [] h1 h4 h2 h3

theorem list_cons2 (s : ByteArray) (h : 1 < s.size) : s.data.toList = s[0] :: s[1] :: s.data.toList.drop 2 := by
  rw [← get_list s 0 (by omega), ← get_list s 1 (by omega), ← List.drop_eq_getElem_cons (by simp; omega), ← List.drop_eq_getElem_cons (by simp; omega)]; rfl

set_option maxRecDepth 100000 in
set_option maxHeartbeats 2000000 in
theorem rPrefix_calls (s : ByteArray) (w : World) (hs : s.size ≤ 281474976710656) :
    Calls Tryd.prog 41 #[.string s] w fun e w' => e = .returned (.tuple #[(prefixS s.data.toList).1.v, .int .i64 (prefixS s.data.toList).2]) ∧ Below w.heap.size w w' := by
  by_cases h2 : s.size < 2
  · have HS := Lib.hid (prefix_short s.data.toList (by rw [← Lib.size_eq]; exact h2))
    go_enter Tryd.func41, Tryd.ntmps41
    go_wp2
    refine bodyPost_ret (v := .tuple #[noTerm.v, .int .i64 0]) (by simp [results, Tryd.results41, noTerm, TermL.v, bs_nil, go_sem]) rfl ⟨by rw [HS.out]; rfl, box_below _ _⟩
  have h0 : 0 < s.size := by omega
  have h1 : 1 < s.size := by omega
  have hl := list_cons s h0
  have hl2 := list_cons2 s h1
  by_cases e60 : (s[0].toNat : Int) = 60
  · have g60 : ((s[0].toNat : Int) == 60) = true := beq_iff_eq.2 e60
    rw [show s[0] = 60 from byte_eq (n := 60) (by omega) e60] at hl
    have hp : placeFrom 62 s.data.toList 0 = placeFrom 62 (s.data.toList.drop 1) 1 := by
      conv => lhs; rw [hl]
      simp [placeFrom]
    have hq := prefix_iri (s.data.toList.drop 1)
    rw [← hl] at hq
    clear hl hl2 e60
    rcases hq with ⟨hP, hS⟩ | ⟨N, hN1, hN2, hP, hS⟩
    · have HP := Lib.hid (hp.trans hP)
      have HS := Lib.hid hS
      clear hp hP hS
      go_enter Tryd.func41, Tryd.ntmps41
      go_wp2_with fail
      refine (place_calls _ _ _ (len_ok (by omega))).mono ?_
      rintro e w' ⟨rfl, hw⟩
      subst hw
      rw [HP.out]
      go_wp2
      refine bodyPost_ret (v := .tuple #[noTerm.v, .int .i64 0]) (by simp [results, Tryd.results41, noTerm, TermL.v, bs_nil, go_sem]) rfl ⟨by rw [HS.out]; rfl, box_below _ _⟩
    · have HP := Lib.hid (hp.trans hP)
      have HS := Lib.hid hS
      have hNs : N < s.size := by rw [List.length_drop, ← Lib.size_eq] at hN2; omega
      have HPB := Lib.hid (piece_bs s 1 N)
      clear hp hP hS hN2
      go_enter Tryd.func41, Tryd.ntmps41
      go_wp2_with fail
      refine (place_calls _ _ _ (len_ok (by omega))).mono ?_
      rintro e w' ⟨rfl, hw⟩
      subst hw
      rw [HP.out]
      go_wp2_with fail
      rw [HPB.out]
      refine (rIsIri_calls (bs _) _ (by rw [bs_size, List.length_take, List.length_drop, ← Lib.size_eq]; unfold maxLen; omega)).mono ?_
      rintro e w' ⟨rfl, hw⟩
      subst hw
      rw [bs_data]
      obtain ⟨G, hG⟩ : ∃ G, List.take (N - 1) (List.drop 1 s.data.toList) = G := ⟨_, rfl⟩
      rw [hG] at HS HPB
      rw [hG]
      clear hG
      cases hi : iriL G with
      | false =>
        have HS' := Lib.hid (HS.out.trans (if_neg (by rw [hi]; simp)))
        go_wp2
        refine bodyPost_ret (v := .tuple #[noTerm.v, .int .i64 0]) (by simp [results, Tryd.results41, noTerm, TermL.v, bs_nil, go_sem]) rfl ⟨by rw [HS'.out]; rfl, box_below _ _⟩
      | true =>
        have HS' := Lib.hid (HS.out.trans (if_pos hi))
        go_wp2
        refine bodyPost_ret (v := .tuple #[.agg #[.int .i64 1, .string (s.extract 1 N), .string ⟨#[]⟩, .string ⟨#[]⟩], .int .i64 (N + 1)]) (by simp [results, Tryd.results41, go_sem]) rfl ⟨by rw [HS'.out, HPB.out]; rfl, box_below _ _⟩
  have g60 : ((s[0].toNat : Int) == 60) = false := beq_eq_false_iff_ne.2 e60
  by_cases e34 : (s[0].toNat : Int) = 34
  · have g34 : ((s[0].toNat : Int) == 34) = true := beq_iff_eq.2 e34
    rw [show s[0] = 34 from byte_eq (n := 34) (by omega) e34] at hl
    have hS := prefix_lit (s.data.toList.drop 1)
    rw [← hl] at hS
    have HS := Lib.hid hS
    clear hl hl2 e60 e34 hS
    go_enter Tryd.func41, Tryd.ntmps41
    go_wp2_with fail
    refine (rliteral_calls _ _ hs (by omega)).mono ?_
    rintro e w1 ⟨rfl, hb1⟩
    obtain ⟨hc, hf⟩ := bcell hb1
    have hz : w.heap.size < w1.heap.size := by have := hb1.size; simp at this; omega
    generalize literalS s.data.toList = p at HS
    obtain ⟨⟨k, x, y, z⟩, n⟩ := p
    simp only [TermL.v]
    go_wp2
    refine bodyPost_ret (v := .tuple #[.agg #[.int .i64 k, .string (bs x), .string (bs y), .string (bs z)], .int .i64 n]) (by simp [results, Tryd.results41, hc, go_sem]) rfl ⟨by rw [HS.out]; rfl, ?_⟩
    exact ((((one_box hb1).setCell (Nat.le_refl _) _).setCell (Nat.le_refl _) _).setCell (Nat.le_refl _) _).setCell (Nat.le_refl _) _
  have g34 : ((s[0].toNat : Int) == 34) = false := beq_eq_false_iff_ne.2 e34
  by_cases e63 : (s[0].toNat : Int) = 63
  · have g63 : ((s[0].toNat : Int) == 63) = true := beq_iff_eq.2 e63
    rw [show s[0] = 63 from byte_eq (n := 63) (by omega) e63] at hl
    have hS := prefix_var (s.data.toList.drop 1)
    rw [← hl] at hS
    have hn : nameLead (s.data.toList.drop 1) ≤ s.size - 1 := lead_le_size _ s 1
    unfold namedS at hS
    obtain ⟨N, hN⟩ : ∃ N, nameLead (s.data.toList.drop 1) = N := ⟨_, rfl⟩
    rw [hN] at hS hn
    have HN := Lib.hid hN
    have HPB := Lib.hid (piece_bs s 1 (N + 1))
    clear hl hl2 e60 e34 e63 hN
    by_cases hz : N = 0
    · have HS := Lib.hid (hS.trans (if_pos hz))
      have gN : ¬ (0 : Int) < (N : Int) := by omega
      clear hS hz
      go_enter Tryd.func41, Tryd.ntmps41
      go_wp2_with fail
      rw [drop_bs s 1]
      refine (nameLen_calls (bs _) _ (by rw [bs_size, List.length_drop, ← Lib.size_eq]; omega)).mono ?_
      rintro e w' ⟨rfl, hw⟩
      subst hw
      rw [bs_data, HN.out]
      go_wp2
      refine bodyPost_ret (v := .tuple #[noTerm.v, .int .i64 0]) (by simp [results, Tryd.results41, noTerm, TermL.v, bs_nil, go_sem]) rfl ⟨by rw [HS.out]; rfl, box_below _ _⟩
    · have HS := Lib.hid (hS.trans (if_neg hz))
      have gN : (0 : Int) < (N : Int) := by omega
      clear hS
      go_enter Tryd.func41, Tryd.ntmps41
      go_wp2_with fail
      rw [drop_bs s 1]
      refine (nameLen_calls (bs _) _ (by rw [bs_size, List.length_drop, ← Lib.size_eq]; omega)).mono ?_
      rintro e w' ⟨rfl, hw⟩
      subst hw
      rw [bs_data, HN.out]
      go_wp2
      refine bodyPost_ret (v := .tuple #[.agg #[.int .i64 4, .string (s.extract 1 (N + 1)), .string ⟨#[]⟩, .string ⟨#[]⟩], .int .i64 (N + 1)]) (by simp [results, Tryd.results41, go_sem]) rfl ⟨?_, box_below _ _⟩
      rw [HS.out, HPB.out, show N + 1 - 1 = N by omega, show ((N : Int) + 1) = ((1 + N : Nat) : Int) by omega]; rfl
  have g63 : ((s[0].toNat : Int) == 63) = false := beq_eq_false_iff_ne.2 e63
  by_cases e95 : (s[0].toNat : Int) = 95
  · have g95 : ((s[0].toNat : Int) == 95) = true := beq_iff_eq.2 e95
    rw [show s[0] = 95 from byte_eq (n := 95) (by omega) e95] at hl2
    have hn : nameLead (s.data.toList.drop 2) ≤ s.size - 2 := lead_le_size _ s 2
    obtain ⟨N, hN⟩ : ∃ N, nameLead (s.data.toList.drop 2) = N := ⟨_, rfl⟩
    have HN := Lib.hid hN
    have HPB := Lib.hid (piece_bs s 2 (N + 2))
    by_cases e58 : (s[1].toNat : Int) = 58
    · have g58 : ((s[1].toNat : Int) == 58) = true := beq_iff_eq.2 e58
      rw [show s[1] = 58 from byte_eq (n := 58) (by omega) e58] at hl2
      have hS := prefix_blank (s.data.toList.drop 2)
      rw [← hl2] at hS
      unfold namedS at hS
      rw [hN] at hS hn
      clear hl hl2 e60 e34 e63 e95 e58 hN
      by_cases hz : N = 0
      · have HS := Lib.hid (hS.trans (if_pos hz))
        have gN : ¬ (0 : Int) < (N : Int) := by omega
        clear hS hz
        go_enter Tryd.func41, Tryd.ntmps41
        go_wp2_with fail
        rw [drop_bs s 2]
        refine (nameLen_calls (bs _) _ (by rw [bs_size, List.length_drop, ← Lib.size_eq]; omega)).mono ?_
        rintro e w' ⟨rfl, hw⟩
        subst hw
        rw [bs_data, HN.out]
        go_wp2
        refine bodyPost_ret (v := .tuple #[noTerm.v, .int .i64 0]) (by simp [results, Tryd.results41, noTerm, TermL.v, bs_nil, go_sem]) rfl ⟨by rw [HS.out]; rfl, box_below _ _⟩
      · have HS := Lib.hid (hS.trans (if_neg hz))
        have gN : (0 : Int) < (N : Int) := by omega
        clear hS
        go_enter Tryd.func41, Tryd.ntmps41
        go_wp2_with fail
        rw [drop_bs s 2]
        refine (nameLen_calls (bs _) _ (by rw [bs_size, List.length_drop, ← Lib.size_eq]; omega)).mono ?_
        rintro e w' ⟨rfl, hw⟩
        subst hw
        rw [bs_data, HN.out]
        go_wp2
        refine bodyPost_ret (v := .tuple #[.agg #[.int .i64 3, .string (s.extract 2 (N + 2)), .string ⟨#[]⟩, .string ⟨#[]⟩], .int .i64 (N + 2)]) (by simp [results, Tryd.results41, go_sem]) rfl ⟨?_, box_below _ _⟩
        rw [HS.out, HPB.out, show N + 2 - 2 = N by omega, show ((N : Int) + 2) = ((2 + N : Nat) : Int) by omega]; rfl
    · have g58 : ((s[1].toNat : Int) == 58) = false := beq_eq_false_iff_ne.2 e58
      have hS := prefix_under s[1] (s.data.toList.drop 2) (fun c => e58 (by rw [c]; rfl))
      rw [← hl2] at hS
      have HS := Lib.hid hS
      clear hl hl2 e60 e34 e63 e95 e58 hN hS
      go_enter Tryd.func41, Tryd.ntmps41
      go_wp2_with fail
      rw [drop_bs s 2]
      refine (nameLen_calls (bs _) _ (by rw [bs_size, List.length_drop, ← Lib.size_eq]; omega)).mono ?_
      rintro e w' ⟨rfl, hw⟩
      subst hw
      rw [bs_data, HN.out]
      go_wp2
      refine bodyPost_ret (v := .tuple #[noTerm.v, .int .i64 0]) (by simp [results, Tryd.results41, noTerm, TermL.v, bs_nil, go_sem]) rfl ⟨by rw [HS.out]; rfl, box_below _ _⟩
  · have g95 : ((s[0].toNat : Int) == 95) = false := beq_eq_false_iff_ne.2 e95
    have hS := prefix_else s[0] (s.data.toList.drop 1) (fun c => e60 (by rw [c]; rfl)) (fun c => e95 (by rw [c]; rfl)) (fun c => e63 (by rw [c]; rfl)) (fun c => e34 (by rw [c]; rfl))
    rw [← hl] at hS
    have HS := Lib.hid hS
    clear hl hl2 e60 e34 e63 e95 hS
    go_enter Tryd.func41, Tryd.ntmps41
    go_wp2
    refine bodyPost_ret (v := .tuple #[noTerm.v, .int .i64 0]) (by simp [results, Tryd.results41, noTerm, TermL.v, bs_nil, go_sem]) rfl ⟨by rw [HS.out]; rfl, box_below _ _⟩

end Go.Proofs.YtgkpdcjkobieiaaDoor
