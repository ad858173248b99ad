/- The type, or the language, behind a literal, by the document's own answer: what it comes to, for every text. -/
import Derived.Test.YtgkpdcjkobieiaaDoorRefLits
import Derived.Test.YtgkpdcjkobieiaaDoorTermCompare
import Derived.RegionTactic
namespace Go.Proofs.YtgkpdcjkobieiaaDoor
open Go.RowKit

theorem place_from3 (r : List UInt8) : placeFrom 62 (94 :: 94 :: 60 :: r) 0 = placeFrom 62 r 3 := by
  simp [placeFrom]

theorem tagS_caret (r : List UInt8) : (placeFrom 62 r 3 = -1 ∧ tagS (94 :: 94 :: 60 :: r) = ([], [], 0)) ∨
    (∃ n, n < r.length ∧ placeFrom 62 r 3 = ((3 + n : Nat) : Int) ∧ tagS (94 :: 94 :: 60 :: r) = if iriL (r.take n) = true then (r.take n, [], n + 4) else ([], [], 0)) := by
  have hp : Lib.hasPrefix (94 :: 94 :: 60 :: r) [94, 94] = true := by simp [Lib.hasPrefix]
  have ht : tagS (94 :: 94 :: 60 :: r) = ((typeS (94 :: 94 :: 60 :: r)).1, [], (typeS (94 :: 94 :: 60 :: r)).2) := by unfold tagS; rw [if_pos hp]
  have hb := bracket_ref r
  have hty : typeS (94 :: 94 :: 60 :: r) = if (bracketS (60 :: r)).2 = 0 then ([], 0) else ((bracketS (60 :: r)).1, (bracketS (60 :: r)).2 + 2) := rfl
  rcases place_spec 62 r 1 with ⟨h1, h2⟩ | ⟨n, hn, h1, h2, h3⟩
  · left
    rcases place_spec 62 r 3 with ⟨g1, _⟩ | ⟨m, hm, g1, g2, _⟩
    · refine ⟨g1, ?_⟩
      rw [h1, if_neg (fun c => by omega)] at hb
      rw [ht, hty, hb]; rfl
    · exact absurd g2 (h2 m hm)
  · right
    rcases place_spec 62 r 3 with ⟨_, g2⟩ | ⟨m, hm, g1, g2, g3⟩
    · exact absurd h2 (g2 n hn)
    · have e : m = n := by
        rcases Nat.lt_trichotomy m n with c | c | c
        · exact absurd g2 (h3 m c)
        · exact c
        · exact absurd h2 (g3 n c)
      subst e
      refine ⟨m, hm, g1, ?_⟩
      rw [h1, show (((1 + m : Nat) : Int)).toNat - 1 = m by omega, show (((1 + m : Nat) : Int)).toNat + 1 = m + 2 by omega] at hb
      by_cases hi : iriL (r.take m) = true
      · rw [if_pos (show (0 : Int) < ((1 + m : Nat) : Int) ∧ _ from ⟨by omega, hi⟩)] at hb
        rw [ht, hty, hb, if_pos hi]; simp
      · rw [if_neg (show ¬ ((0 : Int) < ((1 + m : Nat) : Int) ∧ iriL (r.take m) = true) from fun c => hi c.2)] at hb
        rw [ht, hty, hb, if_neg hi]; rfl

theorem tagS_none (l : List UInt8) (h1 : Lib.hasPrefix l [94, 94, 60] = false) (h2 : Lib.hasPrefix l [64] = false) : tagS l = ([], [], 0) := by
  unfold tagS
  rw [h2]
  by_cases h : Lib.hasPrefix l [94, 94] = true
  · rw [if_pos h]
    have hb : bracketS (l.drop 2) = ([], 0) := by
      unfold bracketS
      rw [if_neg]
      intro c
      have : Lib.hasPrefix l [94, 94, 60] = true := by
        match l, h, c with
        | a :: b :: d :: r, h, c =>
          simp [Lib.hasPrefix] at h c ⊢
          exact ⟨h.1, h.2, c⟩
        | [], h, _ => simp [Lib.hasPrefix] at h
        | [_], h, _ => simp [Lib.hasPrefix] at h
        | [_, _], _, c => simp [Lib.hasPrefix] at c
      rw [this] at h1; cases h1
    have : typeS l = ([], 0) := by unfold typeS; rw [hb]; rfl
    rw [this]
  · rw [if_neg h]; rfl

theorem tagS_short (l : List UInt8) (h : l.length ≤ 3) (h2 : Lib.hasPrefix l [64] = false) : tagS l = ([], [], 0) := by
  cases h1 : Lib.hasPrefix l [94, 94, 60] with
  | false => exact tagS_none l h1 h2
  | true =>
    match l, h, h1 with
    | [a, b, c], _, h1 =>
      simp [Lib.hasPrefix] at h1
      obtain ⟨rfl, rfl, rfl⟩ := h1
      rfl
    | [], _, h1 => simp [Lib.hasPrefix] at h1
    | [_], _, h1 => simp [Lib.hasPrefix] at h1
    | [_, _], _, h1 => simp [Lib.hasPrefix] at h1

theorem tagS_at (r : List UInt8) : tagS (64 :: r) = if langL (r.take (lead (fun _ c => smallZ c) 0 r)) = true then ([], r.take (lead (fun _ c => smallZ c) 0 r), lead (fun _ c => smallZ c) 0 r + 1) else ([], [], 0) := by
  have h1 : Lib.hasPrefix (64 :: r) [94, 94] = false := rfl
  have h2 : Lib.hasPrefix (64 :: r) [64] = true := by simp [Lib.hasPrefix]
  have hl := lang_ref r
  have hs : langS (64 :: r) = if langLead r = 0 ∨ 8 < langLead r then ([], 0) else (r.take (langLead r), langLead r + 1) := rfl
  unfold tagS
  rw [h1, if_neg (by simp), if_pos h2, hs, ← hl]
  split <;> rfl

/- the first bytes of a text, and its list -/
theorem list_cons (s : ByteArray) (h : 0 < s.size) : s.data.toList = s[0] :: s.data.toList.drop 1 := by
  rw [← get_list s 0 h, ← List.drop_eq_getElem_cons (by simpa using h)]; rfl
theorem list_cons3 (s : ByteArray) (h : 3 < s.size) : s.data.toList = s[0] :: s[1] :: s[2] :: s.data.toList.drop 3 := by
  rw [← get_list s 0 (by omega), ← get_list s 1 (by omega), ← get_list s 2 (by omega), ← List.drop_eq_getElem_cons (by simp; omega), ← List.drop_eq_getElem_cons (by simp; omega), ← List.drop_eq_getElem_cons (by simp; omega)]; rfl
theorem not_pre (a c : UInt8) (r p : List UInt8) (h : ¬ a = c) : Lib.hasPrefix (a :: r) (c :: p) = false := by
  show ((c == a) && p.isPrefixOf r) = false
  rw [show (c == a) = false from beq_eq_false_iff_ne.2 (fun e => h e.symm)]; rfl

theorem byte_no {a : UInt8} {n : Nat} (hn : n < 256) (h : ((a.toNat : Int) == (n : Int)) = false) : ¬ a = UInt8.ofNat n := by
  intro e; subst e; simp at h; omega

set_option maxRecDepth 100000 in
set_option maxHeartbeats 2000000 in
theorem typed_plain (x s : ByteArray) (w : World) (hs : s.size ≤ 281474976710656) (hS : Hid (tagS s.data.toList = ([], [], 0))) (h64 : ∀ h : 0 < s.size, ((s[0].toNat : Int) == 64) = false)
    (hcar : 3 < s.size → ∀ (a : 0 < s.size) (b : 1 < s.size) (c : 2 < s.size), ((s[0].toNat : Int) == 94) = false ∨ ((s[0].toNat : Int) == 94) = true ∧ (((s[1].toNat : Int) == 94) = false ∨ ((s[1].toNat : Int) == 94) = true ∧ ((s[2].toNat : Int) == 60) = false)) :
    Calls Tryd.prog 64 #[.agg #[.int .i64 2, .string x, .string ⟨#[]⟩, .string ⟨#[]⟩], .string s] w fun e w' => e = .returned (.tuple #[.agg #[.int .i64 2, .string x, .string (bs (tagS s.data.toList).1), .string (bs (tagS s.data.toList).2.1)], .int .i64 (tagS s.data.toList).2.2]) ∧ Below w.heap.size w w' := by
  by_cases h3 : 3 < s.size
  · have a : 0 < s.size := by omega
    have b : 1 < s.size := by omega
    have c : 2 < s.size := by omega
    have g64 := h64 a
    rcases hcar h3 a b c with g | ⟨g, g1 | ⟨g1, g2⟩⟩
    all_goals
      clear hcar h64
      go_enter Tryd.func64, Tryd.ntmps64
      go_wp2
      refine bodyPost_ret (v := .tuple #[.agg #[.int .i64 2, .string x, .string ⟨#[]⟩, .string ⟨#[]⟩], .int .i64 0]) (by simp [results, Tryd.results64, go_sem]) rfl ⟨by rw [hS.out]; rfl, two_alloc _ _ _⟩
  · by_cases a : 0 < s.size
    · have g64 := h64 a
      clear hcar h64
      go_enter Tryd.func64, Tryd.ntmps64
      go_wp2
      refine bodyPost_ret (v := .tuple #[.agg #[.int .i64 2, .string x, .string ⟨#[]⟩, .string ⟨#[]⟩], .int .i64 0]) (by simp [results, Tryd.results64, go_sem]) rfl ⟨by rw [hS.out]; rfl, two_alloc _ _ _⟩
    · clear hcar h64
      go_enter Tryd.func64, Tryd.ntmps64
      go_wp2
      refine bodyPost_ret (v := .tuple #[.agg #[.int .i64 2, .string x, .string ⟨#[]⟩, .string ⟨#[]⟩], .int .i64 0]) (by simp [results, Tryd.results64, go_sem]) rfl ⟨by rw [hS.out]; rfl, two_alloc _ _ _⟩

set_option maxRecDepth 100000 in
set_option maxHeartbeats 2000000 in
theorem typed_at (x s : ByteArray) (w : World) (hs : s.size ≤ 281474976710656) (h0 : 0 < s.size) (g64 : ((s[0].toNat : Int) == 64) = true) (N : Nat) (hN : Hid (lead (fun _ c => smallZ c) 0 (s.data.toList.drop 1) = N))
    (hS : Hid (tagS s.data.toList = if langL ((s.data.toList.drop 1).take N) = true then ([], (s.data.toList.drop 1).take N, N + 1) else ([], [], 0))) :
    Calls Tryd.prog 64 #[.agg #[.int .i64 2, .string x, .string ⟨#[]⟩, .string ⟨#[]⟩], .string s] w fun e w' => e = .returned (.tuple #[.agg #[.int .i64 2, .string x, .string (bs (tagS s.data.toList).1), .string (bs (tagS s.data.toList).2.1)], .int .i64 (tagS s.data.toList).2.2]) ∧ Below w.heap.size w w' := by
  have g94 : ((s[0].toNat : Int) == 94) = false := by
    have e : (s[0].toNat : Int) = 64 := by simpa using g64
    rw [e]; rfl
  have hle : N + 1 ≤ s.size := by
    have := lead_le_size (fun _ c => smallZ c) s 1
    rw [hN.out] at this; omega
  go_enter Tryd.func64, Tryd.ntmps64
  by_cases h3 : 3 < s.size
  all_goals
    go_wp2_with fail
    go_loop [7] (fun i => ∃ k : Nat, k ≤ N ∧ i = .int .i64 ((1 + k : Nat) : Int)) (fun i => N + 1 - (intOf i).toNat)
    case atStart => exact ⟨0, Nat.zero_le _, rfl⟩
    case round =>
      obtain ⟨k, hk, rfl⟩ := hrel
      by_cases hkN : k < N
      · have hi : 1 + k < s.size := by omega
        have hb : betw 97 (s[1 + k].toNat : Int) 122 = true := by
          have h := lead_before (fun _ c => smallZ c) 0 (s.data.toList.drop 1) k (by rw [hN.out]; exact hkN) (by rw [List.length_drop, ← Lib.size_eq]; omega)
          rw [List.getElem_drop, get_list s (1 + k) hi, smallZ_atoms] at h
          exact h
        go_wp2_with (go_at_call 31; refine (rBetween_calls _ _ _ _).mono ?_; rintro e w' ⟨rfl, hw⟩; subst hw)
        go_round
        case rel => exact ⟨k + 1, by omega, by go_num⟩
        case measure => simp [intOf]; omega
      · obtain rfl : k = N := by omega
        have hout : (¬ 1 + k < s.size) ∨ (∃ hi : 1 + k < s.size, betw 97 (s[1 + k].toNat : Int) 122 = false) := by
          by_cases hi : 1 + k < s.size
          · right
            refine ⟨hi, ?_⟩
            have h := lead_at (fun _ c => smallZ c) 0 (s.data.toList.drop 1) (by rw [hN.out, List.length_drop, ← Lib.size_eq]; omega)
            have e : (s.data.toList.drop 1)[lead (fun _ c => smallZ c) 0 (s.data.toList.drop 1)]'(by rw [hN.out, List.length_drop, ← Lib.size_eq]; omega) = s[1 + k] := by
              rw [List.getElem_drop]
              have : 1 + lead (fun _ c => smallZ c) 0 (s.data.toList.drop 1) = 1 + k := by rw [hN.out]
              rw [← get_list s (1 + k) hi]
              congr 1
            rw [e, smallZ_atoms] at h
            exact h
          · exact .inl hi
        rcases hout with hi | ⟨hi, hb⟩
        all_goals
          go_wp2_with (first | (go_at_call 31; refine (rBetween_calls _ _ _ _).mono ?_; rintro e w' ⟨rfl, hw⟩; subst hw) | fail)
          rw [piece_bs, show 1 + k - 1 = k by omega]
          refine (rIsLang_calls (bs _) _ (by rw [bs_size, List.length_take, List.length_drop, ← Lib.size_eq]; unfold maxLen; omega)).mono ?_
          rintro e w' ⟨rfl, hw⟩
          subst hw
          rw [bs_data]
          have hpb := piece_bs s 1 (1 + k)
          rw [show 1 + k - 1 = k by omega] at hpb
          have HPB := Lib.hid hpb
          clear hpb
          obtain ⟨G, hG⟩ : ∃ G, List.take k (List.drop 1 s.data.toList) = G := ⟨_, rfl⟩
          rw [hG] at hS HPB
          rw [hG]
          clear hG
          cases hl : langL G with
          | false =>
            have hS' := Lib.hid (hS.out.trans (if_neg (by rw [hl]; simp)))
            go_wp2
            refine bodyPost_ret (v := .tuple #[.agg #[.int .i64 2, .string x, .string ⟨#[]⟩, .string ⟨#[]⟩], .int .i64 0]) (by simp [results, Tryd.results64, go_sem]) rfl ⟨by rw [hS'.out]; rfl, two_alloc _ _ _⟩
          | true =>
            have hS' := Lib.hid (hS.out.trans (if_pos hl))
            go_wp2
            go_region
            go_wp2
            refine bodyPost_ret (v := .tuple #[.agg #[.int .i64 2, .string x, .string ⟨#[]⟩, .string (s.extract 1 (1 + k))], .int .i64 (1 + k)]) (by simp [results, Tryd.results64, go_sem]) rfl ⟨?_, ?_⟩
            · rw [hS'.out, HPB.out, show (1 + (k : Int)) = ((k + 1 : Nat) : Int) by omega]; rfl
            · exact (two_alloc _ _ _).drew

set_option maxRecDepth 100000 in
set_option maxHeartbeats 2000000 in
theorem typed_caret (x s : ByteArray) (w : World) (hs : s.size ≤ 281474976710656) (h3 : 3 < s.size) (g0 : ((s[0].toNat : Int) == 94) = true) (g1 : ((s[1].toNat : Int) == 94) = true) (g2 : ((s[2].toNat : Int) == 60) = true)
    (hL : Hid (s.data.toList = 94 :: 94 :: 60 :: s.data.toList.drop 3)) :
    Calls Tryd.prog 64 #[.agg #[.int .i64 2, .string x, .string ⟨#[]⟩, .string ⟨#[]⟩], .string s] w fun e w' => e = .returned (.tuple #[.agg #[.int .i64 2, .string x, .string (bs (tagS s.data.toList).1), .string (bs (tagS s.data.toList).2.1)], .int .i64 (tagS s.data.toList).2.2]) ∧ Below w.heap.size w w' := by
  have hc := tagS_caret (s.data.toList.drop 3)
  have hp := Lib.hid (place_from3 (s.data.toList.drop 3))
  rw [← hL.out] at hc hp
  have g64 : ((s[0].toNat : Int) == 64) = false := by
    have e : (s[0].toNat : Int) = 94 := by simpa using g0
    rw [e]; rfl
  rcases hc with ⟨hq, hS⟩ | ⟨n, hn, hq, hS⟩
  · have HS := Lib.hid hS
    have HP := Lib.hid (hp.out.trans hq)
    clear hS hq
    go_enter Tryd.func64, Tryd.ntmps64
    go_wp2_with fail
    refine (place_calls _ _ _ (len_ok (by omega))).mono ?_
    rintro e w' ⟨rfl, hw⟩
    subst hw
    rw [HP.out]
    go_wp2
    refine bodyPost_ret (v := .tuple #[.agg #[.int .i64 2, .string x, .string ⟨#[]⟩, .string ⟨#[]⟩], .int .i64 0]) (by simp [results, Tryd.results64, go_sem]) rfl ⟨by rw [HS.out]; rfl, two_alloc _ _ _⟩
  · have HS := Lib.hid hS
    have HP := Lib.hid (hp.out.trans hq)
    have hlt : 3 + n < s.size := by rw [List.length_drop, ← Lib.size_eq] at hn; omega
    clear hS hq hn
    have hpb := piece_bs s 3 (3 + n)
    rw [show 3 + n - 3 = n by omega] at hpb
    have HPB := Lib.hid hpb
    clear hpb
    go_enter Tryd.func64, Tryd.ntmps64
    go_wp2_with fail
    refine (place_calls _ _ _ (len_ok (by omega))).mono ?_
    rintro e w' ⟨rfl, hw⟩
    subst hw
    rw [HP.out]
    go_wp2_with fail
    rw [HPB.out]
    refine (rIsIri_calls (bs _) _ (by rw [bs_size, List.length_take, List.length_drop, ← Lib.size_eq]; unfold maxLen; omega)).mono ?_
    rintro e w' ⟨rfl, hw⟩
    subst hw
    rw [bs_data]
    obtain ⟨G, hG⟩ : ∃ G, List.take n (List.drop 3 s.data.toList) = G := ⟨_, rfl⟩
    rw [hG] at HS HPB
    rw [hG]
    clear hG
    cases hl : iriL G with
    | false =>
      have hS' := Lib.hid (HS.out.trans (if_neg (by rw [hl]; simp)))
      go_wp2
      refine bodyPost_ret (v := .tuple #[.agg #[.int .i64 2, .string x, .string ⟨#[]⟩, .string ⟨#[]⟩], .int .i64 0]) (by simp [results, Tryd.results64, go_sem]) rfl ⟨by rw [hS'.out]; rfl, two_alloc _ _ _⟩
    | true =>
      have hS' := Lib.hid (HS.out.trans (if_pos hl))
      go_wp2
      go_region
      go_wp2
      refine bodyPost_ret (v := .tuple #[.agg #[.int .i64 2, .string x, .string (s.extract 3 (3 + n)), .string ⟨#[]⟩], .int .i64 (3 + n + 1)]) (by simp [results, Tryd.results64, go_sem]) rfl ⟨?_, ?_⟩
      · rw [hS'.out, HPB.out, show (3 + (n : Int) + 1) = ((n + 4 : Nat) : Int) by omega]; rfl
      · exact (two_alloc _ _ _).drew

end Go.Proofs.YtgkpdcjkobieiaaDoor
