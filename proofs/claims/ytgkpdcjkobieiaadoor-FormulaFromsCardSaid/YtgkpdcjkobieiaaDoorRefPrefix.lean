/- The term that a text begins with, and the term whose text it is, by the document's own answer: the same as package term's, for every text. -/
import Derived.Test.YtgkpdcjkobieiaaDoorRefTyped
import Derived.Test.YtgkpdcjkobieiaaDoorTermPrefix
namespace Go.Proofs.YtgkpdcjkobieiaaDoor
open Go.RowKit

theorem byte_eq {a : UInt8} {n : Nat} (hn : n < 256) (h : (a.toNat : Int) = n) : a = UInt8.ofNat n := (u8_of hn).1 h

theorem typed_calls (x s : ByteArray) (w : World) (hs : s.size ≤ 281474976710656) :
    Calls Tryd.prog 64 #[.agg #[.int .i64 2, .string x, .string ⟨#[]⟩, .string ⟨#[]⟩], .string s] w fun e w' => e = .returned (.tuple #[.agg #[.int .i64 2, .string x, .string (bs (tagS s.data.toList).1), .string (bs (tagS s.data.toList).2.1)], .int .i64 (tagS s.data.toList).2.2]) ∧ Below w.heap.size w w' := by
  by_cases h0 : 0 < s.size
  · have hl := list_cons s h0
    by_cases e64 : (s[0].toNat : Int) = 64
    · refine typed_at x s w hs h0 (beq_iff_eq.2 e64) _ (Lib.hid rfl) (Lib.hid ?_)
      have := tagS_at (s.data.toList.drop 1)
      rw [← this, ← show s[0] = 64 from byte_eq (n := 64) (by omega) e64, ← hl]
    · have n64 : Lib.hasPrefix s.data.toList [64] = false := by
        rw [hl]; exact not_pre _ _ _ _ (fun c => e64 (by rw [c]; rfl))
      have h64 : ∀ h : 0 < s.size, ((s[0].toNat : Int) == 64) = false := fun _ => beq_eq_false_iff_ne.2 e64
      by_cases h3 : 3 < s.size
      · have hl3 := list_cons3 s h3
        by_cases e0 : (s[0].toNat : Int) = 94
        · by_cases e1 : (s[1].toNat : Int) = 94
          · by_cases e2 : (s[2].toNat : Int) = 60
            · refine typed_caret x s w hs h3 (beq_iff_eq.2 e0) (beq_iff_eq.2 e1) (beq_iff_eq.2 e2) (Lib.hid ?_)
              conv => lhs; rw [hl3]
              rw [show s[0] = 94 from byte_eq (n := 94) (by omega) e0, show s[1] = 94 from byte_eq (n := 94) (by omega) e1, show s[2] = 60 from byte_eq (n := 60) (by omega) e2]
            · refine typed_plain x s w hs (Lib.hid (tagS_none _ ?_ n64)) h64 (fun _ _ _ _ => .inr ⟨beq_iff_eq.2 e0, .inr ⟨beq_iff_eq.2 e1, beq_eq_false_iff_ne.2 e2⟩⟩)
              rw [hl3]
              show (_ && (_ && ((60 : UInt8) == s[2] && _))) = false
              rw [show ((60 : UInt8) == s[2]) = false from beq_eq_false_iff_ne.2 (fun c => e2 (by rw [← c]; rfl))]
              simp
          · refine typed_plain x s w hs (Lib.hid (tagS_none _ ?_ n64)) h64 (fun _ _ _ _ => .inr ⟨beq_iff_eq.2 e0, .inl (beq_eq_false_iff_ne.2 e1)⟩)
            rw [hl3]
            show (_ && ((94 : UInt8) == s[1] && _)) = false
            rw [show ((94 : UInt8) == s[1]) = false from beq_eq_false_iff_ne.2 (fun c => e1 (by rw [← c]; rfl))]
            simp
        · refine typed_plain x s w hs (Lib.hid (tagS_none _ ?_ n64)) h64 (fun _ _ _ _ => .inl (beq_eq_false_iff_ne.2 e0))
          rw [hl]; exact not_pre _ _ _ _ (fun c => e0 (by rw [c]; rfl))
      · exact typed_plain x s w hs (Lib.hid (tagS_short _ (by rw [← Lib.size_eq]; omega) n64)) h64 (fun h => absurd h h3)
  · have hnil : s.data.toList = [] := List.eq_nil_of_length_eq_zero (by rw [← Lib.size_eq]; omega)
    exact typed_plain x s w hs (Lib.hid (by rw [hnil]; rfl)) (fun h => absurd h h0) (fun h => by omega)

/- a literal, in the document's way -/
theorem unquoteS_ref (l : List UInt8) : unquoteS l = match closeIdx (l.drop 1) with | none => ([], 0) | some m => fin (unescS ((l.drop 1).take m)) (m + 2) := by
  unfold unquoteS
  rw [unq_fin (l.drop 1) [] 0 (by simp) rfl]
  unfold finAt
  cases closeIdx (l.drop 1) with
  | none => rfl
  | some m => simp only [Nat.zero_add]; rfl

theorem closeIdx_lt : ∀ (l : List UInt8) (m : Nat), closeIdx l = some m → m < l.length
  | [], m, h => by simp [closeIdx] at h
  | [c], m, h => by
    simp only [closeIdx] at h
    split at h
    · cases h
    · split at h
      · simp at h; subst h; simp
      · cases h
  | c :: d :: r, m, h => by
    simp only [closeIdx] at h
    split at h
    · obtain ⟨n, hn, rfl⟩ := Option.map_eq_some_iff.1 h
      have := closeIdx_lt r n hn
      simp; omega
    · split at h
      · simp at h; subst h; simp
      · obtain ⟨n, hn, rfl⟩ := Option.map_eq_some_iff.1 h
        have := closeIdx_lt (d :: r) n hn
        simp at this ⊢; omega

set_option maxRecDepth 100000 in
set_option maxHeartbeats 2000000 in
theorem rliteral_calls (s : ByteArray) (w : World) (hs : s.size ≤ 281474976710656) (h1 : 1 ≤ s.size) :
    Calls Tryd.prog 49 #[.string s] w fun e w' => e = .returned (.tuple #[(literalS s.data.toList).1.v, .int .i64 (literalS s.data.toList).2]) ∧ Below w.heap.size w w' := by
  have hU := unquoteS_ref s.data.toList
  have hC : closeZ s.data.toList = _ := closeFrom_idx (s.data.toList.drop 1) 1
  cases hi : closeIdx (s.data.toList.drop 1) with
  | none =>
    rw [hi] at hU hC
    dsimp only at hU hC
    have HS := Lib.hid (show literalS s.data.toList = (noTerm, 0) by unfold literalS; rw [hU]; rfl)
    have HC := Lib.hid hC
    clear hU hC hi
    go_enter Tryd.func49, Tryd.ntmps49
    go_wp2_with fail
    refine (closing_calls _ _ hs).mono ?_
    rintro e w' ⟨rfl, hw⟩
    subst hw
    rw [HC.out]
    go_wp2
    refine bodyPost_ret (v := .tuple #[noTerm.v, .int .i64 0]) (by simp [results, Tryd.results49, noTerm, TermL.v, bs_nil, go_sem]) rfl ⟨by rw [HS.out]; rfl, box_below _ _⟩
  | some m =>
    rw [hi] at hU hC
    dsimp only at hU hC
    have hm : 1 + m < s.size := by
      have := closeIdx_lt _ _ hi
      rw [List.length_drop, ← Lib.size_eq] at this; omega
    obtain ⟨n, hn, hn1⟩ : ∃ n, 1 + m = n ∧ 1 ≤ n := ⟨1 + m, rfl, by omega⟩
    rw [hn] at hC hm
    have HC := Lib.hid hC
    have hpb := piece_bs s 1 n
    rw [show n - 1 = m by omega] at hpb
    have HPB := Lib.hid hpb
    have HM := Lib.hid (show m + 2 = n + 1 by omega)
    obtain ⟨G, hG⟩ : ∃ G, List.take m (List.drop 1 s.data.toList) = G := ⟨_, rfl⟩
    have hGl : G.length ≤ 281474976710656 := by rw [← hG, List.length_take, List.length_drop, ← Lib.size_eq]; omega
    rw [hG] at hU HPB
    clear hC hi hpb hG hn
    go_enter Tryd.func49, Tryd.ntmps49
    go_wp2_with fail
    refine (closing_calls _ _ hs).mono ?_
    rintro e w' ⟨rfl, hw⟩
    subst hw
    rw [HC.out]
    have HU := Lib.hid hU
    clear hU
    go_wp2_with fail
    rw [HPB.out]
    refine (unescaped_calls (bs _) _ (by rw [bs_size]; exact hGl)).mono ?_
    rintro e w' ⟨rfl, hw⟩
    subst hw
    rw [bs_data]
    obtain ⟨o, ho⟩ : ∃ o, unescS G = o := ⟨_, rfl⟩
    rw [ho] at HU
    rw [ho]
    clear ho
    obtain ⟨t, ok⟩ := o
    dsimp only
    have hno : ¬ (ok = true ∧ t.length ≤ 4096 ∧ allB litZ t = true) → literalS s.data.toList = (noTerm, 0) := fun h => by
      have : unquoteS s.data.toList = ([], 0) := by rw [HU.out]; exact if_neg h
      unfold literalS; rw [this]; rfl
    cases ok with
    | false =>
      have HS := Lib.hid (hno (fun c => by cases c.1))
      clear hno
      go_wp2
      refine bodyPost_ret (v := .tuple #[noTerm.v, .int .i64 0]) (by simp [results, Tryd.results49, noTerm, TermL.v, bs_nil, go_sem]) rfl ⟨by rw [HS.out]; rfl, box_below _ _⟩
    | true =>
      by_cases h4 : (bs t).size ≤ 4096
      · cases hl : allB litZ t with
        | false =>
          have HS := Lib.hid (hno (fun c => by rw [hl] at c; cases c.2.2))
          clear hno
          go_wp2_with (go_at_call 28; refine (rAll2_calls (bs t) _ (by unfold maxLen; omega)).mono ?_; rintro e w' ⟨rfl, hw⟩; subst hw; rw [bs_data])
          refine bodyPost_ret (v := .tuple #[noTerm.v, .int .i64 0]) (by simp [results, Tryd.results49, noTerm, TermL.v, bs_nil, go_sem]) rfl ⟨by rw [HS.out]; rfl, box_below _ _⟩
        | true =>
          have hq : unquoteS s.data.toList = (t, m + 2) := by rw [HU.out]; exact if_pos ⟨rfl, h4, hl⟩
          have HS := Lib.hid (show literalS s.data.toList = (⟨2, t, (tagS (s.data.toList.drop (m + 2))).1, (tagS (s.data.toList.drop (m + 2))).2.1⟩, m + 2 + (tagS (s.data.toList.drop (m + 2))).2.2) by
            unfold literalS; rw [hq]; rfl)
          clear hno hq
          go_wp2_with (go_at_call 28; refine (rAll2_calls (bs t) _ (by unfold maxLen; omega)).mono ?_; rintro e w' ⟨rfl, hw⟩; subst hw; rw [bs_data])
          rw [drop_bs s (n + 1), ← HM.out]
          refine (typed_calls (bs t) (bs _) _ (by rw [bs_size, List.length_drop, ← Lib.size_eq]; omega)).mono ?_
          rintro e w1 ⟨rfl, hb1⟩
          rw [bs_data]
          obtain ⟨hc, hf⟩ := bcell hb1
          have hz : w.heap.size < w1.heap.size := by have := hb1.size; simp at this; omega
          have hlen : (tagS (List.drop (m + 2) s.data.toList)).2.2 ≤ s.size + 9 := by
            have h1 := typeS_le (List.drop (m + 2) s.data.toList)
            have h2 := langS_le (List.drop (m + 2) s.data.toList)
            rw [List.length_drop, ← Lib.size_eq] at h1
            unfold tagS
            split
            · exact Nat.le_trans h1 (by omega)
            · split
              · exact Nat.le_trans h2 (by omega)
              · simp
          generalize tagS (List.drop (m + 2) s.data.toList) = g at hlen HS
          obtain ⟨y, z, j⟩ := g
          dsimp only at hlen HS
          dsimp only
          have q0 : w1.cell? ⟨w.heap.size, 0, none⟩ = some (.int .i64 0) := by rw [hc _ _ (by simp)]; simp [go_sem]
          have q1 : w1.cell? ⟨w.heap.size, 1, none⟩ = some (.string ⟨#[]⟩) := by rw [hc _ _ (by simp)]; simp [go_sem]
          have q2 : w1.cell? ⟨w.heap.size, 2, none⟩ = some (.string ⟨#[]⟩) := by rw [hc _ _ (by simp)]; simp [go_sem]
          have q3 : w1.cell? ⟨w.heap.size, 3, none⟩ = some (.string ⟨#[]⟩) := by rw [hc _ _ (by simp)]; simp [go_sem]
          go_wp2
          refine bodyPost_ret (v := .tuple #[.agg #[.int .i64 2, .string (bs t), .string (bs y), .string (bs z)], .int .i64 (n + 1 + j)]) (by simp [results, Tryd.results49, q0, q1, q2, q3, hz, World.cell?_alloc_lt, go_sem]) rfl ⟨?_, ?_⟩
          · rw [HS.out, HM.out, show ((n : Int) + 1 + (j : Int)) = ((n + 1 + j : Nat) : Int) by omega]; rfl
          · exact (((((one_box hb1).setCell (Nat.le_refl _) _).setCell (Nat.le_refl _) _).setCell (Nat.le_refl _) _).setCell (Nat.le_refl _) _).alloc (by simp; omega) _
      · have HS := Lib.hid (hno (fun c => h4 c.2.1))
        clear hno
        go_wp2
        refine bodyPost_ret (v := .tuple #[noTerm.v, .int .i64 0]) (by simp [results, Tryd.results49, noTerm, TermL.v, bs_nil, go_sem]) rfl ⟨by rw [HS.out]; rfl, box_below _ _⟩

end Go.Proofs.YtgkpdcjkobieiaaDoor
