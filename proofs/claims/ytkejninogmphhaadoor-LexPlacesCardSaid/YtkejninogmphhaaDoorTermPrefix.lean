/- The term that a text begins with, and the term whose text it is: what Prefix and Read of package term come to, for every text. -/
import Derived.Test.YtkejninogmphhaaDoorTermUnquote
namespace Go.Proofs.YtkejninogmphhaaDoor
open Go.RowKit

theorem unquoteS_le (s : ByteArray) (h : 1 ≤ s.size) : (unquoteS s.data.toList).2 ≤ s.size := by
  have := unq_le (s.data.toList.drop 1) [] false 0
  rw [List.length_drop, ← Lib.size_eq] at this
  unfold unquoteS; omega

theorem lit_below {w w1 w2 : World} {R T : Obj} (hb1 : Below (w.alloc R).heap.size (w.alloc R) w1) (hb2 : Below (w1.alloc T).heap.size (w1.alloc T) w2) : Below w.heap.size w w2 := by
  have h := hb1.size
  rw [World.size_alloc] at h
  exact ((one_box hb1).alloc (by omega) _).trans (hb2.mono (by rw [World.size_alloc]; omega))

theorem res_cell1 {w w1 : World} {R : Obj} (hb1 : Below (w.alloc R).heap.size (w.alloc R) w1) (T : Obj) {o : Nat} {v : Value} (h : (w.alloc R).cell? ⟨w.heap.size, o, none⟩ = some v) : (w1.alloc T).cell? ⟨w.heap.size, o, none⟩ = some v := by
  have hz := hb1.size
  rw [World.size_alloc] at hz
  have e := World.cell?_alloc_lt w1 T ⟨w.heap.size, o, none⟩ (show w.heap.size < w1.heap.size by omega)
  rw [e, hb1.cell (p := ⟨w.heap.size, o, none⟩) (by rw [World.size_alloc]; exact Nat.lt_succ_self _), h]
theorem res_cell {w w1 w2 : World} {R T : Obj} (hb1 : Below (w.alloc R).heap.size (w.alloc R) w1) (hb2 : Below (w1.alloc T).heap.size (w1.alloc T) w2) {o : Nat} {v : Value} (h : (w.alloc R).cell? ⟨w.heap.size, o, none⟩ = some v) : w2.cell? ⟨w.heap.size, o, none⟩ = some v := by
  have hz := hb1.size
  rw [World.size_alloc] at hz
  rw [hb2.cell (p := ⟨w.heap.size, o, none⟩) (by rw [World.size_alloc]; show w.heap.size < _; omega), res_cell1 hb1 T h]

set_option maxRecDepth 100000 in
set_option maxHeartbeats 1000000 in
theorem literalAhead_calls (s : ByteArray) (w : World) (hs : s.size ≤ 281474976710656) (h1 : 1 ≤ s.size) :
    Calls Tryd.prog 39 #[.string s] w fun e w' => e = .returned (.tuple #[(literalS s.data.toList).1.v, .int .i64 (literalS s.data.toList).2]) ∧ Below w.heap.size w w' := by
  have hn := unquoteS_le s h1
  have hS := Lib.hid (show literalS s.data.toList = _ from by unfold literalS; rfl)
  go_enter Tryd.func39, Tryd.ntmps39
  go_wp2_with fail
  refine (unquote_calls _ _ hs h1).mono ?_
  rintro e w1 ⟨rfl, hb1⟩
  obtain ⟨hc, hf⟩ := bcell hb1
  have hz : w.heap.size < w1.heap.size := by have := hb1.size; simp at this; omega
  generalize unquoteS s.data.toList = p at hn hS
  obtain ⟨x, n⟩ := p
  simp only at hS hn
  by_cases h0 : n = 0
  · have g0 : ((n : Int) == 0) = true := beq_iff_eq.2 (by omega)
    have hS' := Lib.hid (hS.out.trans (if_pos h0))
    clear h0 hS
    go_wp2
    refine bodyPost_ret (v := .tuple #[noTerm.v, .int .i64 0]) (by simp [results, Tryd.results39, noTerm, TermL.v, bs_nil, hc, go_sem]) rfl ⟨by rw [hS'.out]; rfl, ?_⟩
    exact ((((one_box hb1).setCell (Nat.le_refl _) _).setCell (Nat.le_refl _) _).setCell (Nat.le_refl _) _).setCell (Nat.le_refl _) _
  · have g0 : ((n : Int) == 0) = false := beq_eq_false_iff_ne.2 (by omega)
    have hS' := Lib.hid (hS.out.trans (if_neg h0))
    clear hS
    go_wp2_with fail
    rw [drop_bs s n]
    have hL : (s.data.toList.drop n).length ≤ 281474976710656 := by rw [List.length_drop, ← Lib.size_eq]; omega
    generalize List.drop n s.data.toList = L at hL hS'
    refine (Tryd.strings_HasPrefix _ _ _).mono ?_
    rintro e w0 ⟨rfl, hw⟩
    obtain rfl := hw.symm
    rw [bs_data]
    by_cases hp : Lib.hasPrefix L [94, 94] = true
    · have hl2 : 2 ≤ L.length := Lib.hasPrefix_le hp
      have ht := typeS_le L
      have hS2 := Lib.hid (hS'.out.trans (show _ = (TermL.mk 2 x (typeS L).1 [], n + (typeS L).2) by unfold tagS; rw [if_pos hp]))
      clear hS'
      go_wp2_with fail
      refine (typeAhead_calls (bs L) _ (by rw [bs_size]; exact hL) (by rw [bs_size]; exact hl2)).mono ?_
      rintro e w2 ⟨rfl, hb2⟩
      rw [bs_data]
      obtain ⟨hc2, hf2⟩ := bcell hb2
      have hz2 : w1.heap.size < w2.heap.size := by have := hb2.size; simp at this; omega
      generalize typeS L = q at ht hS2
      obtain ⟨y, m⟩ := q
      simp only at ht hS2
      go_wp2
      have q := @res_cell w w1 w2 _ _ hb1 hb2
      have q0 := q (o := 0) (v := .int .i64 0) (by simp [go_sem])
      have q1 := q (o := 1) (v := .string ⟨#[]⟩) (by simp [go_sem])
      have q2 := q (o := 2) (v := .string ⟨#[]⟩) (by simp [go_sem])
      have q3 := q (o := 3) (v := .string ⟨#[]⟩) (by simp [go_sem])
      refine bodyPost_ret (v := .tuple #[.agg #[.int .i64 2, .string (bs x), .string (bs y), .string ⟨#[]⟩], .int .i64 (n + m)]) (by simp [results, Tryd.results39, q0, q1, q2, q3, go_sem]) rfl ⟨by rw [hS2.out]; rfl, ?_⟩
      exact (((((lit_below hb1 hb2).setCell (by simp; omega) _).setCell (Nat.le_refl _) _).setCell (Nat.le_refl _) _).setCell (Nat.le_refl _) _).setCell (Nat.le_refl _) _
    · have hp' : Lib.hasPrefix L [94, 94] = false := by simpa using hp
      clear hp
      go_wp2_with fail
      refine (Tryd.strings_HasPrefix _ _ _).mono ?_
      rintro e w0 ⟨rfl, hw⟩
      obtain rfl := hw.symm
      rw [bs_data]
      by_cases hq : Lib.hasPrefix L [64] = true
      · have hl2 : 1 ≤ L.length := Lib.hasPrefix_le hq
        have ht := langS_le L
        have hS2 := Lib.hid (hS'.out.trans (show _ = (TermL.mk 2 x [] (langS L).1, n + (langS L).2) by unfold tagS; rw [hp', if_neg (by simp), if_pos hq]))
        clear hS'
        go_wp2_with fail
        refine (langAhead_calls (bs L) _ (by rw [bs_size]; exact hL) (by rw [bs_size]; exact hl2)).mono ?_
        rintro e w2 ⟨rfl, hb2⟩
        rw [bs_data]
        obtain ⟨hc2, hf2⟩ := bcell hb2
        have hz2 : w1.heap.size < w2.heap.size := by have := hb2.size; simp at this; omega
        generalize langS L = q at ht hS2
        obtain ⟨y, m⟩ := q
        simp only at ht hS2
        go_wp2
        have q := @res_cell w w1 w2 _ _ hb1 hb2
        have q0 := q (o := 0) (v := .int .i64 0) (by simp [go_sem])
        have q1 := q (o := 1) (v := .string ⟨#[]⟩) (by simp [go_sem])
        have q2 := q (o := 2) (v := .string ⟨#[]⟩) (by simp [go_sem])
        have q3 := q (o := 3) (v := .string ⟨#[]⟩) (by simp [go_sem])
        refine bodyPost_ret (v := .tuple #[.agg #[.int .i64 2, .string (bs x), .string ⟨#[]⟩, .string (bs y)], .int .i64 (n + m)]) (by simp [results, Tryd.results39, q0, q1, q2, q3, go_sem]) rfl ⟨by rw [hS2.out]; rfl, ?_⟩
        exact (((((lit_below hb1 hb2).setCell (by simp; omega) _).setCell (Nat.le_refl _) _).setCell (Nat.le_refl _) _).setCell (Nat.le_refl _) _).setCell (Nat.le_refl _) _
      · have hq' : Lib.hasPrefix L [64] = false := by simpa using hq
        clear hq
        have hS2 := Lib.hid (hS'.out.trans (show _ = (TermL.mk 2 x [] [], n) by unfold tagS; rw [hp', hq', if_neg (by simp), if_neg (by simp)]; rfl))
        clear hS'
        go_wp2
        have q0 : w1.cell? ⟨w.heap.size, 0, none⟩ = some (.int .i64 0) := by rw [hc _ _ (by simp)]; simp [go_sem]
        have q1 : w1.cell? ⟨w.heap.size, 1, none⟩ = some (.string ⟨#[]⟩) := by rw [hc _ _ (by simp)]; simp [go_sem]
        have q2 : w1.cell? ⟨w.heap.size, 2, none⟩ = some (.string ⟨#[]⟩) := by rw [hc _ _ (by simp)]; simp [go_sem]
        have q3 : w1.cell? ⟨w.heap.size, 3, none⟩ = some (.string ⟨#[]⟩) := by rw [hc _ _ (by simp)]; simp [go_sem]
        refine bodyPost_ret (v := .tuple #[.agg #[.int .i64 2, .string (bs x), .string ⟨#[]⟩, .string ⟨#[]⟩], .int .i64 n]) (by simp [results, Tryd.results39, q0, q1, q2, q3, hz, World.cell?_alloc_lt, go_sem]) rfl ⟨by rw [hS2.out]; rfl, ?_⟩
        exact (((((one_box hb1).setCell (Nat.le_refl _) _).setCell (Nat.le_refl _) _).setCell (Nat.le_refl _) _).setCell (Nat.le_refl _) _).alloc (by simp; omega) _

set_option maxHeartbeats 1000000 in
theorem Prefix_calls (s : ByteArray) (w : World) (hs : s.size ≤ 281474976710656) :
    Calls Tryd.prog 21 #[.string s] w fun e w' => e = .returned (.tuple #[(prefixS s.data.toList).1.v, .int .i64 (prefixS s.data.toList).2]) ∧ Below w.heap.size w w' := by
  have hS := Lib.hid (show prefixS s.data.toList = _ from by unfold prefixS; rfl)
  go_enter Tryd.func21, Tryd.ntmps21
  go_wp2_with fail
  refine (Tryd.strings_HasPrefix _ _ _).mono ?_
  rintro e w0 ⟨rfl, hw⟩
  obtain rfl := hw.symm
  by_cases h1 : Lib.hasPrefix s.data.toList [60] = true
  · replace hS := Lib.hid (hS.out.trans (if_pos h1))
    go_wp2_with fail
    refine (iriAhead_calls _ _ hs).mono ?_
    rintro e w1 ⟨rfl, hb1⟩
    obtain ⟨hc, hf⟩ := bcell hb1
    have hz : w.heap.size < w1.heap.size := by have := hb1.size; simp at this; omega
    generalize iriS s.data.toList = p at hS
    obtain ⟨⟨k, x, y, z⟩, n⟩ := p
    simp only [TermL.v]
    go_wp2
    refine bodyPost_ret (v := .tuple #[.agg #[.int .i64 k, .string (bs x), .string (bs y), .string (bs z)], .int .i64 n]) (by simp [results, Tryd.results21, hc, go_sem]) rfl ⟨by rw [hS.out]; rfl, ?_⟩
    exact ((((one_box hb1).setCell (Nat.le_refl _) _).setCell (Nat.le_refl _) _).setCell (Nat.le_refl _) _).setCell (Nat.le_refl _) _
  · replace hS := Lib.hid (hS.out.trans (if_neg h1))
    have h1' : Lib.hasPrefix s.data.toList [60] = false := by simpa using h1
    clear h1
    go_wp2_with fail
    refine (Tryd.strings_HasPrefix _ _ _).mono ?_
    rintro e w0 ⟨rfl, hw⟩
    obtain rfl := hw.symm
    by_cases h2 : Lib.hasPrefix s.data.toList [95, 58] = true
    · replace hS := Lib.hid (hS.out.trans (if_pos h2))
      have hl : 2 ≤ s.size := pre_le h2
      go_wp2_with fail
      refine (namedAhead_calls 3 s 2 _ hs (by omega) (by omega) (by omega)).mono ?_
      rintro e w1 ⟨rfl, hb1⟩
      obtain ⟨hc, hf⟩ := bcell hb1
      have hz : w.heap.size < w1.heap.size := by have := hb1.size; simp at this; omega
      rw [show (2 : Int).toNat = 2 from rfl]
      generalize namedS 3 s.data.toList 2 = p at hS
      obtain ⟨⟨k, x, y, z⟩, n⟩ := p
      simp only [TermL.v]
      go_wp2
      refine bodyPost_ret (v := .tuple #[.agg #[.int .i64 k, .string (bs x), .string (bs y), .string (bs z)], .int .i64 n]) (by simp [results, Tryd.results21, hc, go_sem]) rfl ⟨by rw [hS.out]; rfl, ?_⟩
      exact ((((one_box hb1).setCell (Nat.le_refl _) _).setCell (Nat.le_refl _) _).setCell (Nat.le_refl _) _).setCell (Nat.le_refl _) _
    · replace hS := Lib.hid (hS.out.trans (if_neg h2))
      have h2' : Lib.hasPrefix s.data.toList [95, 58] = false := by simpa using h2
      clear h2
      go_wp2_with fail
      refine (Tryd.strings_HasPrefix _ _ _).mono ?_
      rintro e w0 ⟨rfl, hw⟩
      obtain rfl := hw.symm
      by_cases h3 : Lib.hasPrefix s.data.toList [63] = true
      · replace hS := Lib.hid (hS.out.trans (if_pos h3))
        have hl : 1 ≤ s.size := pre_le h3
        go_wp2_with fail
        refine (namedAhead_calls 4 s 1 _ hs (by omega) (by omega) (by omega)).mono ?_
        rintro e w1 ⟨rfl, hb1⟩
        obtain ⟨hc, hf⟩ := bcell hb1
        have hz : w.heap.size < w1.heap.size := by have := hb1.size; simp at this; omega
        rw [show (1 : Int).toNat = 1 from rfl]
        generalize namedS 4 s.data.toList 1 = p at hS
        obtain ⟨⟨k, x, y, z⟩, n⟩ := p
        simp only [TermL.v]
        go_wp2
        refine bodyPost_ret (v := .tuple #[.agg #[.int .i64 k, .string (bs x), .string (bs y), .string (bs z)], .int .i64 n]) (by simp [results, Tryd.results21, hc, go_sem]) rfl ⟨by rw [hS.out]; rfl, ?_⟩
        exact ((((one_box hb1).setCell (Nat.le_refl _) _).setCell (Nat.le_refl _) _).setCell (Nat.le_refl _) _).setCell (Nat.le_refl _) _
      · replace hS := Lib.hid (hS.out.trans (if_neg h3))
        have h3' : Lib.hasPrefix s.data.toList [63] = false := by simpa using h3
        clear h3
        go_wp2_with fail
        refine (Tryd.strings_HasPrefix _ _ _).mono ?_
        rintro e w0 ⟨rfl, hw⟩
        obtain rfl := hw.symm
        by_cases h4 : Lib.hasPrefix s.data.toList [34] = true
        · replace hS := Lib.hid (hS.out.trans (if_pos h4))
          have hl : 1 ≤ s.size := pre_le h4
          go_wp2_with fail
          refine (literalAhead_calls _ _ hs hl).mono ?_
          rintro e w1 ⟨rfl, hb1⟩
          obtain ⟨hc, hf⟩ := bcell hb1
          have hz : w.heap.size < w1.heap.size := by have := hb1.size; simp at this; omega
          generalize literalS s.data.toList = p at hS
          obtain ⟨⟨k, x, y, z⟩, n⟩ := p
          simp only [TermL.v]
          go_wp2
          refine bodyPost_ret (v := .tuple #[.agg #[.int .i64 k, .string (bs x), .string (bs y), .string (bs z)], .int .i64 n]) (by simp [results, Tryd.results21, hc, go_sem]) rfl ⟨by rw [hS.out]; rfl, ?_⟩
          exact ((((one_box hb1).setCell (Nat.le_refl _) _).setCell (Nat.le_refl _) _).setCell (Nat.le_refl _) _).setCell (Nat.le_refl _) _
        · replace hS := Lib.hid (hS.out.trans (if_neg h4))
          have h4' : Lib.hasPrefix s.data.toList [34] = false := by simpa using h4
          clear h4
          go_wp2
          refine bodyPost_ret (v := .tuple #[noTerm.v, .int .i64 0]) (by simp [results, Tryd.results21, noTerm, TermL.v, bs_nil, go_sem]) rfl ⟨by rw [hS.out]; rfl, ?_⟩
          exact box_below _ _

end Go.Proofs.YtkejninogmphhaaDoor
