/- Package percent's Read: the pairs of a text, for every text. -/
import Derived.Test.YtnfmjkinahbilaaDoorPctPair
namespace Go.Proofs.YtnfmjkinahbilaaDoor
open Go.RowKit

theorem rd_bad {l R : List UInt8} {D : List PairL} (h : pairsP l = (pairsP R).map (D ++ ·)) (h1 : oneP (cutA 38 R) = none) : pairsP l = none := by
  rw [h, pairs_step, h1]; rfl
theorem rd_more {l R : List UInt8} {D : List PairL} {p : PairL} (h : pairsP l = (pairsP R).map (D ++ ·)) (h1 : oneP (cutA 38 R) = some p) (hc : cutI 38 R = true) : pairsP l = (pairsP (cutB 38 R)).map ((D ++ [p]) ++ ·) := by
  rw [h, pairs_step, h1, hc]
  cases pairsP (cutB 38 R) with
  | none => rfl
  | some x => simp
theorem rd_last {l R : List UInt8} {D : List PairL} {p : PairL} (h : pairsP l = (pairsP R).map (D ++ ·)) (h1 : oneP (cutA 38 R) = some p) (hc : cutI 38 R = false) : pairsP l = some (D ++ [p]) := by
  rw [h, pairs_step, h1, hc]; rfl
theorem rdS_bad {l : List UInt8} (h0 : ¬ l = []) (h : pairsP l = none) : rdS l = ([], 2) := by unfold rdS; rw [if_neg h0, h]
theorem rdS_long {l : List UInt8} {D : List PairL} (h0 : ¬ l = []) (h : pairsP l = some D) (h6 : 64 < D.length) : rdS l = ([], 3) := by unfold rdS; rw [if_neg h0, h]; dsimp only; rw [if_pos h6]
theorem rdS_ok {l : List UInt8} {D : List PairL} (h0 : ¬ l = []) (h : pairsP l = some D) (h6 : ¬ 64 < D.length) : rdS l = (D, 0) := by unfold rdS; rw [if_neg h0, h]; dsimp only; rw [if_neg h6]
theorem take_more {D : List PairL} {p : PairL} (h : D.length < 64) : (D ++ [p]).take 64 = D.take 64 ++ [p] := by
  rw [List.take_of_length_le (by simp; omega), List.take_of_length_le (by omega)]
theorem take_less {D : List PairL} {p : PairL} (h : ¬ D.length < 64) : (D ++ [p]).take 64 = D.take 64 := List.take_append_of_le_length (by omega)
theorem pairR_none {l : List UInt8} (h : oneP l = none) : pairR l = (⟨[], []⟩, 2) := by unfold pairR; rw [h]
theorem pairR_some {l : List UInt8} {p : PairL} (h : oneP l = some p) : pairR l = (p, 0) := by unfold pairR; rw [h]
theorem pairB (l : List UInt8) (h : l.length ≤ 140737488355327) (W : World) (p : PairL) (n : Int) (hq : pairR l = (p, n)) : Calls Tryd.prog 26 #[.string (bs l)] W fun e w' => e = .returned (.tuple #[.agg #[.string (bs p.k), .string (bs p.v)], .int .i64 n]) ∧ Below W.heap.size W w' := by
  have := pair_calls (bs l) W h
  rw [show (bs l).data.toList = l from rfl, hq] at this
  exact this
theorem cutB_less {x : UInt8} {l : List UInt8} (h : cutI x l = true) : (cutB x l).length + (cutA x l).length + 1 = l.length := by
  have := congrArg List.length (cut_yes h).1
  simp at this; omega
theorem one_len {l : List UInt8} {p : PairL} (h : oneP l = some p) : 0 < l.length := by
  cases l with
  | nil => unfold oneP at h; simp [cutI] at h
  | cons b r => simp

/- what Read leaves -/
def ReadT (w : World) (q : List PairL × Int) (e : Ending) (w' : World) : Prop :=
  ∃ v, e = .returned (.tuple #[v, .int .i64 q.2]) ∧ w'.ownsRow w.heap.size 38 2 v q.1.length (cellsP q.1) ∧ Below w.heap.size w w'
theorem read_none {w w' : World} {q : List PairL × Int} {r : Int} (h : q = ([], r)) (hb : Below w.heap.size w w') : ReadT w q (.returned (.tuple #[.slice none 0 0, .int .i64 r])) w' := by
  subst h; exact ⟨_, rfl, World.ownsRow_nil _ _ _ _, hb⟩
/- what a round keeps -/
def RdR (w : World) (l : List UInt8) (g : Nat) (a v c m : Value) (wr : World) : Prop :=
  ∃ (S : ByteArray) (D : List PairL) (b : Bool) (n k : Nat), a = .string S ∧ c = .int .i64 n ∧ m = .bool b ∧ Hid (D.length = n) ∧ Hid (k = min n 64) ∧ Hid (wr.ownsRow w.heap.size 38 2 v k (cellsP (D.take 64))) ∧ Hid (Below w.heap.size w wr) ∧
    (b = true → pairsP l = (pairsP S.data.toList).map (D ++ ·) ∧ n + S.size ≤ l.length ∧ S.size + 2 ≤ g) ∧ (b = false → pairsP l = some D ∧ n ≤ l.length + 1 ∧ 1 ≤ g)

set_option maxRecDepth 100000 in
set_option maxHeartbeats 4000000 in
theorem pRead_calls (s : ByteArray) (w : World) (hs : s.size ≤ 140737488355326) : Calls Tryd.prog 17 #[.string s] w (ReadT w (rdS s.data.toList)) := by
  obtain ⟨i0, hi, hz0, hz1, hz2⟩ := info_parts info_pair
  have HSL := Lib.hid (show s.data.toList.length = s.size from (Lib.size_eq s).symm)
  by_cases h0 : s = ⟨#[]⟩
  · subst h0
    go_enter Tryd.func17, Tryd.ntmps17
    go_wp2
    refine bodyPost_ret (v := .tuple #[.slice none 0 0, .int .i64 0]) (by simp [results, Tryd.results17, go_sem]) rfl (read_none rfl (Below.refl _ _))
  · have HN0 := Lib.hid (show ¬ s.data.toList = [] from fun e => h0 (bs_eq e))
    have g0 : s.toList.isEmpty = false := by
      have h : (bs s.data.toList).toList.isEmpty = false := by
        rw [bs_toList]
        cases hq : s.data.toList with
        | nil => exact absurd hq HN0.out
        | cons a r => rfl
      exact h
    go_enter Tryd.func17, Tryd.ntmps17
    go_wp2
    go_loopg [0, 4, 5, 6] (s.size + 2) (fun g a v c m wr => RdR w s.data.toList g a v c m wr)
    case atStart => exact ⟨s, [], true, 0, 0, rfl, rfl, rfl, Lib.hid rfl, Lib.hid rfl, Lib.hid (World.ownsRow_nil _ _ _ _), Lib.hid (Below.refl _ _), fun _ => ⟨by simp, by rw [HSL.out]; omega, Nat.le_refl _⟩, fun h => by cases h⟩
    case round =>
      obtain ⟨W1, rfl⟩ : ∃ W1, W1 = wr := ⟨_, rfl⟩
      obtain ⟨S, D, b, n, k, rfl, rfl, rfl, HD, HK, HOW, HB, hy, hn⟩ := hrel
      rw [HSL.out] at hy hn
      cases b with
      | true =>
        obtain ⟨hp, hns, hfl⟩ := hy rfl
        clear hy hn
        obtain ⟨gg, rfl⟩ : ∃ gg, gk = gg + 1 := ⟨gk - 1, by omega⟩
        have HC := Lib.hid (fun W => cut_calls 38 S W (by unfold maxLen; omega))
        have hA := cutA_len 38 S.data.toList
        rw [← Lib.size_eq] at hA
        cases h1 : oneP (cutA 38 S.data.toList) with
        | none =>
          have HE := Lib.hid (rdS_bad HN0.out (rd_bad hp h1))
          have HP := Lib.hid (fun W => pairB (cutA 38 S.data.toList) (by omega) W _ _ (pairR_none h1))
          clear hp h1
          go_wp2_with fail
          refine (HC.out _).mono ?_
          rintro e W2 ⟨rfl, hb⟩
          have HB2 := Lib.hid (fb2 HB.out hb (Nat.le_refl _))
          clear hb
          go_wp2_with fail
          refine (HP.out _).mono ?_
          rintro e W3 ⟨rfl, hb⟩
          have HB3 := Lib.hid (fb2 HB2.out hb (Nat.le_refl _))
          clear hb
          go_wp2
          refine bodyPost_ret (v := .tuple #[.slice none 0 0, .int .i64 2]) (by simp [results, Tryd.results17, go_sem]) rfl (read_none HE.out (HB3.out.alloc HB3.out.size _))
        | some p =>
          have HP := Lib.hid (fun W => pairB (cutA 38 S.data.toList) (by omega) W _ _ (pairR_some h1))
          have h1l := one_len h1
          cases hc : cutI 38 S.data.toList with
          | true =>
            by_cases h6 : n < 64
            · have HN := Lib.hid (rd_more hp h1 hc)
              have hbl := cutB_less hc
              rw [← Lib.size_eq] at hbl
              have HBL := Lib.hid hbl
              rw [hc] at HC
              obtain rfl : k = n := by rw [HK.out]; omega
              have k6 : (k : Int) < 64 := by omega
              have HT := Lib.hid (take_more (p := p) (show D.length < 64 by rw [HD.out]; exact h6))
              have HH1 := Lib.hid h1l
              clear hp h1 hc h1l
              go_wp2_with fail
              refine (HC.out _).mono ?_
              rintro e W2 ⟨rfl, hb⟩
              have HB2 := Lib.hid (fb2 HB.out hb (Nat.le_refl _))
              have HOW2 := Lib.hid (row_kept HOW.out hb)
              clear hb
              go_wp2_with fail
              refine (HP.out _).mono ?_
              rintro e W3 ⟨rfl, hb⟩
              have HB3 := Lib.hid (fb2 HB2.out hb (Nat.le_refl _))
              have HOW3 := Lib.hid (row_kept HOW2.out hb)
              clear hb HB2 HOW2 HB HOW
              go_wp2_with (at_builtin; (refine wpList_append_own _ rfl (.tmp 31) (.tmp 33) 43 rfl w.heap.size 38 i0 (.agg #[.string ⟨#[]⟩, .string ⟨#[]⟩]) 2 32 Tryd.underlying43 hi hz0 hz1 hz2 rfl (by decide) _ _ _ rfl ((HOW3.out.alloc _).alloc _) ⟨W3.heap.size + 1, 0, none⟩ 1 1 [.string (bs p.k), .string (bs p.v)] rfl rfl (news_gen _ _ _ (by simp)) (by intro u hu; simp at hu; rcases hu with rfl | rfl <;> rfl) (by unfold maxLen; omega) (by omega) (by have := HB3.out.size; simp; omega) ?_; intro v3 w3 ho3 hg3 _; have HO3 := Lib.hid ho3; have HG3 := Lib.hid hg3; clear ho3 hg3))
              go_roundg gg
              case measure => omega
              case rel => exact ⟨bs (cutB 38 S.data.toList), D ++ [p], true, k + 1, k + 1, rfl, by go_num, rfl, Lib.hid (by rw [List.length_append, HD.out]; rfl), Lib.hid (by omega), Lib.hid (by have := HO3.out; rw [show [Value.string (bs p.k), Value.string (bs p.v)] = cellsP [p] from (cellsP_one p).symm, ← cellsP_append, ← HT.out] at this; exact this), Lib.hid (((HB3.out.alloc HB3.out.size _).alloc (by have := HB3.out.size; simp; omega) _).grown HG3.out (by have := HB3.out.size; simp; omega) (fun q hq => (HOW3.out.lt q hq).1)), fun _ => ⟨HN.out, by have h2 := HBL.out; have h3 := HH1.out; rw [HSL.out, bs_size]; omega, by have h2 := HBL.out; have h3 := HH1.out; rw [bs_size]; omega⟩, fun h => by cases h⟩
            · have HN := Lib.hid (rd_more hp h1 hc)
              have hbl := cutB_less hc
              rw [← Lib.size_eq] at hbl
              have HBL := Lib.hid hbl
              rw [hc] at HC
              have k6 : ¬ (n : Int) < 64 := by omega
              have HT := Lib.hid (take_less (p := p) (show ¬ D.length < 64 by rw [HD.out]; exact h6))
              have HH1 := Lib.hid h1l
              clear hp h1 hc h1l
              go_wp2_with fail
              refine (HC.out _).mono ?_
              rintro e W2 ⟨rfl, hb⟩
              have HB2 := Lib.hid (fb2 HB.out hb (Nat.le_refl _))
              have HOW2 := Lib.hid (row_kept HOW.out hb)
              clear hb
              go_wp2_with fail
              refine (HP.out _).mono ?_
              rintro e W3 ⟨rfl, hb⟩
              have HB3 := Lib.hid (fb2 HB2.out hb (Nat.le_refl _))
              have HOW3 := Lib.hid (row_kept HOW2.out hb)
              clear hb HB2 HOW2 HB HOW
              go_wp2
              go_roundg gg
              case measure => omega
              case rel => exact ⟨bs (cutB 38 S.data.toList), D ++ [p], true, n + 1, k, rfl, by go_num, rfl, Lib.hid (by rw [List.length_append, HD.out]; rfl), Lib.hid (by rw [HK.out]; omega), Lib.hid (by rw [HT.out]; exact HOW3.out.alloc _), Lib.hid (HB3.out.alloc HB3.out.size _), fun _ => ⟨HN.out, by have h2 := HBL.out; have h3 := HH1.out; rw [HSL.out, bs_size]; omega, by have h2 := HBL.out; have h3 := HH1.out; rw [bs_size]; omega⟩, fun h => by cases h⟩
          | false =>
            by_cases h6 : n < 64
            · have HN := Lib.hid (rd_last hp h1 hc)
              rw [hc] at HC
              obtain rfl : k = n := by rw [HK.out]; omega
              have k6 : (k : Int) < 64 := by omega
              have HT := Lib.hid (take_more (p := p) (show D.length < 64 by rw [HD.out]; exact h6))
              have HH1 := Lib.hid h1l
              clear hp h1 hc h1l
              go_wp2_with fail
              refine (HC.out _).mono ?_
              rintro e W2 ⟨rfl, hb⟩
              have HB2 := Lib.hid (fb2 HB.out hb (Nat.le_refl _))
              have HOW2 := Lib.hid (row_kept HOW.out hb)
              clear hb
              go_wp2_with fail
              refine (HP.out _).mono ?_
              rintro e W3 ⟨rfl, hb⟩
              have HB3 := Lib.hid (fb2 HB2.out hb (Nat.le_refl _))
              have HOW3 := Lib.hid (row_kept HOW2.out hb)
              clear hb HB2 HOW2 HB HOW
              go_wp2_with (at_builtin; (refine wpList_append_own _ rfl (.tmp 31) (.tmp 33) 43 rfl w.heap.size 38 i0 (.agg #[.string ⟨#[]⟩, .string ⟨#[]⟩]) 2 32 Tryd.underlying43 hi hz0 hz1 hz2 rfl (by decide) _ _ _ rfl ((HOW3.out.alloc _).alloc _) ⟨W3.heap.size + 1, 0, none⟩ 1 1 [.string (bs p.k), .string (bs p.v)] rfl rfl (news_gen _ _ _ (by simp)) (by intro u hu; simp at hu; rcases hu with rfl | rfl <;> rfl) (by unfold maxLen; omega) (by omega) (by have := HB3.out.size; simp; omega) ?_; intro v3 w3 ho3 hg3 _; have HO3 := Lib.hid ho3; have HG3 := Lib.hid hg3; clear ho3 hg3))
              go_roundg gg
              case measure => omega
              case rel => exact ⟨bs (cutB 38 S.data.toList), D ++ [p], false, k + 1, k + 1, rfl, by go_num, rfl, Lib.hid (by rw [List.length_append, HD.out]; rfl), Lib.hid (by omega), Lib.hid (by have := HO3.out; rw [show [Value.string (bs p.k), Value.string (bs p.v)] = cellsP [p] from (cellsP_one p).symm, ← cellsP_append, ← HT.out] at this; exact this), Lib.hid (((HB3.out.alloc HB3.out.size _).alloc (by have := HB3.out.size; simp; omega) _).grown HG3.out (by have := HB3.out.size; simp; omega) (fun q hq => (HOW3.out.lt q hq).1)), fun h => (by cases h), fun _ => ⟨HN.out, by rw [HSL.out]; omega, by omega⟩⟩
            · have HN := Lib.hid (rd_last hp h1 hc)
              rw [hc] at HC
              have k6 : ¬ (n : Int) < 64 := by omega
              have HT := Lib.hid (take_less (p := p) (show ¬ D.length < 64 by rw [HD.out]; exact h6))
              have HH1 := Lib.hid h1l
              clear hp h1 hc h1l
              go_wp2_with fail
              refine (HC.out _).mono ?_
              rintro e W2 ⟨rfl, hb⟩
              have HB2 := Lib.hid (fb2 HB.out hb (Nat.le_refl _))
              have HOW2 := Lib.hid (row_kept HOW.out hb)
              clear hb
              go_wp2_with fail
              refine (HP.out _).mono ?_
              rintro e W3 ⟨rfl, hb⟩
              have HB3 := Lib.hid (fb2 HB2.out hb (Nat.le_refl _))
              have HOW3 := Lib.hid (row_kept HOW2.out hb)
              clear hb HB2 HOW2 HB HOW
              go_wp2
              go_roundg gg
              case measure => omega
              case rel => exact ⟨bs (cutB 38 S.data.toList), D ++ [p], false, n + 1, k, rfl, by go_num, rfl, Lib.hid (by rw [List.length_append, HD.out]; rfl), Lib.hid (by rw [HK.out]; omega), Lib.hid (by rw [HT.out]; exact HOW3.out.alloc _), Lib.hid (HB3.out.alloc HB3.out.size _), fun h => (by cases h), fun _ => ⟨HN.out, by rw [HSL.out]; omega, by omega⟩⟩
      | false =>
        obtain ⟨hp, hns, hfl⟩ := hn rfl
        clear hy hn
        by_cases h6 : 64 < n
        · have HE := Lib.hid (rdS_long HN0.out hp (by rw [HD.out]; exact h6))
          have k6 : (64 : Int) < (n : Int) := by omega
          clear hp
          go_wp2
          refine bodyPost_ret (v := .tuple #[.slice none 0 0, .int .i64 3]) (by simp [results, Tryd.results17, go_sem]) rfl (read_none HE.out HB.out)
        · have HE := Lib.hid (rdS_ok HN0.out hp (by rw [HD.out]; exact h6))
          have k6 : ¬ (64 : Int) < (n : Int) := by omega
          clear hp
          go_wp2
          refine bodyPost_ret (v := .tuple #[u4, .int .i64 0]) (by simp [results, Tryd.results17, go_sem]) rfl ?_
          rw [HE.out]
          refine ⟨_, rfl, ?_, HB.out⟩
          have := HOW.out
          rw [HK.out, List.take_of_length_le (by rw [HD.out]; omega), show min n 64 = D.length by rw [HD.out]; omega] at this
          exact this

end Go.Proofs.YtnfmjkinahbilaaDoor
