/- The pairs of a text by the document's own answer, for every text (written by gen/mkpctrread.py). -/
import Derived.Test.YtnfmjkinahbilaaDoorRPctOne
import Derived.Test.YtnfmjkinahbilaaDoorPctRead
namespace Go.Proofs.YtnfmjkinahbilaaDoor
open Go.RowKit

theorem drop_split (l : List UInt8) (f k : Nat) (hf : f ≤ k) : l.drop f = (l.drop f).take (k - f) ++ l.drop k := by
  conv => lhs; rw [← List.take_append_drop (k - f) (l.drop f), List.drop_drop, show f + (k - f) = k by omega]
theorem piece_cut {l : List UInt8} {f k : Nat} (hk : k < l.length) (hc : l[k] = 38) (hf : f ≤ k) (hn : (38 : UInt8) ∉ (l.drop f).take (k - f)) : cutA 38 (l.drop f) = (l.drop f).take (k - f) ∧ cutB 38 (l.drop f) = l.drop (k + 1) ∧ cutI 38 (l.drop f) = true := by
  have e := drop_split l f k hf
  rw [List.drop_eq_getElem_cons hk, hc] at e
  obtain ⟨h1, h2, h3⟩ := cut_app 38 ((l.drop f).take (k - f)) (l.drop (k + 1)) hn
  rw [← e] at h1 h2 h3
  exact ⟨h1, h2, h3⟩
theorem piece_all {l : List UInt8} {f k : Nat} (hk : l.length ≤ k) : (l.drop f).take (k - f) = l.drop f := List.take_of_length_le (by rw [List.length_drop]; omega)
theorem piece_end {l : List UInt8} {f k : Nat} (hk : l.length ≤ k) (hn : (38 : UInt8) ∉ (l.drop f).take (k - f)) : cutA 38 (l.drop f) = (l.drop f).take (k - f) ∧ cutI 38 (l.drop f) = false := by
  rw [piece_all hk] at hn ⊢
  obtain ⟨h1, _, h3⟩ := cut_none 38 (l.drop f) hn
  exact ⟨h1, h3⟩
theorem piece_next {l : List UInt8} {f k : Nat} (hk : k < l.length) (hc : ¬ l[k] = 38) (hf : f ≤ k) (hn : (38 : UInt8) ∉ (l.drop f).take (k - f)) : (38 : UInt8) ∉ (l.drop f).take (k + 1 - f) := by
  have h1 : k - f < (l.drop f).length := by rw [List.length_drop]; omega
  rw [show k + 1 - f = (k - f) + 1 by omega, List.take_succ_eq_append_getElem h1, List.mem_append, List.mem_singleton]
  rintro (h | h)
  · exact hn h
  · rw [List.getElem_drop] at h
    exact hc (by rw [h]; congr 1; omega)
theorem oneB (l : List UInt8) (h : l.length ≤ 40000000000000) (W : World) (p : PairL) (b : Bool) (hq : rOneR l = (p, b)) : Calls Tryd.prog 28 #[.string (bs l)] W fun e w' => e = .returned (.tuple #[.agg #[.string (bs p.k), .string (bs p.v)], .bool b]) ∧ Below W.heap.size W w' := by
  have := rOne_calls (bs l) W h
  rw [show (bs l).data.toList = l from rfl, hq] at this
  exact this
theorem rone_none {l : List UInt8} (h : oneP l = none) : ∃ p, rOneR l = (p, false) := by
  have := (rOne_is l).1
  rw [h] at this
  exact ⟨(rOneR l).1, by rw [← show (rOneR l).2 = false from this]⟩
theorem rone_some {l : List UInt8} {p : PairL} (h : oneP l = some p) : rOneR l = (p, true) := by
  have h1 := (rOne_is l).1
  have h2 := (rOne_is l).2 p h
  rw [h] at h1
  rw [← h2, ← show (rOneR l).2 = true from h1]
theorem is38 {b : UInt8} (h : (b.toNat : Int) = 38) : b = 38 := (u8_of (b := b) (n := 38) (by omega)).1 h
theorem not38 {b : UInt8} (h : ¬ (b.toNat : Int) = 38) : ¬ b = 38 := fun e => h (by rw [e]; rfl)
/- what a round keeps -/
def RRdR (w : World) (l : List UInt8) (g : Nat) (v a c : Value) (wr : World) : Prop :=
  ∃ (k f n : Nat) (D : List PairL), c = .int .i64 k ∧ a = .int .i64 f ∧ k + g = l.length + 1 ∧ n ≤ f ∧ f ≤ k ∧ Hid (D.length = n) ∧ Hid ((38 : UInt8) ∉ (l.drop f).take (k - f)) ∧ Hid (wr.ownsRow w.heap.size 38 2 v n (cellsP D)) ∧ Hid (Below w.heap.size w wr) ∧
    Hid (k ≤ l.length → pairsP l = (pairsP (l.drop f)).map (D ++ ·)) ∧ Hid (k = l.length + 1 → pairsP l = some D)

set_option maxRecDepth 100000 in
set_option maxHeartbeats 4000000 in
theorem rRead_calls (s : ByteArray) (w : World) (hs : s.size ≤ 4000000000000) : Calls Tryd.prog 19 #[.string s] w (ReadT w (rdS s.data.toList)) := by
  obtain ⟨i0, hi, hz0, hz1, hz2⟩ := info_parts info_pair
  have HSL := Lib.hid (show s.data.toList.length = s.size from (Lib.size_eq s).symm)
  have HMADE := Lib.hid (World.ownsRow_made (base := w.heap.size) (e := 38) (size := 2) w #[] 0 (Nat.le_refl _) (by unfold maxLen; omega) rfl)
  by_cases h0 : s = ⟨#[]⟩
  · subst h0
    go_enter Tryd.func19, Tryd.ntmps19
    go_wp2
    refine bodyPost_ret (v := .tuple #[.slice (some ⟨w.heap.size, 0, none⟩) 0 0, .int .i64 0]) (by simp [results, Tryd.results19, go_sem]) rfl ⟨_, rfl, HMADE.out, box_below _ _⟩
  · have HN0 := Lib.hid (show ¬ s.data.toList = [] from fun e => h0 (bs_eq e))
    have g0 : s.toList.isEmpty = false := by
      have h : (bs s.data.toList).toList.isEmpty = false := by
        rw [bs_toList]
        cases hq : s.data.toList with
        | nil => exact absurd hq HN0.out
        | cons a r => rfl
      exact h
    go_enter Tryd.func19, Tryd.ntmps19
    go_wp2
    go_loopg [4, 5, 6] (s.size + 1) (fun g v a c wr => RRdR w s.data.toList g v a c wr)
    case atStart => exact ⟨0, 0, 0, [], rfl, rfl, by rw [HSL.out]; omega, Nat.le_refl _, Nat.le_refl _, Lib.hid rfl, Lib.hid (by simp), HMADE, Lib.hid (box_below _ _), Lib.hid (fun _ => by simp), Lib.hid (fun h => by omega)⟩
    case round =>
      obtain ⟨W1, rfl⟩ : ∃ W1, W1 = wr := ⟨_, rfl⟩
      obtain ⟨k, f, n, D, rfl, rfl, hkg, hnf, hfk, HD, HN, HOW, HB, HA, HF⟩ := hrel
      rw [HSL.out] at hkg HA HF
      by_cases hk : k ≤ s.size
      · obtain ⟨gg, rfl⟩ : ∃ gg, gk = gg + 1 := ⟨gk - 1, by omega⟩
        have k1 : (k : Int) ≤ (s.size : Int) := by omega
        have hp := HA.out hk
        have e1 : s.extract f k = bs ((s.data.toList.drop f).take (k - f)) := piece_bs s f k
        have hql : ((s.data.toList.drop f).take (k - f)).length ≤ 40000000000000 := by rw [List.length_take, List.length_drop, HSL.out]; omega
        have f0 : (0 : Int) ≤ (f : Int) := by omega
        have f1 : (f : Int) ≤ (k : Int) := by omega
        by_cases hl : k < s.size
        · have hkl : k < s.data.toList.length := by rw [HSL.out]; exact hl
          have hgk := get_list s k hl
          have k2 : (k : Int) < (s.size : Int) := by omega
          by_cases h38 : (s[k].toNat : Int) = 38
          · have g38 : ((s[k].toNat : Int) != 38) = false := by simp [h38]
            obtain ⟨hca, hcb, hci⟩ := piece_cut hkl (by rw [hgk]; exact is38 h38) hfk HN.out
            obtain ⟨q, hq⟩ : ∃ q, (s.data.toList.drop f).take (k - f) = q := ⟨_, rfl⟩
            rw [hq] at e1 hql hca
            clear hq h38 hgk
            cases h1 : oneP q with
            | none =>
              have HE := Lib.hid (rdS_bad HN0.out (rd_bad hp (by rw [hca]; exact h1)))
              obtain ⟨p, hone⟩ := rone_none h1
              have HP := Lib.hid (fun W => oneB q hql W _ _ hone)
              rw [← e1] at HP
              clear hp h1 hone hca hcb hci e1
              go_wp2_with fail
              refine (HP.out _).mono ?_
              rintro e W2 ⟨rfl, hb⟩
              have HB2 := Lib.hid (fb2 HB.out hb (Nat.le_refl _))
              clear hb
              go_wp2
              refine bodyPost_ret (v := .tuple #[.slice none 0 0, .int .i64 2]) (by simp [results, Tryd.results19, go_sem]) rfl (read_none HE.out (HB2.out.alloc HB2.out.size _))
            | some p =>
              have HNX := Lib.hid (rd_more hp (by rw [hca]; exact h1) hci)
              have HP := Lib.hid (fun W => oneB q hql W _ _ (rone_some h1))
              rw [← e1] at HP
              clear hp h1 hca hci e1
              go_wp2_with fail
              refine (HP.out _).mono ?_
              rintro e W2 ⟨rfl, hb⟩
              have HB2 := Lib.hid (fb2 HB.out hb (Nat.le_refl _))
              have HOW2 := Lib.hid (row_kept HOW.out hb)
              clear hb HB HOW
              go_wp2_with (at_builtin; (refine wpList_append_own _ rfl (.tmp 39) (.tmp 41) 43 rfl w.heap.size 38 i0 (.agg #[.string ⟨#[]⟩, .string ⟨#[]⟩]) 2 32 Tryd.underlying43 hi hz0 hz1 hz2 rfl (by decide) _ _ _ rfl ((HOW2.out.alloc _).alloc _) ⟨W2.heap.size + 1, 0, none⟩ 1 1 [.string (bs p.k), .string (bs p.v)] rfl rfl (news_gen _ _ _ (by simp)) (by intro u hu; simp at hu; rcases hu with rfl | rfl <;> rfl) (by unfold maxLen; omega) (by omega) (by have := HB2.out.size; simp; omega) ?_; intro v3 w3 ho3 hg3 _; have HO3 := Lib.hid ho3; have HG3 := Lib.hid hg3; clear ho3 hg3))
              go_roundg gg
              case measure => omega
              case rel => exact ⟨k + 1, k + 1, n + 1, D ++ [p], by go_num, by go_num, by rw [HSL.out]; omega, by omega, Nat.le_refl _, Lib.hid (by rw [List.length_append, HD.out]; rfl), Lib.hid (by rw [show k + 1 - (k + 1) = 0 by omega]; simp), Lib.hid (by have := HO3.out; rw [show [Value.string (bs p.k), Value.string (bs p.v)] = cellsP [p] from (cellsP_one p).symm, ← cellsP_append] at this; exact this), Lib.hid (((HB2.out.alloc HB2.out.size _).alloc (by have := HB2.out.size; simp; omega) _).grown HG3.out (by have := HB2.out.size; simp; omega) (fun q hq => (HOW2.out.lt q hq).1)), Lib.hid (fun _ => by rw [← hcb]; exact HNX.out), Lib.hid (fun h => by rw [HSL.out] at h; omega)⟩
          · have g38 : ((s[k].toNat : Int) != 38) = true := by simpa using h38
            have HN' := Lib.hid (piece_next hkl (by rw [hgk]; exact not38 h38) hfk HN.out)
            clear h38 hgk hp e1 hql
            go_wp2
            go_roundg gg
            case measure => omega
            case rel => exact ⟨k + 1, f, n, D, by go_num, rfl, by rw [HSL.out]; omega, hnf, by omega, HD, HN', HOW, HB, Lib.hid (fun _ => HA.out hk), Lib.hid (fun h => by rw [HSL.out] at h; omega)⟩
        · have k2 : ¬ (k : Int) < (s.size : Int) := by omega
          obtain rfl : k = s.size := by omega
          obtain ⟨hca, hci⟩ := piece_end (by rw [HSL.out]; exact Nat.le_refl _) HN.out
          obtain ⟨q, hq⟩ : ∃ q, (s.data.toList.drop f).take (s.size - f) = q := ⟨_, rfl⟩
          rw [hq] at e1 hql hca
          clear hq
          cases h1 : oneP q with
          | none =>
            have HE := Lib.hid (rdS_bad HN0.out (rd_bad hp (by rw [hca]; exact h1)))
            obtain ⟨p, hone⟩ := rone_none h1
            have HP := Lib.hid (fun W => oneB q hql W _ _ hone)
            rw [← e1] at HP
            clear hp h1 hone hca hci e1
            go_wp2_with fail
            refine (HP.out _).mono ?_
            rintro e W2 ⟨rfl, hb⟩
            have HB2 := Lib.hid (fb2 HB.out hb (Nat.le_refl _))
            clear hb
            go_wp2
            refine bodyPost_ret (v := .tuple #[.slice none 0 0, .int .i64 2]) (by simp [results, Tryd.results19, go_sem]) rfl (read_none HE.out (HB2.out.alloc HB2.out.size _))
          | some p =>
            have HNX := Lib.hid (rd_last hp (by rw [hca]; exact h1) hci)
            have HP := Lib.hid (fun W => oneB q hql W _ _ (rone_some h1))
            rw [← e1] at HP
            clear hp h1 hca hci e1
            go_wp2_with fail
            refine (HP.out _).mono ?_
            rintro e W2 ⟨rfl, hb⟩
            have HB2 := Lib.hid (fb2 HB.out hb (Nat.le_refl _))
            have HOW2 := Lib.hid (row_kept HOW.out hb)
            clear hb HB HOW
            go_wp2_with (at_builtin; (refine wpList_append_own _ rfl (.tmp 39) (.tmp 41) 43 rfl w.heap.size 38 i0 (.agg #[.string ⟨#[]⟩, .string ⟨#[]⟩]) 2 32 Tryd.underlying43 hi hz0 hz1 hz2 rfl (by decide) _ _ _ rfl ((HOW2.out.alloc _).alloc _) ⟨W2.heap.size + 1, 0, none⟩ 1 1 [.string (bs p.k), .string (bs p.v)] rfl rfl (news_gen _ _ _ (by simp)) (by intro u hu; simp at hu; rcases hu with rfl | rfl <;> rfl) (by unfold maxLen; omega) (by omega) (by have := HB2.out.size; simp; omega) ?_; intro v3 w3 ho3 hg3 _; have HO3 := Lib.hid ho3; have HG3 := Lib.hid hg3; clear ho3 hg3))
            go_roundg gg
            case measure => omega
            case rel => exact ⟨s.size + 1, s.size + 1, n + 1, D ++ [p], by go_num, by go_num, by rw [HSL.out]; omega, by omega, Nat.le_refl _, Lib.hid (by rw [List.length_append, HD.out]; rfl), Lib.hid (by rw [show s.size + 1 - (s.size + 1) = 0 by omega]; simp), Lib.hid (by have := HO3.out; rw [show [Value.string (bs p.k), Value.string (bs p.v)] = cellsP [p] from (cellsP_one p).symm, ← cellsP_append] at this; exact this), Lib.hid (((HB2.out.alloc HB2.out.size _).alloc (by have := HB2.out.size; simp; omega) _).grown HG3.out (by have := HB2.out.size; simp; omega) (fun q hq => (HOW2.out.lt q hq).1)), Lib.hid (fun h => by rw [HSL.out] at h; omega), Lib.hid (fun _ => HNX.out)⟩
      · have k1 : ¬ (k : Int) ≤ (s.size : Int) := by omega
        have hp := HF.out (by omega)
        obtain ⟨va, vc, hv⟩ := row_slice HOW.out
        have hcap : n ≤ vc := by
          rcases HOW.out.2 with ⟨hv2, h2⟩ | ⟨g, cap, cur, hv2, _, _, hc, _⟩
          · omega
          · rw [hv] at hv2; injection hv2 with _ _ h3; omega
        subst hv
        by_cases h6 : 64 < n
        · have HE := Lib.hid (rdS_long HN0.out hp (by rw [HD.out]; exact h6))
          have k6 : (64 : Int) < (n : Int) := by omega
          clear hp
          go_wp2
          refine bodyPost_ret (v := .tuple #[.slice none 0 0, .int .i64 3]) (by simp [results, Tryd.results19, go_sem]) rfl (read_none HE.out HB.out)
        · have HE := Lib.hid (rdS_ok HN0.out hp (by rw [HD.out]; exact h6))
          have k6 : ¬ (64 : Int) < (n : Int) := by omega
          clear hp
          go_wp2
          refine bodyPost_ret (v := .tuple #[.slice va n vc, .int .i64 0]) (by simp [results, Tryd.results19, go_sem]) rfl ?_
          rw [HE.out]
          exact ⟨_, rfl, by show W1.ownsRow w.heap.size 38 2 (.slice va n vc) D.length (cellsP D); rw [HD.out]; exact HOW.out, HB.out⟩

end Go.Proofs.YtnfmjkinahbilaaDoor
