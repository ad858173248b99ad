/- The triples whose text a text is, by its line feeds: the document's own answer, for every text of at most 2^20 bytes. -/
import Derived.Test.YthdhoaihmlodjaaRefOne
import Derived.Test.YthdhoaihmlodjaaTripRead
namespace Go.Proofs.Ythdhoaihmlodjaa
open Go.RowKit

/- what a round keeps: the triples so far, where the line began, how far the text is read -/
def RefR (w : World) (s : List UInt8) (g : Nat) (v f i : Value) (wr : World) : Prop :=
  ∃ (T : List TripL) (p k : Nat), f = .int .i64 p ∧ i = .int .i64 k ∧ k + g = s.length ∧ p ≤ k ∧ Hid (Off s T (s.drop p)) ∧ Hid (¬ (10 : UInt8) ∈ (s.drop p).take (k - p)) ∧
    wr.ownsRow w.heap.size 25 12 v T.length (tripCells T) ∧ Below w.heap.size w wr ∧ T.length ≤ p

theorem cut_line {l : List UInt8} {p k : Nat} (hp : p ≤ k) (hk : k < l.length) (h : l[k] = 10) : l.drop p = (l.drop p).take (k - p) ++ 10 :: l.drop (k + 1) := by
  conv => lhs; rw [← List.take_append_drop (k - p) (l.drop p)]
  rw [List.drop_drop, show p + (k - p) = k by omega, List.drop_eq_getElem_cons hk, h]
theorem no_feed {l : List UInt8} {p k : Nat} (hp : p ≤ k) (hk : k < l.length) (h : l[k] ≠ 10) (hn : ¬ (10 : UInt8) ∈ (l.drop p).take (k - p)) : ¬ (10 : UInt8) ∈ (l.drop p).take (k + 1 - p) := by
  rw [show k + 1 - p = (k - p) + 1 by omega, List.take_succ_eq_append_getElem (by rw [List.length_drop]; omega), List.mem_append, List.mem_singleton]
  rintro (c | c)
  · exact hn c
  · rw [List.getElem_drop] at c
    exact h (by rw [c]; congr 1; omega)
theorem read_all2 {w w' : World} {l : List UInt8} {T : List TripL} {v : Value} (h : Off l T []) (hl : T.length ≤ 4096) (hv : w'.ownsRow w.heap.size 25 12 v T.length (tripCells T)) (hb : Below w.heap.size w w') :
    ReadT w l (.returned (.tuple #[v, .int .i64 0, .int .i64 0])) w' := by
  unfold ReadT
  rw [off_all h hl]
  exact ⟨v, rfl, hv, hb⟩
theorem news12b (W : World) (T : TypeId) (a b c d e f g h i j k l : Value) {X : Nat} (hX : X = W.heap.size) : ∀ n u, [a, b, c, d, e, f, g, h, i, j, k, l][n]? = some u → (W.alloc (.cells #[a, b, c, d, e, f, g, h, i, j, k, l] T)).cell? ((⟨X, 0, none⟩ : Addr).add n) = some u := by
  subst hX
  exact news12 W T a b c d e f g h i j k l
theorem byte_ten {c : UInt8} (h : (c.toNat : Int) = 10) : c = 10 := (u8_of (n := 10) (by omega)).1 h

set_option maxRecDepth 100000 in
set_option maxHeartbeats 8000000 in
theorem rtRead_calls (s : ByteArray) (w : World) (hs : s.size ≤ 1048576) : Calls Try.prog 16 #[.string s] w (ReadT w s.data.toList) := by
  obtain ⟨i0, hi, hz0, hz1, hz2⟩ := info_parts info_triple
  have HSL := Lib.hid (show s.data.toList.length = s.size from (Lib.size_eq s).symm)
  have hmade := World.ownsRow_made (base := w.heap.size) (e := 25) (size := 12) w #[] 0 (Nat.le_refl _) (by unfold maxLen; omega) rfl
  have HMADE := Lib.hid hmade
  clear hmade
  go_enter Try.func16, Try.ntmps16
  go_wp2
  go_loopg [5, 6, 7] s.size (fun g v f i wr => RefR w s.data.toList g v f i wr)
  case atStart => exact ⟨[], 0, 0, rfl, rfl, by rw [HSL.out]; omega, Nat.le_refl _, off_start _, by show ¬ _; simp, HMADE.out, box_below _ _, Nat.le_refl _⟩
  case round =>
    obtain ⟨T, p, k, rfl, rfl, hkg, hpk, hoff, hno, hown, hbw, hTp⟩ := hrel
    rw [HSL.out] at hkg
    clear HMADE
    obtain ⟨x5, c5, rfl⟩ := row_slice hown
    by_cases hlt : k < s.size
    · have hkl : k < s.data.toList.length := by rw [HSL.out]; exact hlt
      have hget := get_list s k hlt
      by_cases h10 : (s[k].toNat : Int) = 10
      · have g10 : ((s[k].toNat : Int) != 10) = false := by simp [h10]
        have hcut := cut_line hpk hkl (by rw [hget]; exact byte_ten h10)
        obtain ⟨l, hl⟩ : ∃ l, (s.data.toList.drop p).take (k - p) = l := ⟨_, rfl⟩
        have hpb := piece_bs s p k
        rw [hl] at hcut hno hpb
        have hline := lineS_end l (s.data.toList.drop (k + 1)) hno.out
        rw [← hcut] at hline
        obtain ⟨⟨t, b⟩, hv⟩ : ∃ q, oneV l = q := ⟨_, rfl⟩
        rw [hv] at hline
        dsimp only at hline
        have hlsz : (bs l).size ≤ s.size := by rw [← hl, bs_size, List.length_take, List.length_drop, HSL.out]; omega
        have HPB := Lib.hid hpb
        have HV := Lib.hid hv
        have hne : s.data.toList.drop p ≠ [] := by rw [hcut]; simp
        clear h10 hget hcut hl hpb hv
        have gp0 : (0 : Int) ≤ (p : Int) := by omega
        have gpk : (p : Int) ≤ (k : Int) := by omega
        cases b with
        | false =>
          have HN := Lib.hid (show lineS (s.data.toList.drop p) = none by rw [hline]; rfl)
          have HNE := Lib.hid hne
          clear hline hne
          go_wp2_with fail
          rw [HPB.out]
          refine (one_calls (bs l) _ (by omega)).mono ?_
          rintro e w1 ⟨rfl, hb1⟩
          rw [bs_data, HV.out]
          obtain ⟨⟨ak, ax, ay, az⟩, ⟨bk, bx, by', bz⟩, ⟨ck, cx, cy, cz⟩⟩ := t
          simp only [TripL.v]
          go_wp2
          refine bodyPost_ret (v := .tuple #[.slice none 0 0, .int .i64 ((T.length : Int) + 1), .int .i64 2]) (by simp [results, Try.results16, go_sem]) rfl ?_
          exact read_bad hoff.out HN.out HNE.out ((hbw.trans (hb1.mono hbw.size)).alloc (Nat.le_trans hbw.size hb1.size) _)
        | true =>
          have HMORE := Lib.hid (off_more hoff.out (show lineS (s.data.toList.drop p) = some (t, s.data.toList.drop (k + 1)) by rw [hline]; rfl))
          clear hline hne
          obtain ⟨gk', rfl⟩ : ∃ n, gk = n + 1 := ⟨gk - 1, by omega⟩
          go_wp2_with fail
          rw [HPB.out]
          refine (one_calls (bs l) _ (by omega)).mono ?_
          rintro e w1 ⟨rfl, hb1⟩
          rw [bs_data, HV.out]
          obtain ⟨⟨ak, ax, ay, az⟩, ⟨bk, bx, by', bz⟩, ⟨ck, cx, cy, cz⟩⟩ := t
          simp only [TripL.v]
          have hown1 := rowOn hown hb1
          have hbw1 := hbw.trans (hb1.mono hbw.size)
          have hz1' : w.heap.size ≤ w1.heap.size := hbw1.size
          clear hb1 hown hbw
          go_wp2_with (at_builtin; go_must (refine wpList_append_own _ rfl (.tmp 34) (.tmp 36) 33 rfl w.heap.size 25 i0 noTrip.v 12 168 Try.underlying33 hi hz0 hz1 hz2 rfl (by decide) _ _ _ rfl ((hown1.alloc _).alloc _) ⟨w1.heap.size + 1, 0, none⟩ 1 1 [.int .i64 ak, .string (bs ax), .string (bs ay), .string (bs az), .int .i64 bk, .string (bs bx), .string (bs by'), .string (bs bz), .int .i64 ck, .string (bs cx), .string (bs cy), .string (bs cz)] rfl rfl (news12b _ _ _ _ _ _ _ _ _ _ _ _ _ _ (by simp)) (by intro u hu; simp at hu; rcases hu with rfl | rfl | rfl | rfl | rfl | rfl | rfl | rfl | rfl | rfl | rfl | rfl <;> rfl) (by unfold maxLen; omega) (by omega) (by simp; omega) ?_; intro v3 w3 hown4 hgrow4 hnil4; have HN4 := Lib.hid hnil4; clear hnil4; have HO4 := Lib.hid hown4; clear hown4; have HG4 := Lib.hid hgrow4; clear hgrow4))
          go_roundg gk'
          case measure => omega
          case rel => exact ⟨T ++ [⟨⟨ak, ax, ay, az⟩, ⟨bk, bx, by', bz⟩, ⟨ck, cx, cy, cz⟩⟩], k + 1, k + 1, by go_num, by go_num, by rw [HSL.out]; omega, Nat.le_refl _, HMORE, by rw [Nat.sub_self]; show ¬ _; simp, by rw [tripCells_append, List.length_append, tripCells_one]; exact HO4.out, ((hbw1.alloc hz1' _).alloc (by simp; omega) _).grown HG4.out (by simp; omega) (fun q hq => (hown1.lt q hq).1), by simp; omega⟩
      · have g10 : ((s[k].toNat : Int) != 10) = true := by simp [h10]
        have HNO := Lib.hid (no_feed hpk hkl (by rw [hget]; exact fun c => h10 (by rw [c]; rfl)) hno.out)
        clear h10 hget
        obtain ⟨gk', rfl⟩ : ∃ n, gk = n + 1 := ⟨gk - 1, by omega⟩
        go_wp2
        go_roundg gk'
        case measure => omega
        case rel => exact ⟨T, p, k + 1, rfl, by go_num, by rw [HSL.out]; omega, by omega, hoff, HNO, hown, hbw, hTp⟩
    · have hks : k = s.size := by omega
      subst hks
      have hall : ¬ (10 : UInt8) ∈ s.data.toList.drop p := by
        have := hno.out
        rwa [List.take_of_length_le (by rw [List.length_drop, HSL.out]; exact Nat.le_refl _)] at this
      by_cases hps : p < s.size
      · have HN := Lib.hid (lineS_none _ hall)
        have HNE := Lib.hid (show s.data.toList.drop p ≠ [] by intro c; have := congrArg List.length c; rw [List.length_drop, HSL.out, List.length_nil] at this; omega)
        clear hall hno
        go_wp2
        refine bodyPost_ret (v := .tuple #[.slice none 0 0, .int .i64 ((T.length : Int) + 1), .int .i64 2]) (by simp [results, Try.results16, go_sem]) rfl ?_
        exact read_bad hoff.out HN.out HNE.out hbw
      · have HD := Lib.hid (show s.data.toList.drop p = [] from List.drop_eq_nil_of_le (by rw [HSL.out]; omega))
        rw [HD.out] at hoff
        clear hall hno
        by_cases h4 : 4096 < T.length
        · have g4 : (4096 : Int) < (T.length : Int) := by omega
          go_wp2
          refine bodyPost_ret (v := .tuple #[.slice none 0 0, .int .i64 0, .int .i64 3]) (by simp [results, Try.results16, go_sem]) rfl (read_long hoff.out h4 hbw)
        · have g4 : ¬ (4096 : Int) < (T.length : Int) := by omega
          go_wp2
          refine bodyPost_ret (by simp [results, Try.results16, go_sem]) rfl (read_all2 hoff.out (by omega) hown hbw)

end Go.Proofs.Ythdhoaihmlodjaa
