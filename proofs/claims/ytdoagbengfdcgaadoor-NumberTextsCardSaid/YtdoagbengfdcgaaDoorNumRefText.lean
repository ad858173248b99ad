/- The document's own text of a number: package number's. -/
import Derived.Test.YtdoagbengfdcgaaDoorNumRefDigits
namespace Go.Proofs.YtdoagbengfdcgaaDoor
open Go.RowKit
open Go.Lib (nDigits decDigits)

theorem nDigits_ten (u : Nat) : nDigits (u / 10) = max 1 (nDigits u - 1) := by
  by_cases h : u < 10
  · rw [Nat.div_eq_of_lt h, Lib.nDigits_small (by omega), Lib.nDigits_small h]; rfl
  · have := Lib.nDigits_pos (u / 10)
    rw [Lib.nDigits_big h]; omega
theorem nDigits_shift (s : Nat) : ∀ u, nDigits (u / 10 ^ s) = max (s + 1) (nDigits u) - s := by
  induction s with
  | zero => intro u; have := Lib.nDigits_pos u; rw [Nat.pow_zero, Nat.div_one]; omega
  | succ s ih =>
    intro u
    rw [Nat.pow_succ, ← Nat.div_div_eq_div_mul, nDigits_ten, ih u]
    omega
theorem digs_one (u : Nat) : digsL u 1 = decDigits u := by
  have := Lib.nDigits_pos u
  unfold digsL
  rw [dec_low, show max 1 (nDigits u) = nDigits u by omega]
theorem digs_length (u l : Nat) : (digsL u l).length = max l (nDigits u) := lowD_length _ _
theorem digs_cut (u s : Nat) : (digsL u (s + 1)).take ((digsL u (s + 1)).length - s) = decDigits (u / 10 ^ s) ∧ (digsL u (s + 1)).drop ((digsL u (s + 1)).length - s) = lowD s u := by
  have hl := digs_length u (s + 1)
  have e : digsL u (s + 1) = decDigits (u / 10 ^ s) ++ lowD s u := by
    unfold digsL
    have := lowD_split (max (s + 1) (nDigits u) - s) s u
    rw [show max (s + 1) (nDigits u) - s + s = max (s + 1) (nDigits u) by omega] at this
    rw [this, dec_low, nDigits_shift]
  have h1 : (decDigits (u / 10 ^ s)).length = (digsL u (s + 1)).length - s := by rw [e, List.length_append, lowD_length]; omega
  rw [← h1, e]
  exact ⟨List.take_left, List.drop_left⟩
theorem size_append (a b : ByteArray) : (a ++ b).size = a.size + b.size := ByteArray.size_append

set_option maxRecDepth 100000 in
set_option maxHeartbeats 2000000 in
theorem rText_whole (v : Int) (s : Nat) (w : World) (_hs : s ≤ 4) (h1 : -999999999 ≤ v) (h2 : v ≤ 999999999) :
    Calls Tryd.prog 14 #[.agg #[.int .i64 v, .int .i64 s, .bool false]] w fun e w' => e = .returned (.string (bs (textL v s false))) ∧ Below w.heap.size w w' := by
  obtain ⟨u, hu⟩ : ∃ u, v.natAbs = u := ⟨_, rfl⟩
  have hu9 : u ≤ 999999999 := by omega
  have hval : v = (u : Int) ∧ ¬ v < 0 ∨ v = -(u : Int) ∧ v < 0 := by omega
  have HD : Hid (∀ (y z : Int) W, y = (u : Int) → z = (1 : Nat) → Calls Tryd.prog 29 #[.int .i64 y, .int .i64 z] W fun e w' => e = .returned (.string (bs (digsL u 1))) ∧ Below W.heap.size W w') := Lib.hid fun y z W hy hz' => by
    rw [hy, hz']
    exact rDigits_calls u 1 W hu9 (by omega) (by omega)
  have hnd : nDigits u ≤ 9 := nDigits_le 9 u (by omega) (by omega)
  have hsz0 : (bs (digsL u 1)).size ≤ 9 := by rw [bs_size, digs_length]; omega
  have HE : Hid (bs (textL v s false) = bs (if v < 0 then [45] else []) ++ bs (digsL u 1)) := Lib.hid (by rw [bs_app, digs_one]; unfold textL; rw [hu]; rfl)
  clear hnd
  generalize bs (digsL u 1) = sd at HD HE hsz0
  generalize bs (textL v s false) = R at HE ⊢
  clear hu
  rcases hval with ⟨rfl, hn⟩ | ⟨rfl, hn⟩
  · rw [if_neg hn] at HE
    go_enter Tryd.func14, Tryd.ntmps14
    go_wp2_with fail
    refine (HD.out _ _ _ ?_ ?_).mono ?_
    · omega
    · rfl
    rintro e w1 ⟨rfl, hb⟩
    obtain ⟨hc, hf⟩ := bcell hb
    go_wp2
    go_ret
    exact ⟨by rw [HE.out]; rfl, one_box hb⟩
  · rw [if_pos hn] at HE
    go_enter Tryd.func14, Tryd.ntmps14
    go_wp2_with fail
    refine (HD.out _ _ _ ?_ ?_).mono ?_
    · omega
    · rfl
    rintro e w1 ⟨rfl, hb⟩
    obtain ⟨hc, hf⟩ := bcell hb
    go_wp2
    go_ret
    exact ⟨by rw [HE.out]; rfl, one_box hb⟩

set_option maxRecDepth 100000 in
set_option maxHeartbeats 2000000 in
theorem rText_dec0 (v : Int) (s : Nat) (w : World) (hs : s ≤ 4) (h1 : -999999999 ≤ v) (h2 : v ≤ 999999999) (hz : s = 0) :
    Calls Tryd.prog 14 #[.agg #[.int .i64 v, .int .i64 s, .bool true]] w fun e w' => e = .returned (.string (bs (textL v s true))) ∧ Below w.heap.size w w' := by
  obtain ⟨u, hu⟩ : ∃ u, v.natAbs = u := ⟨_, rfl⟩
  have hu9 : u ≤ 999999999 := by omega
  have hval : v = (u : Int) ∧ ¬ v < 0 ∨ v = -(u : Int) ∧ v < 0 := by omega
  have HD : Hid (∀ (y z : Int) W, y = (u : Int) → z = ((s + 1) : Nat) → Calls Tryd.prog 29 #[.int .i64 y, .int .i64 z] W fun e w' => e = .returned (.string (bs (digsL u (s + 1)))) ∧ Below W.heap.size W w') := Lib.hid fun y z W hy hz' => by
    rw [hy, hz']
    exact rDigits_calls u (s + 1) W hu9 (by omega) (by omega)
  have hnd : nDigits u ≤ 9 := nDigits_le 9 u (by omega) (by omega)
  have hsz0 : (bs (digsL u (s + 1))).size ≤ 9 := by rw [bs_size, digs_length]; omega
  have HE : Hid (bs (textL v s true) = bs (if v < 0 then [45] else []) ++ bs (digsL u (s + 1)) ++ ⟨#[46, 48]⟩) := Lib.hid (by
    rw [show (⟨#[46, 48]⟩ : ByteArray) = bs [46, 48] from rfl, bs_app, bs_app]
    unfold textL decimalL
    subst hz
    rw [hu, Nat.zero_add, digs_one, Nat.pow_zero, Nat.div_one, List.append_assoc]; rfl)
  have g0 : ((s : Int) == 0) = true := beq_iff_eq.2 (by omega)
  clear hz
  clear hnd
  generalize bs (digsL u (s + 1)) = sd at HD HE hsz0
  generalize bs (textL v s true) = R at HE ⊢
  clear hu
  rcases hval with ⟨rfl, hn⟩ | ⟨rfl, hn⟩
  · rw [if_neg hn] at HE
    go_enter Tryd.func14, Tryd.ntmps14
    go_wp2_with fail
    refine (HD.out _ _ _ ?_ ?_).mono ?_
    · omega
    · omega
    rintro e w1 ⟨rfl, hb⟩
    obtain ⟨hc, hf⟩ := bcell hb
    go_wp2
    go_ret
    exact ⟨by rw [HE.out]; rfl, one_box hb⟩
  · rw [if_pos hn] at HE
    go_enter Tryd.func14, Tryd.ntmps14
    go_wp2_with fail
    refine (HD.out _ _ _ ?_ ?_).mono ?_
    · omega
    · omega
    rintro e w1 ⟨rfl, hb⟩
    obtain ⟨hc, hf⟩ := bcell hb
    go_wp2
    go_ret
    exact ⟨by rw [HE.out]; rfl, one_box hb⟩

set_option maxRecDepth 100000 in
set_option maxHeartbeats 2000000 in
theorem rText_decs (v : Int) (s : Nat) (w : World) (hs : s ≤ 4) (h1 : -999999999 ≤ v) (h2 : v ≤ 999999999) (hz : s ≠ 0) :
    Calls Tryd.prog 14 #[.agg #[.int .i64 v, .int .i64 s, .bool true]] w fun e w' => e = .returned (.string (bs (textL v s true))) ∧ Below w.heap.size w w' := by
  obtain ⟨u, hu⟩ : ∃ u, v.natAbs = u := ⟨_, rfl⟩
  have hu9 : u ≤ 999999999 := by omega
  have hval : v = (u : Int) ∧ ¬ v < 0 ∨ v = -(u : Int) ∧ v < 0 := by omega
  have HD : Hid (∀ (y z : Int) W, y = (u : Int) → z = ((s + 1) : Nat) → Calls Tryd.prog 29 #[.int .i64 y, .int .i64 z] W fun e w' => e = .returned (.string (bs (digsL u (s + 1)))) ∧ Below W.heap.size W w') := Lib.hid fun y z W hy hz' => by
    rw [hy, hz']
    exact rDigits_calls u (s + 1) W hu9 (by omega) (by omega)
  have hnd : nDigits u ≤ 9 := nDigits_le 9 u (by omega) (by omega)
  have hsz0 : (bs (digsL u (s + 1))).size ≤ 9 := by rw [bs_size, digs_length]; omega
  have hcut := digs_cut u s
  have HE : Hid (bs (textL v s true) = bs (if v < 0 then [45] else []) ++ (bs (digsL u (s + 1))).extract 0 ((bs (digsL u (s + 1))).size - s) ++ ⟨#[46]⟩ ++ (bs (digsL u (s + 1))).extract ((bs (digsL u (s + 1))).size - s) (bs (digsL u (s + 1))).size) := Lib.hid (by
    rw [drop_bs, piece_bs, bs_data, bs_size, List.drop_zero, Nat.sub_zero, hcut.1, hcut.2, show (⟨#[46]⟩ : ByteArray) = bs [46] from rfl, bs_app, bs_app, bs_app]
    unfold textL decimalL
    rw [hu, if_neg hz, if_pos rfl, List.append_assoc, List.append_assoc]; rfl)
  have hge : s ≤ (bs (digsL u (s + 1))).size := by rw [bs_size, digs_length]; omega
  have g0 : ((s : Int) == 0) = false := beq_eq_false_iff_ne.2 (by omega)
  clear hz hcut
  clear hnd
  generalize bs (digsL u (s + 1)) = sd at HD HE hsz0 hge
  have e1 : IntKind.i64.wrap ((sd.size : Int) - (s : Int)) = (sd.size : Int) - (s : Int) := IntWalk.i64_in _ (by omega)
  have e2 : ((sd.size : Int) - (s : Int)).toNat = sd.size - s := by omega
  have e3 : 0 ≤ (sd.size : Int) - (s : Int) := by omega
  have e4 : (sd.size : Int) - (s : Int) ≤ (sd.size : Int) := by omega
  have x1 : (sd.extract 0 (sd.size - s)).size ≤ 9 := by rw [ByteArray.size_extract]; omega
  have x2 : (sd.extract (sd.size - s) sd.size).size ≤ 9 := by rw [ByteArray.size_extract]; omega
  generalize bs (textL v s true) = R at HE ⊢
  clear hu
  rcases hval with ⟨rfl, hn⟩ | ⟨rfl, hn⟩
  · rw [if_neg hn] at HE
    go_enter Tryd.func14, Tryd.ntmps14
    go_wp2_with fail
    refine (HD.out _ _ _ ?_ ?_).mono ?_
    · omega
    · omega
    rintro e w1 ⟨rfl, hb⟩
    obtain ⟨hc, hf⟩ := bcell hb
    go_wp2
    go_quiet (fail)
    go_wp2
    go_ret
    exact ⟨by rw [HE.out]; rfl, below_drewN (one_box hb) _⟩
  · rw [if_pos hn] at HE
    go_enter Tryd.func14, Tryd.ntmps14
    go_wp2_with fail
    refine (HD.out _ _ _ ?_ ?_).mono ?_
    · omega
    · omega
    rintro e w1 ⟨rfl, hb⟩
    obtain ⟨hc, hf⟩ := bcell hb
    go_wp2
    go_quiet (fail)
    go_wp2
    go_ret
    exact ⟨by rw [HE.out]; rfl, below_drewN (one_box hb) _⟩

theorem rText_calls (v : Int) (s : Nat) (d : Bool) (w : World) (hs : s ≤ 4) (h1 : -999999999 ≤ v) (h2 : v ≤ 999999999) :
    Calls Tryd.prog 14 #[.agg #[.int .i64 v, .int .i64 s, .bool d]] w fun e w' => e = .returned (.string (bs (textL v s d))) ∧ Below w.heap.size w w' := by
  cases d with
  | false => exact rText_whole v s w hs h1 h2
  | true =>
    by_cases hz : s = 0
    · exact rText_dec0 v s w hs h1 h2 hz
    · exact rText_decs v s w hs h1 h2 hz

end Go.Proofs.YtdoagbengfdcgaaDoor
