/- NumRefDigits, NumRefText, NumTerm, put together. -/
import Derived.Test.YtdnfaoanaehjhaaGreatDoorH21
import Derived.Test.YtdnfaoanaehjhaaGreatDoorH18
import Derived.Laws.IdiomStrings

/- The document's own digits of a number: at least so many. -/
namespace Go.Proofs.YtdnfaoanaehjhaaGreatDoor.Nm
open Go.RowKit
open Go.Lib (nDigits)

def digsL (u least : Nat) : List UInt8 := lowD (max least (nDigits u)) u
theorem low_front (j u : Nat) : [dB (u / 10 ^ j % 10)] ++ lowD j u = lowD (j + 1) u := by
  rw [Nat.add_comm j 1, lowD_split 1 j]; rfl
theorem more_digits {u j : Nat} (h : 0 < u / 10 ^ j) : j < nDigits u := by
  apply Nat.lt_of_not_le
  intro hle
  have := Lib.lt_pow_nDigits u
  have h2 : 10 ^ nDigits u ≤ 10 ^ j := Nat.pow_le_pow_right (by omega) hle
  rw [Nat.div_eq_of_lt (by omega)] at h
  omega
theorem digs_end {u j least : Nat} (h1 : 1 ≤ least) (h0 : u / 10 ^ j = 0) (hl : least ≤ j) (hm : j ≤ max least (nDigits u)) : lowD j u = digsL u least := by
  unfold digsL
  have hu : u < 10 ^ j := by
    rcases Nat.lt_or_ge u (10 ^ j) with h | h
    · exact h
    · have := Nat.div_pos h (Nat.pow_pos (by omega)); omega
  have := nDigits_le j u (by omega) hu
  rw [show max least (nDigits u) = j by omega]

theorem one_byte (wr : World) (x : Nat) (hx : x < 10) :
    (convert 113 9 (.slice (some ⟨wr.heap.size, 0, none⟩) 1 1)).run Tryz.prog (wr.alloc (.cells #[.int .u8 ((48 + x : Nat) : Int)] 5)) = .ok (.string (bs [dB x])) (wr.alloc (.cells #[.int .u8 ((48 + x : Nat) : Int)] 5)) :=
  run_convert_bytes_back (P := Tryz.prog) _ _ _ 5 ⟨wr.heap.size, 0, none⟩ 1 [dB x] Tryz.underlying113 Tryz.underlying5 Tryz.underlying9 (fun j hj => by
    have h0 : j = 0 := by simpa using hj
    subst h0
    have h1 : (wr.alloc (.cells #[.int .u8 ((48 + x : Nat) : Int)] 5)).cell? ⟨wr.heap.size, 0, none⟩ = some (.int .u8 ((48 + x : Nat) : Int)) := by
      rw [World.cell?_alloc_at _ _ _ _ rfl]; rfl
    have h2 := dB_nat x hx
    show (wr.alloc _).cell? ⟨wr.heap.size, 0, none⟩ = some (.int .u8 ((dB x).toNat : Int))
    rw [h1, h2])

set_option maxRecDepth 100000 in
set_option maxHeartbeats 2000000 in
theorem rDigits_calls (u least : Nat) (w : World) (hu : u ≤ 999999999) (h1 : 1 ≤ least) (h5 : least ≤ 5) :
    Calls Tryz.prog 76 #[.int .i64 u, .int .i64 least] w fun e w' => e = .returned (.string (bs (digsL u least))) ∧ Below w.heap.size w w' := by
  have hnd : nDigits u ≤ 9 := nDigits_le 9 u (by omega) (by omega)
  go_enter Tryz.func76, Tryz.ntmps76
  go_wp2
  go_loopw [0, 5] (fun n o wr => ∃ (j m : Nat) (out : ByteArray), n = .int .i64 m ∧ o = .string out ∧ m ≤ 999999999 ∧ j ≤ 9 ∧ out.size ≤ 9 ∧ (out.size : Int) = j ∧ Hid (m = u / 10 ^ j) ∧ Hid (out = bs (lowD j u)) ∧ Hid (j ≤ max least (nDigits u)) ∧ Below w.heap.size w wr) (fun n o _ => (intOf n).toNat + (match o with | .string x => 9 - x.size | _ => 0))
  case atStart => exact ⟨0, u, ⟨#[]⟩, rfl, rfl, hu, by omega, by decide, rfl, Lib.hid (by simp), Lib.hid rfl, Lib.hid (Nat.zero_le _), Below.refl _ _⟩
  case round =>
    obtain ⟨j, m, out, rfl, rfl, hm, hj, hsz, hszj, HM, HO, HJ, B⟩ := hrel
    have HS := Lib.hid hszj
    have hszr : out.size < 9 ∨ 9 ≤ out.size := by omega
    by_cases hgo : 0 < m ∨ (m = 0 ∧ out.size < least)
    · have hJ1 : Hid (j + 1 ≤ max least (nDigits u)) := Lib.hid (by
        rcases hgo with h | ⟨_, h⟩
        · have := more_digits (u := u) (j := j) (by rw [← HM.out]; exact h)
          omega
        · omega)
      have hs9 : out.size < 9 := by have := hJ1.out; omega
      have hc : (0 : Int) < (m : Int) ∨ (¬ (0 : Int) < (m : Int) ∧ (out.size : Int) < (least : Int)) := by omega
      have hm10 : u / 10 ^ (j + 1) = m / 10 := by rw [Nat.pow_succ, ← Nat.div_div_eq_div_mul, ← HM.out]
      have HM' : Hid (m / 10 = u / 10 ^ (j + 1)) := Lib.hid hm10.symm
      have hlow := low_front j u
      rw [← HM.out] at hlow
      have hcv0 := one_byte wr (m % 10) (Nat.mod_lt _ (by omega))
      rw [show ((48 + m % 10 : Nat) : Int) = 48 + (m : Int) % 10 by omega] at hcv0
      have HO' : Hid (bs [dB (m % 10)] ++ out = bs (lowD (j + 1) u)) := Lib.hid (by rw [HO.out, bs_app, hlow])
      have h1s : (bs [dB (m % 10)]).size = 1 := rfl
      generalize bs [dB (m % 10)] = one at hcv0 HO' h1s
      have happ : (one ++ out).size = out.size + 1 := by rw [ByteArray.size_append, h1s]; omega
      have HA := Lib.hid happ
      have h1s' : one.size ≤ 1 := by omega
      have hj9 := hJ1.out
      clear hgo hszj hszr h1s hm10 hlow happ HM HO HJ
      rcases hc with c1 | ⟨c1, c2⟩
      · go_wp2
        go_roundw
        case rel => exact ⟨j + 1, m / 10, one ++ out, by go_num, rfl, by omega, by omega, by have := HA.out; omega, by have := HA.out; have := HS.out; omega, HM', HO', hJ1, B.alloc B.size _⟩
        case measure => have := HA.out; simp [intOf]; omega
      · obtain rfl : m = 0 := by omega
        simp only [Nat.zero_div, Int.natCast_zero, Int.zero_emod, Int.add_zero] at hcv0 HM'
        clear c1
        go_wp2
        go_roundw
        case rel => exact ⟨j + 1, 0, one ++ out, by go_num, rfl, by omega, by omega, by have := HA.out; omega, by have := HA.out; have := HS.out; omega, HM', HO', hJ1, B.alloc B.size _⟩
        case measure =>
          have h1 := HA.out
          have h2 := hs9
          simp only [intOf, h1]
          omega
    · obtain rfl : m = 0 := by omega
      have hl : ¬ out.size < least := by omega
      have HE : Hid (out = bs (digsL u least)) := Lib.hid (by rw [HO.out, digs_end h1 HM.out.symm (by have := HS.out; omega) HJ.out])
      have hl' : ¬ (out.size : Int) < (least : Int) := by omega
      clear hgo hl hszj hszr HM HO HJ
      go_wp2
      go_ret
      exact ⟨by rw [← HE.out]; rfl, B⟩

end Go.Proofs.YtdnfaoanaehjhaaGreatDoor.Nm

/- The document's own text of a number: package number's. -/
namespace Go.Proofs.YtdnfaoanaehjhaaGreatDoor.Nm
open Go.RowKit
open Go.Lib (nDigits decDigits)

theorem nDigits_ten (u : Nat) : nDigits (u / 10) = max 1 (nDigits u - 1) := by
  by_cases h : u < 10
  · rw [Nat.div_eq_of_lt h, Lib.nDigits_small (by omega), Lib.nDigits_small h]; rfl
  · have := Lib.nDigits_pos (u / 10)
    rw [Lib.nDigits_big h]; omega
theorem nDigits_shift (s : Nat) : ∀ u, nDigits (u / 10 ^ s) = max (s + 1) (nDigits u) - s := by
  induction s with
  | zero => intro u; have := Lib.nDigits_pos u; rw [Nat.pow_zero, Nat.div_one]; omega
  | succ s ih =>
    intro u
    rw [Nat.pow_succ, ← Nat.div_div_eq_div_mul, nDigits_ten, ih u]
    omega
theorem digs_one (u : Nat) : digsL u 1 = decDigits u := by
  have := Lib.nDigits_pos u
  unfold digsL
  rw [dec_low, show max 1 (nDigits u) = nDigits u by omega]
theorem digs_length (u l : Nat) : (digsL u l).length = max l (nDigits u) := lowD_length _ _
theorem digs_cut (u s : Nat) : (digsL u (s + 1)).take ((digsL u (s + 1)).length - s) = decDigits (u / 10 ^ s) ∧ (digsL u (s + 1)).drop ((digsL u (s + 1)).length - s) = lowD s u := by
  have hl := digs_length u (s + 1)
  have e : digsL u (s + 1) = decDigits (u / 10 ^ s) ++ lowD s u := by
    unfold digsL
    have := lowD_split (max (s + 1) (nDigits u) - s) s u
    rw [show max (s + 1) (nDigits u) - s + s = max (s + 1) (nDigits u) by omega] at this
    rw [this, dec_low, nDigits_shift]
  have h1 : (decDigits (u / 10 ^ s)).length = (digsL u (s + 1)).length - s := by rw [e, List.length_append, lowD_length]; omega
  rw [← h1, e]
  exact ⟨List.take_left, List.drop_left⟩
theorem size_append (a b : ByteArray) : (a ++ b).size = a.size + b.size := ByteArray.size_append

set_option maxRecDepth 100000 in
set_option maxHeartbeats 2000000 in
theorem rText_whole (v : Int) (s : Nat) (w : World) (_hs : s ≤ 4) (h1 : -999999999 ≤ v) (h2 : v ≤ 999999999) :
    Calls Tryz.prog 99 #[.agg #[.int .i64 v, .int .i64 s, .bool false]] w fun e w' => e = .returned (.string (bs (textL v s false))) ∧ Below w.heap.size w w' := by
  obtain ⟨u, hu⟩ : ∃ u, v.natAbs = u := ⟨_, rfl⟩
  have hu9 : u ≤ 999999999 := by omega
  have hval : v = (u : Int) ∧ ¬ v < 0 ∨ v = -(u : Int) ∧ v < 0 := by omega
  have HD : Hid (∀ (y z : Int) W, y = (u : Int) → z = (1 : Nat) → Calls Tryz.prog 76 #[.int .i64 y, .int .i64 z] W fun e w' => e = .returned (.string (bs (digsL u 1))) ∧ Below W.heap.size W w') := Lib.hid fun y z W hy hz' => by
    rw [hy, hz']
    exact rDigits_calls u 1 W hu9 (by omega) (by omega)
  have hnd : nDigits u ≤ 9 := nDigits_le 9 u (by omega) (by omega)
  have hsz0 : (bs (digsL u 1)).size ≤ 9 := by rw [bs_size, digs_length]; omega
  have HE : Hid (bs (textL v s false) = bs (if v < 0 then [45] else []) ++ bs (digsL u 1)) := Lib.hid (by rw [bs_app, digs_one]; unfold textL; rw [hu]; rfl)
  clear hnd
  generalize bs (digsL u 1) = sd at HD HE hsz0
  generalize bs (textL v s false) = R at HE ⊢
  clear hu
  rcases hval with ⟨rfl, hn⟩ | ⟨rfl, hn⟩
  · rw [if_neg hn] at HE
    go_enter Tryz.func99, Tryz.ntmps99
    go_wp2_with fail
    refine (HD.out _ _ _ ?_ ?_).mono ?_
    · omega
    · rfl
    rintro e w1 ⟨rfl, hb⟩
    obtain ⟨hc, hf⟩ := bcell hb
    go_wp2
    go_ret
    exact ⟨by rw [HE.out]; rfl, one_box hb⟩
  · rw [if_pos hn] at HE
    go_enter Tryz.func99, Tryz.ntmps99
    go_wp2_with fail
    refine (HD.out _ _ _ ?_ ?_).mono ?_
    · omega
    · rfl
    rintro e w1 ⟨rfl, hb⟩
    obtain ⟨hc, hf⟩ := bcell hb
    go_wp2
    go_ret
    exact ⟨by rw [HE.out]; rfl, one_box hb⟩

set_option maxRecDepth 100000 in
set_option maxHeartbeats 2000000 in
theorem rText_dec0 (v : Int) (s : Nat) (w : World) (hs : s ≤ 4) (h1 : -999999999 ≤ v) (h2 : v ≤ 999999999) (hz : s = 0) :
    Calls Tryz.prog 99 #[.agg #[.int .i64 v, .int .i64 s, .bool true]] w fun e w' => e = .returned (.string (bs (textL v s true))) ∧ Below w.heap.size w w' := by
  obtain ⟨u, hu⟩ : ∃ u, v.natAbs = u := ⟨_, rfl⟩
  have hu9 : u ≤ 999999999 := by omega
  have hval : v = (u : Int) ∧ ¬ v < 0 ∨ v = -(u : Int) ∧ v < 0 := by omega
  have HD : Hid (∀ (y z : Int) W, y = (u : Int) → z = ((s + 1) : Nat) → Calls Tryz.prog 76 #[.int .i64 y, .int .i64 z] W fun e w' => e = .returned (.string (bs (digsL u (s + 1)))) ∧ Below W.heap.size W w') := Lib.hid fun y z W hy hz' => by
    rw [hy, hz']
    exact rDigits_calls u (s + 1) W hu9 (by omega) (by omega)
  have hnd : nDigits u ≤ 9 := nDigits_le 9 u (by omega) (by omega)
  have hsz0 : (bs (digsL u (s + 1))).size ≤ 9 := by rw [bs_size, digs_length]; omega
  have HE : Hid (bs (textL v s true) = bs (if v < 0 then [45] else []) ++ bs (digsL u (s + 1)) ++ ⟨#[46, 48]⟩) := Lib.hid (by
    rw [show (⟨#[46, 48]⟩ : ByteArray) = bs [46, 48] from rfl, bs_app, bs_app]
    unfold textL decimalL
    subst hz
    rw [hu, Nat.zero_add, digs_one, Nat.pow_zero, Nat.div_one, List.append_assoc]; rfl)
  have g0 : ((s : Int) == 0) = true := beq_iff_eq.2 (by omega)
  clear hz
  clear hnd
  generalize bs (digsL u (s + 1)) = sd at HD HE hsz0
  generalize bs (textL v s true) = R at HE ⊢
  clear hu
  rcases hval with ⟨rfl, hn⟩ | ⟨rfl, hn⟩
  · rw [if_neg hn] at HE
    go_enter Tryz.func99, Tryz.ntmps99
    go_wp2_with fail
    refine (HD.out _ _ _ ?_ ?_).mono ?_
    · omega
    · omega
    rintro e w1 ⟨rfl, hb⟩
    obtain ⟨hc, hf⟩ := bcell hb
    go_wp2
    go_ret
    exact ⟨by rw [HE.out]; rfl, one_box hb⟩
  · rw [if_pos hn] at HE
    go_enter Tryz.func99, Tryz.ntmps99
    go_wp2_with fail
    refine (HD.out _ _ _ ?_ ?_).mono ?_
    · omega
    · omega
    rintro e w1 ⟨rfl, hb⟩
    obtain ⟨hc, hf⟩ := bcell hb
    go_wp2
    go_ret
    exact ⟨by rw [HE.out]; rfl, one_box hb⟩

set_option maxRecDepth 100000 in
set_option maxHeartbeats 2000000 in
theorem rText_decs (v : Int) (s : Nat) (w : World) (hs : s ≤ 4) (h1 : -999999999 ≤ v) (h2 : v ≤ 999999999) (hz : s ≠ 0) :
    Calls Tryz.prog 99 #[.agg #[.int .i64 v, .int .i64 s, .bool true]] w fun e w' => e = .returned (.string (bs (textL v s true))) ∧ Below w.heap.size w w' := by
  obtain ⟨u, hu⟩ : ∃ u, v.natAbs = u := ⟨_, rfl⟩
  have hu9 : u ≤ 999999999 := by omega
  have hval : v = (u : Int) ∧ ¬ v < 0 ∨ v = -(u : Int) ∧ v < 0 := by omega
  have HD : Hid (∀ (y z : Int) W, y = (u : Int) → z = ((s + 1) : Nat) → Calls Tryz.prog 76 #[.int .i64 y, .int .i64 z] W fun e w' => e = .returned (.string (bs (digsL u (s + 1)))) ∧ Below W.heap.size W w') := Lib.hid fun y z W hy hz' => by
    rw [hy, hz']
    exact rDigits_calls u (s + 1) W hu9 (by omega) (by omega)
  have hnd : nDigits u ≤ 9 := nDigits_le 9 u (by omega) (by omega)
  have hsz0 : (bs (digsL u (s + 1))).size ≤ 9 := by rw [bs_size, digs_length]; omega
  have hcut := digs_cut u s
  have HE : Hid (bs (textL v s true) = bs (if v < 0 then [45] else []) ++ (bs (digsL u (s + 1))).extract 0 ((bs (digsL u (s + 1))).size - s) ++ ⟨#[46]⟩ ++ (bs (digsL u (s + 1))).extract ((bs (digsL u (s + 1))).size - s) (bs (digsL u (s + 1))).size) := Lib.hid (by
    rw [drop_bs, piece_bs, bs_data, bs_size, List.drop_zero, Nat.sub_zero, hcut.1, hcut.2, show (⟨#[46]⟩ : ByteArray) = bs [46] from rfl, bs_app, bs_app, bs_app]
    unfold textL decimalL
    rw [hu, if_neg hz, if_pos rfl, List.append_assoc, List.append_assoc]; rfl)
  have hge : s ≤ (bs (digsL u (s + 1))).size := by rw [bs_size, digs_length]; omega
  have g0 : ((s : Int) == 0) = false := beq_eq_false_iff_ne.2 (by omega)
  clear hz hcut
  clear hnd
  generalize bs (digsL u (s + 1)) = sd at HD HE hsz0 hge
  have e1 : IntKind.i64.wrap ((sd.size : Int) - (s : Int)) = (sd.size : Int) - (s : Int) := IntWalk.i64_in _ (by omega)
  have e2 : ((sd.size : Int) - (s : Int)).toNat = sd.size - s := by omega
  have e3 : 0 ≤ (sd.size : Int) - (s : Int) := by omega
  have e4 : (sd.size : Int) - (s : Int) ≤ (sd.size : Int) := by omega
  have x1 : (sd.extract 0 (sd.size - s)).size ≤ 9 := by rw [ByteArray.size_extract]; omega
  have x2 : (sd.extract (sd.size - s) sd.size).size ≤ 9 := by rw [ByteArray.size_extract]; omega
  generalize bs (textL v s true) = R at HE ⊢
  clear hu
  rcases hval with ⟨rfl, hn⟩ | ⟨rfl, hn⟩
  · rw [if_neg hn] at HE
    go_enter Tryz.func99, Tryz.ntmps99
    go_wp2_with fail
    refine (HD.out _ _ _ ?_ ?_).mono ?_
    · omega
    · omega
    rintro e w1 ⟨rfl, hb⟩
    obtain ⟨hc, hf⟩ := bcell hb
    go_wp2
    go_quiet (fail)
    go_wp2
    go_ret
    exact ⟨by rw [HE.out]; rfl, below_drewN (one_box hb) _⟩
  · rw [if_pos hn] at HE
    go_enter Tryz.func99, Tryz.ntmps99
    go_wp2_with fail
    refine (HD.out _ _ _ ?_ ?_).mono ?_
    · omega
    · omega
    rintro e w1 ⟨rfl, hb⟩
    obtain ⟨hc, hf⟩ := bcell hb
    go_wp2
    go_quiet (fail)
    go_wp2
    go_ret
    exact ⟨by rw [HE.out]; rfl, below_drewN (one_box hb) _⟩

theorem rText_calls (v : Int) (s : Nat) (d : Bool) (w : World) (hs : s ≤ 4) (h1 : -999999999 ≤ v) (h2 : v ≤ 999999999) :
    Calls Tryz.prog 99 #[.agg #[.int .i64 v, .int .i64 s, .bool d]] w fun e w' => e = .returned (.string (bs (textL v s d))) ∧ Below w.heap.size w w' := by
  cases d with
  | false => exact rText_whole v s w hs h1 h2
  | true =>
    by_cases hz : s = 0
    · exact rText_dec0 v s w hs h1 h2 hz
    · exact rText_decs v s w hs h1 h2 hz

end Go.Proofs.YtdnfaoanaehjhaaGreatDoor.Nm

/- A number's term, by package number and by the document. -/
namespace Go.Proofs.YtdnfaoanaehjhaaGreatDoor.Nm
open Go.RowKit

def tyI : ByteArray := ⟨#[104, 116, 116, 112, 58, 47, 47, 119, 119, 119, 46, 119, 51, 46, 111, 114, 103, 47, 50, 48, 48, 49, 47, 88, 77, 76, 83, 99, 104, 101, 109, 97, 35, 105, 110, 116, 101, 103, 101, 114]⟩
def tyD : ByteArray := ⟨#[104, 116, 116, 112, 58, 47, 47, 119, 119, 119, 46, 119, 51, 46, 111, 114, 103, 47, 50, 48, 48, 49, 47, 88, 77, 76, 83, 99, 104, 101, 109, 97, 35, 100, 101, 99, 105, 109, 97, 108]⟩
def tyOf (d : Bool) : ByteArray := if d then tyD else tyI
def termV (v : Int) (s : Nat) (d : Bool) : Value := .agg #[.int .i64 2, .string (bs (textL v s d)), .string (tyOf d), .string ⟨#[]⟩]

set_option maxRecDepth 100000 in
set_option maxHeartbeats 2000000 in
theorem Term_wrong (v s : Int) (d : Bool) (w : World) (h : rightZ v s d = false) :
    Calls Tryz.prog 95 #[.agg #[.int .i64 v, .int .i64 s, .bool d]] w fun e w' => e = .returned (.tuple #[.agg #[.int .i64 0, .string ⟨#[]⟩, .string ⟨#[]⟩, .string ⟨#[]⟩], .int .i64 2]) ∧ Below w.heap.size w w' := by
  have HT := Lib.hid (Text_wrong v s d)
  have HR := Lib.hid h
  clear h
  go_enter Tryz.func95, Tryz.ntmps95
  go_wp2_with fail
  refine (HT.out _ HR.out).mono ?_
  rintro e w1 ⟨rfl, hb⟩
  obtain ⟨hc, hf⟩ := bcell hb
  have hz : w.heap.size < w1.heap.size := by have := hb.size; simp at this; omega
  have hz1 : w.heap.size + 1 < w1.heap.size := by have := hb.size; simp at this; omega
  go_wp2
  refine bodyPost_ret (v := .tuple #[.agg #[.int .i64 0, .string ⟨#[]⟩, .string ⟨#[]⟩, .string ⟨#[]⟩], .int .i64 2]) (by simp [results, Tryz.results95, hc, go_sem]) rfl ⟨rfl, ?_⟩
  have hB : Below w.heap.size w w1 := (two_alloc w _ _).trans (hb.mono (by simp; omega))
  exact (((hB.setCell (by simp) _).setCell (by simp) _).setCell (by simp) _).setCell (by simp) _

set_option maxRecDepth 100000 in
set_option maxHeartbeats 2000000 in
theorem Term_right (v : Int) (s : Nat) (d : Bool) (w : World) (hg : Good w) (hr : rightZ v s d = true) (hs : s ≤ 4) (h1 : -999999999 ≤ v) (h2 : v ≤ 999999999) :
    Calls Tryz.prog 95 #[.agg #[.int .i64 v, .int .i64 s, .bool d]] w fun e w' => e = .returned (.tuple #[termV v s d, .int .i64 0]) ∧ Below w.heap.size w w' := by
  have HT : Hid (∀ W, Good W → Calls Tryz.prog 106 #[.agg #[.int .i64 v, .int .i64 s, .bool d]] W fun e w' => e = .returned (.tuple #[.string (bs (textL v s d)), .int .i64 0]) ∧ Below W.heap.size W w') := Lib.hid fun W hW => Text_right v s d W hW hr hs h1 h2
  have HG := Lib.hid hg
  unfold termV
  generalize bs (textL v s d) = x at HT ⊢
  clear hr hg hs h1 h2
  cases d
  all_goals
    go_enter Tryz.func95, Tryz.ntmps95
    go_wp2_with fail
    refine (HT.out _ ?_).mono ?_
    · exact (HG.out.alloc _).alloc _
    rintro e w1 ⟨rfl, hb⟩
    obtain ⟨hc, hf⟩ := bcell hb
    have hz : w.heap.size < w1.heap.size := by have := hb.size; simp at this; omega
    have hz1 : w.heap.size + 1 < w1.heap.size := by have := hb.size; simp at this; omega
    have hB : Below w.heap.size w w1 := (two_alloc w _ _).trans (hb.mono (by simp; omega))
    go_wp2
    refine bodyPost_ret (v := .tuple #[.agg #[.int .i64 2, .string x, .string (tyOf _), .string ⟨#[]⟩], .int .i64 0]) (by simp [results, Tryz.results95, hc, hz1, go_sem]; rfl) rfl ⟨rfl, ?_⟩
    exact ((((hB.setCell (by simp) _).setCell (by simp) _).setCell (by simp) _).setCell (by simp) _).alloc (by simp; omega) _

set_option maxRecDepth 100000 in
set_option maxHeartbeats 2000000 in
theorem rTerm_calls (v : Int) (s : Nat) (d : Bool) (w : World) (hs : s ≤ 4) (h1 : -999999999 ≤ v) (h2 : v ≤ 999999999) :
    Calls Tryz.prog 78 #[.agg #[.int .i64 v, .int .i64 s, .bool d]] w fun e w' => e = .returned (termV v s d) ∧ Below w.heap.size w w' := by
  have HT : Hid (∀ W, Calls Tryz.prog 99 #[.agg #[.int .i64 v, .int .i64 s, .bool d]] W fun e w' => e = .returned (.string (bs (textL v s d))) ∧ Below W.heap.size W w') := Lib.hid fun W => rText_calls v s d W hs h1 h2
  unfold termV
  generalize bs (textL v s d) = x at HT ⊢
  clear hs h1 h2
  cases d
  all_goals
    go_enter Tryz.func78, Tryz.ntmps78
    go_wp2_with fail
    refine (HT.out _).mono ?_
    rintro e w1 ⟨rfl, hb⟩
    obtain ⟨hc, hf⟩ := bcell hb
    have hz : w.heap.size < w1.heap.size := by have := hb.size; simp at this; omega
    have hz1 : w.heap.size + 1 < w1.heap.size := by have := hb.size; simp at this; omega
    have hB : Below w.heap.size w w1 := (two_alloc w _ _).trans (hb.mono (by simp; omega))
    go_wp2
    refine bodyPost_ret (v := .agg #[.int .i64 2, .string x, .string (tyOf _), .string ⟨#[]⟩]) (by simp [results, Tryz.results78, hc, go_sem]; rfl) rfl ⟨rfl, ?_⟩
    exact (((hB.setCell (by simp) _).setCell (by simp) _).setCell (by simp) _).setCell (by simp) _

end Go.Proofs.YtdnfaoanaehjhaaGreatDoor.Nm
