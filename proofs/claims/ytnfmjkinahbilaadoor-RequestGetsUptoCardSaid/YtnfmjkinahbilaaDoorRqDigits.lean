/- The document's own digits of a number: its numeral. -/
import Derived.Test.YtnfmjkinahbilaaDoorRqPlain
import Derived.Test.YtnfmjkinahbilaaDoorPctKit
import Derived.Laws.IdiomStrings
namespace Go.Proofs.YtnfmjkinahbilaaDoor
open Go.RowKit
open Go.Lib (decDigits nDigits)

def lowD : Nat → Nat → List UInt8
  | 0, _ => []
  | k + 1, u => lowD k (u / 10) ++ [dB (u % 10)]
theorem lowD_split (a b : Nat) : ∀ u, lowD (a + b) u = lowD a (u / 10 ^ b) ++ lowD b u := by
  induction b with
  | zero => intro u; simp [lowD]
  | succ b ih =>
    intro u
    show lowD (a + b) (u / 10) ++ [dB (u % 10)] = _
    rw [ih (u / 10), Nat.div_div_eq_div_mul, Nat.pow_succ, Nat.mul_comm 10 (10 ^ b), List.append_assoc]
    rfl
theorem dec_low (u : Nat) : decDigits u = lowD (nDigits u) u := by
  induction u using Nat.strongRecOn with
  | _ u ih =>
    by_cases h : u < 10
    · rw [Lib.decDigits_one h, Lib.nDigits_small h]
      simp [lowD, dB, Nat.mod_eq_of_lt h]
    · rw [decDigits, dif_neg h, Lib.nDigits_big h, ih (u / 10) (by omega)]
      rfl
theorem nDigits_le (s : Nat) : ∀ u, 1 ≤ s → u < 10 ^ s → nDigits u ≤ s := by
  induction s with
  | zero => intro u h; omega
  | succ s ih =>
    intro u _ hu
    by_cases h : u < 10
    · rw [Lib.nDigits_small h]; omega
    · rw [Lib.nDigits_big h]
      rw [Nat.pow_succ] at hu
      have h1 : 1 ≤ s := by
        rcases Nat.eq_zero_or_pos s with e | e
        · subst e; simp at hu; omega
        · exact e
      have := ih (u / 10) h1 (by omega)
      omega
def digsL (u least : Nat) : List UInt8 := lowD (max least (nDigits u)) u
theorem low_front (j u : Nat) : [dB (u / 10 ^ j % 10)] ++ lowD j u = lowD (j + 1) u := by
  rw [Nat.add_comm j 1, lowD_split 1 j]; rfl
theorem more_digits {u j : Nat} (h : 0 < u / 10 ^ j) : j < nDigits u := by
  apply Nat.lt_of_not_le
  intro hle
  have := Lib.lt_pow_nDigits u
  have h2 : 10 ^ nDigits u ≤ 10 ^ j := Nat.pow_le_pow_right (by omega) hle
  rw [Nat.div_eq_of_lt (by omega)] at h
  omega
theorem digs_end {u j least : Nat} (h1 : 1 ≤ least) (h0 : u / 10 ^ j = 0) (hl : least ≤ j) (hm : j ≤ max least (nDigits u)) : lowD j u = digsL u least := by
  unfold digsL
  have hu : u < 10 ^ j := by
    rcases Nat.lt_or_ge u (10 ^ j) with h | h
    · exact h
    · have := Nat.div_pos h (Nat.pow_pos (by omega)); omega
  have := nDigits_le j u (by omega) hu
  rw [show max least (nDigits u) = j by omega]

theorem one_byte (wr : World) (x : Nat) (hx : x < 10) :
    (convert 52 9 (.slice (some ⟨wr.heap.size, 0, none⟩) 1 1)).run Tryd.prog (wr.alloc (.cells #[.int .u8 ((48 + x : Nat) : Int)] 5)) = .ok (.string (bs [dB x])) (wr.alloc (.cells #[.int .u8 ((48 + x : Nat) : Int)] 5)) :=
  run_convert_bytes_back (P := Tryd.prog) _ _ _ 5 ⟨wr.heap.size, 0, none⟩ 1 [dB x] Tryd.underlying52 Tryd.underlying5 Tryd.underlying9 (fun j hj => by
    have h0 : j = 0 := by simpa using hj
    subst h0
    have h1 : (wr.alloc (.cells #[.int .u8 ((48 + x : Nat) : Int)] 5)).cell? ⟨wr.heap.size, 0, none⟩ = some (.int .u8 ((48 + x : Nat) : Int)) := by
      rw [World.cell?_alloc_at _ _ _ _ rfl]; rfl
    have h2 := dB_nat x hx
    show (wr.alloc _).cell? ⟨wr.heap.size, 0, none⟩ = some (.int .u8 ((dB x).toNat : Int))
    rw [h1, h2])

set_option maxRecDepth 100000 in
set_option maxHeartbeats 2000000 in
theorem rDigits_calls (u least : Nat) (w : World) (hu : u ≤ 999999999) (h1 : 1 ≤ least) (h5 : least ≤ 5) :
    Calls Tryd.prog 15 #[.int .i64 u, .int .i64 least] w fun e w' => e = .returned (.string (bs (digsL u least))) ∧ Below w.heap.size w w' := by
  have hnd : nDigits u ≤ 9 := nDigits_le 9 u (by omega) (by omega)
  go_enter Tryd.func15, Tryd.ntmps15
  go_wp2
  go_loopw [0, 5] (fun n o wr => ∃ (j m : Nat) (out : ByteArray), n = .int .i64 m ∧ o = .string out ∧ m ≤ 999999999 ∧ j ≤ 9 ∧ out.size ≤ 9 ∧ (out.size : Int) = j ∧ Hid (m = u / 10 ^ j) ∧ Hid (out = bs (lowD j u)) ∧ Hid (j ≤ max least (nDigits u)) ∧ Below w.heap.size w wr) (fun n o _ => (intOf n).toNat + (match o with | .string x => 9 - x.size | _ => 0))
  case atStart => exact ⟨0, u, ⟨#[]⟩, rfl, rfl, hu, by omega, by decide, rfl, Lib.hid (by simp), Lib.hid rfl, Lib.hid (Nat.zero_le _), Below.refl _ _⟩
  case round =>
    obtain ⟨j, m, out, rfl, rfl, hm, hj, hsz, hszj, HM, HO, HJ, B⟩ := hrel
    have HS := Lib.hid hszj
    have hszr : out.size < 9 ∨ 9 ≤ out.size := by omega
    by_cases hgo : 0 < m ∨ (m = 0 ∧ out.size < least)
    · have hJ1 : Hid (j + 1 ≤ max least (nDigits u)) := Lib.hid (by
        rcases hgo with h | ⟨_, h⟩
        · have := more_digits (u := u) (j := j) (by rw [← HM.out]; exact h)
          omega
        · omega)
      have hs9 : out.size < 9 := by have := hJ1.out; omega
      have hc : (0 : Int) < (m : Int) ∨ (¬ (0 : Int) < (m : Int) ∧ (out.size : Int) < (least : Int)) := by omega
      have hm10 : u / 10 ^ (j + 1) = m / 10 := by rw [Nat.pow_succ, ← Nat.div_div_eq_div_mul, ← HM.out]
      have HM' : Hid (m / 10 = u / 10 ^ (j + 1)) := Lib.hid hm10.symm
      have hlow := low_front j u
      rw [← HM.out] at hlow
      have hcv0 := one_byte wr (m % 10) (Nat.mod_lt _ (by omega))
      rw [show ((48 + m % 10 : Nat) : Int) = 48 + (m : Int) % 10 by omega] at hcv0
      have HO' : Hid (bs [dB (m % 10)] ++ out = bs (lowD (j + 1) u)) := Lib.hid (by rw [HO.out, bs_app, hlow])
      have h1s : (bs [dB (m % 10)]).size = 1 := rfl
      generalize bs [dB (m % 10)] = one at hcv0 HO' h1s
      have happ : (one ++ out).size = out.size + 1 := by rw [ByteArray.size_append, h1s]; omega
      have HA := Lib.hid happ
      have h1s' : one.size ≤ 1 := by omega
      have hj9 := hJ1.out
      clear hgo hszj hszr h1s hm10 hlow happ HM HO HJ
      rcases hc with c1 | ⟨c1, c2⟩
      · go_wp2
        go_roundw
        case rel => exact ⟨j + 1, m / 10, one ++ out, by go_num, rfl, by omega, by omega, by have := HA.out; omega, by have := HA.out; have := HS.out; omega, HM', HO', hJ1, B.alloc B.size _⟩
        case measure => have := HA.out; simp [intOf]; omega
      · obtain rfl : m = 0 := by omega
        simp only [Nat.zero_div, Int.natCast_zero, Int.zero_emod, Int.add_zero] at hcv0 HM'
        clear c1
        go_wp2
        go_roundw
        case rel => exact ⟨j + 1, 0, one ++ out, by go_num, rfl, by omega, by omega, by have := HA.out; omega, by have := HA.out; have := HS.out; omega, HM', HO', hJ1, B.alloc B.size _⟩
        case measure =>
          have h1 := HA.out
          have h2 := hs9
          simp only [intOf, h1]
          omega
    · obtain rfl : m = 0 := by omega
      have hl : ¬ out.size < least := by omega
      have HE : Hid (out = bs (digsL u least)) := Lib.hid (by rw [HO.out, digs_end h1 HM.out.symm (by have := HS.out; omega) HJ.out])
      have hl' : ¬ (out.size : Int) < (least : Int) := by omega
      clear hgo hl hszj hszr HM HO HJ
      go_wp2
      go_ret
      exact ⟨by rw [← HE.out]; rfl, B⟩

theorem rDigits_dec (u : Nat) (w : World) (hu : u < 4096) (D : ByteArray) (hD : bs (decDigits u) = D) : Calls Tryd.prog 15 #[.int .i64 u, .int .i64 1] w fun e w' => e = .returned (.string D) ∧ Below w.heap.size w w' := by
  subst hD
  have h := rDigits_calls u 1 w (by omega) (by omega) (by omega)
  have e : digsL u 1 = decDigits u := by
    unfold digsL
    have : 1 ≤ nDigits u := by
      rcases Nat.lt_or_ge u 10 with h | h
      · rw [Lib.nDigits_small h]; omega
      · rw [Lib.nDigits_big (by omega)]; omega
    rw [show max 1 (nDigits u) = nDigits u by omega, ← dec_low]
  rw [e] at h
  exact h

end Go.Proofs.YtnfmjkinahbilaaDoor
