/- What the document's own helpers for the term that a text begins with come to: the place of a byte, how many bytes are a name's, the double quote that closes a literal. -/
import Derived.Test.YtgkpdcjkobieiaaDoorRefTrips
import Derived.Test.YtgkpdcjkobieiaaDoorTermPlains
namespace Go.Proofs.YtgkpdcjkobieiaaDoor
open Go.RowKit

def placeFrom (b : Int) : List UInt8 → Nat → Int
  | [], _ => -1
  | c :: r, k => if (c.toNat : Int) = b then k else placeFrom b r (k + 1)
theorem place_hit (b : Int) (l : List UInt8) (k : Nat) (h : k < l.length) (e : (l[k].toNat : Int) = b) : placeFrom b (l.drop k) k = k := by
  rw [List.drop_eq_getElem_cons h, placeFrom, if_pos e]
theorem place_next (b : Int) (l : List UInt8) (k : Nat) (h : k < l.length) (e : ¬ (l[k].toNat : Int) = b) : placeFrom b (l.drop k) k = placeFrom b (l.drop (k + 1)) (k + 1) := by
  rw [List.drop_eq_getElem_cons h, placeFrom, if_neg e]
theorem place_end (b : Int) (l : List UInt8) (k : Nat) (h : l.length ≤ k) : placeFrom b (l.drop k) k = -1 := by
  rw [List.drop_eq_nil_of_le h]; rfl

set_option maxHeartbeats 400000 in
theorem place_calls (s : ByteArray) (b : Int) (w : World) (_hs : s.size ≤ maxLen) :
    Calls Tryd.prog 48 #[.string s, .int .u8 b] w fun e w' => e = .returned (.int .i64 (placeFrom b s.data.toList 0)) ∧ w' = w := by
  unfold maxLen at _hs
  go_enter Tryd.func48, Tryd.ntmps48
  go_wp2
  go_loop [5] (fun i => ∃ k : Nat, k ≤ s.size ∧ i = .int .i64 k ∧ Hid (placeFrom b s.data.toList 0 = placeFrom b (s.data.toList.drop k) k)) (fun i => s.size - (intOf i).toNat)
  case atStart => exact ⟨0, Nat.zero_le _, rfl, Lib.hid rfl⟩
  case round =>
    obtain ⟨k, hk, rfl, HL⟩ := hrel
    by_cases hp : k < s.size
    · have c1 := place_hit b s.data.toList k (by simpa using hp)
      have c2 := place_next b s.data.toList k (by simpa using hp)
      rw [get_list s k hp] at c1 c2
      by_cases hc : (s[k].toNat : Int) = b
      · have g : ((s[k].toNat : Int) == b) = true := beq_iff_eq.2 hc
        have H0 := Lib.hid (c1 hc)
        clear c1 c2 hc
        go_wp2
        go_ret
        exact ⟨ret_int (by rw [HL.out, H0.out]), rfl⟩
      · have g : ((s[k].toNat : Int) == b) = false := beq_eq_false_iff_ne.2 hc
        have H0 := Lib.hid (c2 hc)
        clear c1 c2 hc
        go_wp2
        go_round
        case rel => exact ⟨k + 1, by omega, by go_num, Lib.hid (by rw [HL.out, H0.out])⟩
        case measure => simp [intOf]; omega
    · have H0 := Lib.hid (place_end b s.data.toList k (by simpa using (by omega : s.size ≤ k)))
      go_wp2
      go_ret
      exact ⟨ret_int (by rw [HL.out, H0.out]), rfl⟩

def closeFrom : List UInt8 → Nat → Int
  | [], _ => -1
  | [c], k => if c = 92 then -1 else if c = 34 then k else -1
  | c :: d :: r, k => if c = 92 then closeFrom r (k + 2) else if c = 34 then k else closeFrom (d :: r) (k + 1)
theorem close_cons (c : UInt8) (r : List UInt8) (k : Nat) : closeFrom (c :: r) k = if c = 92 then closeFrom (r.drop 1) (k + 2) else if c = 34 then k else closeFrom r (k + 1) := by
  cases r with
  | nil => simp [closeFrom]
  | cons d r => simp [closeFrom]
theorem close_skip (l : List UInt8) (k : Nat) (h : k < l.length) (e : (l[k].toNat : Int) = 92) : closeFrom (l.drop k) k = closeFrom (l.drop (k + 2)) (k + 2) := by
  rw [List.drop_eq_getElem_cons h, close_cons, if_pos (show l[k] = 92 from (u8_of (n := 92) (by omega)).1 e), List.drop_drop]
theorem close_hit (l : List UInt8) (k : Nat) (h : k < l.length) (e : (l[k].toNat : Int) = 34) : closeFrom (l.drop k) k = k := by
  rw [List.drop_eq_getElem_cons h, close_cons, if_neg (not92 (by omega)), if_pos (show l[k] = 34 from (u8_of (n := 34) (by omega)).1 e)]
theorem close_next (l : List UInt8) (k : Nat) (h : k < l.length) (e1 : ¬ (l[k].toNat : Int) = 92) (e2 : ¬ (l[k].toNat : Int) = 34) : closeFrom (l.drop k) k = closeFrom (l.drop (k + 1)) (k + 1) := by
  rw [List.drop_eq_getElem_cons h, close_cons, if_neg (not92 e1), if_neg (not34 e2)]
theorem close_end (l : List UInt8) (k : Nat) (h : l.length ≤ k) : closeFrom (l.drop k) k = -1 := by
  rw [List.drop_eq_nil_of_le h]; rfl

def closeZ (l : List UInt8) : Int := closeFrom (l.drop 1) 1

set_option maxHeartbeats 400000 in
theorem closing_calls (s : ByteArray) (w : World) (_hs : s.size ≤ 281474976710656) :
    Calls Tryd.prog 62 #[.string s] w fun e w' => e = .returned (.int .i64 (closeZ s.data.toList)) ∧ w' = w := by
  go_enter Tryd.func62, Tryd.ntmps62
  go_wp2
  go_loop [3] (fun i => ∃ k : Nat, k ≤ s.size + 1 ∧ i = .int .i64 k ∧ Hid (closeZ s.data.toList = closeFrom (s.data.toList.drop k) k)) (fun i => s.size + 1 - (intOf i).toNat)
  case atStart => exact ⟨1, by omega, rfl, Lib.hid rfl⟩
  case round =>
    obtain ⟨k, hk, rfl, HL⟩ := hrel
    by_cases hp : k < s.size
    · have c1 := close_skip s.data.toList k (by simpa using hp)
      have c2 := close_hit s.data.toList k (by simpa using hp)
      have c3 := close_next s.data.toList k (by simpa using hp)
      rw [get_list s k hp] at c1 c2 c3
      by_cases hc : (s[k].toNat : Int) = 92
      · have g : ((s[k].toNat : Int) == 92) = true := beq_iff_eq.2 hc
        have H0 := Lib.hid (c1 hc)
        clear c1 c2 c3 hc
        go_wp2
        go_round
        case rel => exact ⟨k + 2, by omega, by go_num, Lib.hid (by rw [HL.out, H0.out])⟩
        case measure => simp [intOf]; omega
      · have g : ((s[k].toNat : Int) == 92) = false := beq_eq_false_iff_ne.2 hc
        by_cases hc2 : (s[k].toNat : Int) = 34
        · have g : ((s[k].toNat : Int) == 34) = true := beq_iff_eq.2 hc2
          have H0 := Lib.hid (c2 hc2)
          clear c1 c2 c3 hc hc2
          go_wp2
          go_ret
          exact ⟨ret_int (by rw [HL.out, H0.out]), rfl⟩
        · have g2 : ((s[k].toNat : Int) == 34) = false := beq_eq_false_iff_ne.2 hc2
          have H0 := Lib.hid (c3 hc hc2)
          clear c1 c2 c3 hc hc2
          go_wp2
          go_round
          case rel => exact ⟨k + 1, by omega, by go_num, Lib.hid (by rw [HL.out, H0.out])⟩
          case measure => simp [intOf]; omega
    · have H0 := Lib.hid (close_end s.data.toList k (by simpa using (by omega : s.size ≤ k)))
      go_wp2
      go_ret
      exact ⟨ret_int (by rw [HL.out, H0.out]), rfl⟩

theorem lead_take (p : Nat → Int → Bool) : ∀ (k m : Nat) (l : List UInt8), lead p k (l.take m) = min m (lead p k l)
  | _, 0, _ => by simp [lead]
  | _, _ + 1, [] => by simp [lead]
  | k, m + 1, b :: r => by
    rw [List.take_succ_cons, lead, lead, lead_take p (k + 1) m r]
    split <;> omega
theorem lead_bound (p : Nat → Int → Bool) (n : Nat) (hp : ∀ k c, n ≤ k → p k c = false) : ∀ (k : Nat) (l : List UInt8), lead p k l ≤ n - k
  | _, [] => by simp [lead]
  | k, b :: r => by
    have ih := lead_bound p n hp (k + 1) r
    rw [lead]
    by_cases h : n ≤ k
    · rw [hp k _ h]; simp
    · split <;> omega
theorem nameLead_within (l : List UInt8) : nameLead l ≤ 32 := by
  have := lead_bound (fun k c => decide (k < 32) && nameZ c k) 32 (fun k c h => by simp; omega) 0 l
  exact this
theorem nameL_take (l : List UInt8) (n : Nat) (h : n < l.length) : nameL (l.take (n + 1)) = decide (n < nameLead l) := by
  unfold nameL nameLead
  rw [lead_take, List.length_take, Bool.eq_iff_iff]
  have hne : (l.take (n + 1)).isEmpty = false := by
    cases l with
    | nil => simp at h
    | cons b r => rfl
  rw [hne]
  simp
  omega

theorem first_bs (s : ByteArray) (n : Nat) : s.extract 0 n = bs (s.data.toList.take n) := bs_eq (by rw [Lib.extract_data]; rfl)

set_option maxHeartbeats 1000000 in
theorem nameLen_calls (s : ByteArray) (w : World) (_hs : s.size ≤ 281474976710656) :
    Calls Tryd.prog 50 #[.string s] w fun e w' => e = .returned (.int .i64 (nameLead s.data.toList)) ∧ w' = w := by
  have hle : nameLead s.data.toList ≤ s.size := by rw [Lib.size_eq]; exact lead_le _ _ _
  have h32 := nameLead_within s.data.toList
  obtain ⟨M, hM⟩ : ∃ M, nameLead s.data.toList = M := ⟨_, rfl⟩
  have HM := Lib.hid hM
  rw [hM] at hle h32
  clear hM
  go_enter Tryd.func50, Tryd.ntmps50
  go_wp2
  go_loop [3] (fun i => ∃ k : Nat, k ≤ M ∧ i = .int .i64 k) (fun i => M - (intOf i).toNat)
  case atStart => exact ⟨0, Nat.zero_le _, rfl⟩
  case round =>
    obtain ⟨k, hk, rfl⟩ := hrel
    by_cases hp : k < s.size
    · by_cases h2 : k < 32
      · have HN := Lib.hid (nameL_take s.data.toList k (by simpa using hp))
        go_wp2_with fail
        rw [first_bs]
        refine (rIsName_calls (bs _) _ (by rw [bs_size, List.length_take, ← Lib.size_eq]; unfold maxLen; omega)).mono ?_
        rintro e w' ⟨rfl, hw⟩
        obtain rfl := hw.symm
        rw [bs_data, HN.out, HM.out]
        by_cases h3 : k < M
        · have g : decide (k < M) = true := by simpa using h3
          go_wp2
          go_round
          case rel => exact ⟨k + 1, by omega, by go_num⟩
          case measure => simp [intOf]; omega
        · have g : decide (k < M) = false := by simpa using h3
          go_wp2
          go_ret
          exact ⟨ret_int (by rw [HM.out]; omega), rfl⟩
      · go_wp2
        go_ret
        exact ⟨ret_int (by rw [HM.out]; omega), rfl⟩
    · go_wp2
      go_ret
      exact ⟨ret_int (by rw [HM.out]; omega), rfl⟩

end Go.Proofs.YtgkpdcjkobieiaaDoor
