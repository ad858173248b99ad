/- NumTake, NumRead, NumReadRef, put together. -/
import Derived.Test.YtdnfaoanaehjhaaGreatDoorH15
import Derived.Test.YtdnfaoanaehjhaaGreatDoorH2
import Derived.Test.YtdnfaoanaehjhaaGreatDoorShelf
import Derived.Lib.OthersKept

/- The pieces of a number's text: the sign, the full stop, how many digits there are and how much they are, as package number takes them, for every text. -/
namespace Go.Proofs.YtdnfaoanaehjhaaGreatDoor.Nm
open Go.RowKit

theorem ret_sb {a b : ByteArray} {m n : Int} (h : a = b) (g : m = n) : Ending.returned (.tuple #[.string a, .int .i64 m]) = .returned (.tuple #[.string b, .int .i64 n]) := by rw [h, g]

set_option maxHeartbeats 400000 in
theorem liteCut_calls (s : ByteArray) (w : World) (_hs : s.size ≤ maxLen) :
    Calls Tryz.prog 158 #[.string s, .string ⟨#[46]⟩] w fun e w' => e = .returned (.tuple #[.string (bs (dotAhead s.data.toList)), .string (bs (dotBehind s.data.toList)), .bool (hasDot s.data.toList)]) ∧ ∃ n, w' = w.drewN n := by
  unfold maxLen at _hs
  have HI : Hid (∀ W, Calls Tryz.prog 169 #[.string s, .string ⟨#[46]⟩] W fun e w' => e = .returned (.int .i64 (Lib.indexByte s.data.toList 46)) ∧ w' = W) := Lib.hid fun W => Tryz.stringslite_Index_one s 46 W
  rcases dot_cases s.data.toList with ⟨h, h1, h2, h3, h4⟩ | ⟨h, h1, h2, h3⟩
  · rw [h1] at HI
    rw [h, ← h3, ← h4]
    rw [← Lib.size_eq] at h2
    generalize (dotAhead s.data.toList).length = i at HI h2 ⊢
    have c1 : (0 : Int) ≤ (i : Int) := by omega
    have c2 : (i : Int) ≤ (s.size : Int) := by omega
    have c3 : (0 : Int) ≤ (i : Int) + 1 := by omega
    have c4 : (i : Int) + 1 ≤ (s.size : Int) := by omega
    have e1 : s.extract 0 i = bs (List.take i s.data.toList) := by rw [piece_bs]; rfl
    have e2 : s.extract (i + 1) s.size = bs (List.drop (i + 1) s.data.toList) := drop_bs s (i + 1)
    have E1 := Lib.hid e1
    have E2 := Lib.hid e2
    clear h h1 h3 h4 e1 e2
    go_enter Tryz.func158, Tryz.ntmps158
    go_wp2_with (go_at_call 169; refine (HI.out _).mono ?_; rintro e w' ⟨rfl, rfl⟩)
    go_region
    go_wp2
    go_ret3
    exact ⟨by rw [← E1.out, ← E2.out]; rfl, 1, rfl⟩
  · rw [h1] at HI
    have H1 := Lib.hid (show bs (dotAhead s.data.toList) = s by rw [h2]; rfl)
    have H2 := Lib.hid (show bs (dotBehind s.data.toList) = ⟨#[]⟩ by rw [h3]; rfl)
    have H3 := Lib.hid h
    clear h h1 h2 h3
    go_enter Tryz.func158, Tryz.ntmps158
    go_wp2_with (go_at_call 169; refine (HI.out _).mono ?_; rintro e w' ⟨rfl, rfl⟩)
    go_ret3
    exact ⟨by rw [H1.out, H2.out, H3.out]; rfl, 0, rfl⟩

set_option maxHeartbeats 400000 in
theorem Cut_calls (s : ByteArray) (w : World) (hs : s.size ≤ maxLen) :
    Calls Tryz.prog 139 #[.string s, .string ⟨#[46]⟩] w fun e w' => e = .returned (.tuple #[.string (bs (dotAhead s.data.toList)), .string (bs (dotBehind s.data.toList)), .bool (hasDot s.data.toList)]) ∧ ∃ n, w' = w.drewN n := by
  go_enter Tryz.func139, Tryz.ntmps139
  go_wp2_with (go_at_call 158; refine (liteCut_calls _ _ hs).mono ?_; rintro e w' ⟨rfl, n, rfl⟩)
  go_ret3
  exact ⟨rfl, n, rfl⟩

set_option maxHeartbeats 400000 in
theorem signed_calls (s : ByteArray) (w : World) (_hs : s.size ≤ maxLen) :
    Calls Tryz.prog 138 #[.string s] w fun e w' => e = .returned (.tuple #[.string (bs (unsigned s.data.toList)), .int .i64 (signOf s.data.toList)]) ∧ w' = w := by
  unfold maxLen at _hs
  rcases sign_cases s.data.toList with ⟨h1, h2, h3, h4⟩ | ⟨h1, h1', h2, h3, h4⟩ | ⟨h1, h1', h3, h4⟩
  · rw [← Lib.size_eq] at h2
    have H1 := Lib.hid h1
    have H3 := Lib.hid h3
    have H4 := Lib.hid h4
    clear h1 h3 h4
    go_enter Tryz.func138, Tryz.ntmps138
    go_wp2_with (go_at_call 153; refine (Tryz.strings_HasPrefix _ _ _).mono ?_; rintro e w' ⟨rfl, rfl⟩; rw [show (ByteArray.mk #[45]).data.toList = [45] from rfl, H1.out])
    go_ret2
    exact ⟨ret_sb (by rw [H3.out]; exact drop_bs s 1) H4.out.symm, rfl⟩
  · rw [← Lib.size_eq] at h2
    have H1 := Lib.hid h1
    have H1' := Lib.hid h1'
    have H3 := Lib.hid h3
    have H4 := Lib.hid h4
    clear h1 h1' h3 h4
    go_enter Tryz.func138, Tryz.ntmps138
    go_wp2_with (go_at_call 153; refine (Tryz.strings_HasPrefix _ _ _).mono ?_; rintro e w' ⟨rfl, rfl⟩; first | rw [show (ByteArray.mk #[45]).data.toList = [45] from rfl, H1.out] | rw [show (ByteArray.mk #[43]).data.toList = [43] from rfl, H1'.out])
    go_ret2
    exact ⟨ret_sb (by rw [H3.out]; exact drop_bs s 1) H4.out.symm, rfl⟩
  · have H1 := Lib.hid h1
    have H1' := Lib.hid h1'
    have H3 := Lib.hid h3
    have H4 := Lib.hid h4
    clear h1 h1' h3 h4
    go_enter Tryz.func138, Tryz.ntmps138
    go_wp2_with (go_at_call 153; refine (Tryz.strings_HasPrefix _ _ _).mono ?_; rintro e w' ⟨rfl, rfl⟩; first | rw [show (ByteArray.mk #[45]).data.toList = [45] from rfl, H1.out] | rw [show (ByteArray.mk #[43]).data.toList = [43] from rfl, H1'.out])
    go_ret2
    exact ⟨ret_sb (by rw [H3.out]; rfl) H4.out.symm, rfl⟩

set_option maxHeartbeats 400000 in
theorem counted_calls (a h : ByteArray) (dec : Bool) (w : World) (_ha : a.size + h.size ≤ maxLen) :
    Calls Tryz.prog 140 #[.string a, .string h, .bool dec] w fun e w' => e = .returned (.bool (countZ a.size h.size dec)) ∧ w' = w := by
  unfold maxLen at _ha
  by_cases h1 : (a.size : Int) + h.size ≤ 13
  · cases dec
    · by_cases h2 : 1 ≤ (a.size : Int)
      · go_enter Tryz.func140, Tryz.ntmps140
        go_wp2
        go_ret
        exact ⟨ret_bool (by rw [Bool.eq_iff_iff]; simp [countZ] <;> omega), rfl⟩
      · go_enter Tryz.func140, Tryz.ntmps140
        go_wp2
        go_ret
        exact ⟨ret_bool (by rw [Bool.eq_iff_iff]; simp [countZ] <;> omega), rfl⟩
    · obtain ⟨h2, h3⟩ | h2 | h3 : (1 ≤ (h.size : Int) ∧ (h.size : Int) ≤ 4) ∨ ¬ 1 ≤ (h.size : Int) ∨ ¬ (h.size : Int) ≤ 4 := by omega
      all_goals
        go_enter Tryz.func140, Tryz.ntmps140
        go_wp2
        go_ret
        exact ⟨ret_bool (by rw [Bool.eq_iff_iff]; simp [countZ] <;> omega), rfl⟩
  · have k1 : (13 : Int) < (a.size : Int) + h.size := by omega
    cases dec
    all_goals
      go_enter Tryz.func140, Tryz.ntmps140
      go_wp2
      go_ret
      exact ⟨ret_bool (by rw [Bool.eq_iff_iff]; simp [countZ] <;> omega), rfl⟩

theorem width_pos (s : ByteArray) (pos : Nat) (h : pos < s.size) : 1 ≤ (Utf8.decode s pos).2 := by
  by_cases ha : (s[pos]'h).toNat < 128
  · rw [decode_ascii s pos h ha]
    exact Nat.le_refl _
  · exact (decode_high s pos h (by omega)).2
/- one rune: below 128 it is its byte; else no digit -/
theorem rune_of (s : ByteArray) (k : Nat) (h : k < s.size) :
    (((Utf8.decode s k).1 : Int) = ((s.data.toList[k]'(by simpa using h)).toNat : Int) ∧ (Utf8.decode s k).2 = 1) ∨ (128 ≤ ((Utf8.decode s k).1 : Int) ∧ 128 ≤ ((s.data.toList[k]'(by simpa using h)).toNat : Int)) := by
  have e : (s.data.toList[k]'(by simpa using h)) = s[k]'h := by simp; rfl
  rw [e]
  by_cases ha : (s[k]'h).toNat < 128
  · left; rw [decode_ascii s k h ha]; exact ⟨rfl, rfl⟩
  · right; have := (decode_high s k h (by omega)).1; omega
theorem iter_below (w : World) (s : ByteArray) (p : Nat) : Below w.heap.size w (w.iter s p) := (Below.refl _ _).alloc (Nat.le_refl _) _

def AmtRet (p : Int × Bool) : Value := .tuple #[.int .i64 p.1, .bool p.2]
theorem amt_yes (a : Int) (l : List UInt8) (k : Nat) (h : k < l.length) (h1 : 48 ≤ (l[k].toNat : Int)) (h2 : (l[k].toNat : Int) ≤ 57) : amt13 a (l.drop k) = amt13 (a * 10 + ((l[k].toNat : Int) - 48)) (l.drop (k + 1)) := by
  rw [List.drop_eq_getElem_cons h, amt13, if_pos (by simp [digitB]; omega)]
theorem amt_no (a : Int) (l : List UInt8) (k : Nat) (h : k < l.length) (h1 : (l[k].toNat : Int) < 48 ∨ 57 < (l[k].toNat : Int)) : amt13 a (l.drop k) = (0, false) := by
  rw [List.drop_eq_getElem_cons h, amt13, if_neg (by simp [digitB]; omega)]
theorem amt_end (a : Int) (l : List UInt8) (k : Nat) (h : l.length ≤ k) : amt13 a (l.drop k) = (a, true) := by
  rw [List.drop_eq_nil_of_le h]; rfl
theorem ten_13 (k : Nat) (h : k ≤ 13) : ten k ≤ 10000000000000 := by
  have : ∀ k : Fin 14, ten k.val ≤ 10000000000000 := by decide
  exact this ⟨k, by omega⟩

set_option maxHeartbeats 1000000 in
theorem amount_calls (s : ByteArray) (w : World) (hs : s.size ≤ 13) :
    Calls Tryz.prog 141 #[.string s] w fun e w' => e = .returned (AmtRet (amt13 0 s.data.toList)) ∧ Below w.heap.size w w' := by
  go_enter Tryz.func141, Tryz.ntmps141
  go_wp2
  go_loopw [4] (fun a w' => ∃ (k : Nat) (x : Int), w' = w.iter s k ∧ k ≤ s.size ∧ a = .int .i64 x ∧ 0 ≤ x ∧ x < 10000000000000 ∧ Hid (x < ten k) ∧ Hid (amt13 0 s.data.toList = amt13 x (s.data.toList.drop k))) (fun _ w' => s.size - w'.iterPos w.heap.size)
  case atStart => exact ⟨0, 0, rfl, Nat.zero_le _, rfl, by omega, by omega, Lib.hid (by decide), Lib.hid rfl⟩
  case round =>
    obtain ⟨k, x, rfl, hk, rfl, hx0, hx1, HT, HL⟩ := hrel
    by_cases hp : k < s.size
    · have hnx : ∀ ty, (Instr.next (.pointer (some ⟨w.heap.size, 0, none⟩)) true ty).run Tryz.prog (w.iter s k) = _ := fun ty => run_next_any w s k ty hp
      have hr := rune_of s k hp
      have hl : k < s.data.toList.length := by simpa using hp
      have hd : 1 ≤ (Utf8.decode s k).2 := width_pos s k hp
      have ay := amt_yes x s.data.toList k hl
      have an := amt_no x s.data.toList k hl
      generalize ((Utf8.decode s k).1 : Int) = r at hr hnx
      generalize (Utf8.decode s k).2 = d at hr hd hnx
      generalize ((s.data.toList[k]'hl).toNat : Int) = b at hr ay an
      by_cases hz : 48 ≤ r ∧ r ≤ 57
      · obtain ⟨z1, z2⟩ := hz
        obtain ⟨rfl, rfl⟩ : r = b ∧ d = 1 := hr.resolve_right fun h => by omega
        have H0 := Lib.hid (ay z1 z2)
        have ht : x < ten k := HT.out
        have h13 := ten_13 (k + 1) (by omega)
        have e : ten (k + 1) = 10 * ten k := rfl
        have hb1 : x * 10 + (r - 48) < 10000000000000 := by omega
        have HT' : Hid (x * 10 + (r - 48) < ten (k + 1)) := Lib.hid (by omega)
        clear ay an hr ht h13 e HT
        go_wp2
        go_roundw
        case rel => exact ⟨k + 1, x * 10 + (r - 48), rfl, by omega, rfl, by omega, by omega, HT', Lib.hid (by rw [HL.out, H0.out])⟩
        case measure => simp; omega
      · have H0 := Lib.hid (an (by rcases hr with h | h <;> omega))
        have hcase : r < 48 ∨ (¬ r < 48 ∧ 57 < r) := by omega
        clear ay an hr hz
        rcases hcase with c | ⟨c1, c2⟩
        all_goals
          go_wp2
          go_ret2
          exact ⟨by rw [HL.out, H0.out]; rfl, iter_below _ _ _⟩
    · have hnx : ∀ ty, (Instr.next (.pointer (some ⟨w.heap.size, 0, none⟩)) true ty).run Tryz.prog (w.iter s k) = _ := fun ty => run_next_end w s k ty hp
      have H0 := Lib.hid (amt_end x s.data.toList k (by simpa using (by omega : s.size ≤ k)))
      go_wp2
      go_ret2
      exact ⟨by rw [HL.out, H0.out]; rfl, iter_below _ _ _⟩

end Go.Proofs.YtdnfaoanaehjhaaGreatDoor.Nm

/- The number of a text: what package number's Read comes to, for every text. -/
namespace Go.Proofs.YtdnfaoanaehjhaaGreatDoor.Nm
open Go.RowKit

def readRet (p : NumL × Bool) : Value := .tuple #[p.1.val, .int .i64 (errZ p.2)]
theorem dots_le (l : List UInt8) : (dotAhead l).length + (dotBehind l).length ≤ l.length := by
  induction l with
  | nil => simp [dotAhead, dotBehind]
  | cons c r ih =>
    unfold dotAhead dotBehind
    split
    · simp
    · simp; omega
theorem unsigned_le (l : List UInt8) : (unsigned l).length ≤ l.length := by
  unfold unsigned
  split
  · simp
  · split
    · simp
    · split <;> simp
theorem sign_one (l : List UInt8) : signOf l = 1 ∨ signOf l = -1 := by
  unfold signOf
  split
  · simp
  · split <;> simp
theorem count_le {a h : Int} {dec : Bool} (c : countZ a h dec = true) : a + h ≤ 13 := by
  unfold countZ at c
  simp at c
  exact c.1
/- Read, once its pieces are told -/
theorem readB_dot {b : List UInt8} {sg : Int} {dec : Bool} (h : (hasDot b != dec) = true) : readB b sg dec = (noNum, false) := by unfold readB; rw [if_pos h]
theorem readB_count {b : List UInt8} {sg : Int} {dec : Bool} (h : (hasDot b != dec) = false) (h1 : countZ (dotAhead b).length (dotBehind b).length dec = false) : readB b sg dec = (noNum, false) := by
  unfold readB; rw [if_neg (by rw [h]; simp), if_pos h1]
theorem readB_amt {b : List UInt8} {sg : Int} {dec : Bool} (h : (hasDot b != dec) = false) (h1 : countZ (dotAhead b).length (dotBehind b).length dec = true) (h2 : (amt13 0 (dotAhead b ++ dotBehind b)).2 = false) : readB b sg dec = (noNum, false) := by
  unfold readB; rw [if_neg (by rw [h]; simp), if_neg (by rw [h1]; simp), if_pos h2]
theorem readB_made {b : List UInt8} {sg : Int} {dec : Bool} (h : (hasDot b != dec) = false) (h1 : countZ (dotAhead b).length (dotBehind b).length dec = true) (h2 : (amt13 0 (dotAhead b ++ dotBehind b)).2 = true) : readB b sg dec = madeL (sg * (amt13 0 (dotAhead b ++ dotBehind b)).1) (dotBehind b).length dec := by
  unfold readB; rw [if_neg (by rw [h]; simp), if_neg (by rw [h1]; simp), if_neg (by rw [h2]; simp)]

theorem behind_13 {b : List UInt8} {dec : Bool} (h1 : countZ (dotAhead b).length (dotBehind b).length dec = true) : (dotBehind b).length ≤ 13 ∧ (dotAhead b).length + (dotBehind b).length ≤ 13 := by
  have := count_le h1; omega
theorem behind_4 {b : List UInt8} {dec : Bool} (h : (hasDot b != dec) = false) (h1 : countZ (dotAhead b).length (dotBehind b).length dec = true) : (dotBehind b).length ≤ 4 := by
  cases dec with
  | true => unfold countZ at h1; simp at h1; omega
  | false =>
    rcases dot_cases b with ⟨k, _⟩ | ⟨_, _, _, k⟩
    · rw [k] at h; simp at h
    · rw [k]; simp

set_option maxHeartbeats 2000000 in
theorem Read_calls (s : ByteArray) (dec : Bool) (w : World) (hg : Good w) (hs : s.size ≤ maxLen) :
    Calls Tryz.prog 122 #[.string s, .bool dec] w fun e w' => e = .returned (readRet (readL s.data.toList dec)) ∧ Below w.heap.size w w' := by
  unfold readL
  have HSg : Hid (∀ W, Calls Tryz.prog 138 #[.string s] W fun e w' => e = .returned (.tuple #[.string (bs (unsigned s.data.toList)), .int .i64 (signOf s.data.toList)]) ∧ w' = W) := Lib.hid fun W => signed_calls s W hs
  have hlen : (unsigned s.data.toList).length ≤ s.size := by rw [Lib.size_eq]; exact unsigned_le _
  have hsg := sign_one s.data.toList
  unfold maxLen at hs
  generalize unsigned s.data.toList = b at HSg hlen ⊢
  generalize signOf s.data.toList = sg at HSg hsg ⊢
  have hdl := dots_le b
  have HCut : Hid (∀ W, Calls Tryz.prog 139 #[.string (bs b), .string ⟨#[46]⟩] W fun e w' => e = .returned (.tuple #[.string (bs (dotAhead b)), .string (bs (dotBehind b)), .bool (hasDot b)]) ∧ ∃ n, w' = W.drewN n) := Lib.hid fun W => Cut_calls (bs b) W (by rw [bs_size]; unfold maxLen; omega)
  have HCnt : Hid (∀ W, Calls Tryz.prog 140 #[.string (bs (dotAhead b)), .string (bs (dotBehind b)), .bool dec] W fun e w' => e = .returned (.bool (countZ (dotAhead b).length (dotBehind b).length dec)) ∧ w' = W) := Lib.hid fun W => counted_calls _ _ dec W (by rw [bs_size, bs_size]; unfold maxLen; omega)
  have HAm : Hid (countZ (dotAhead b).length (dotBehind b).length dec = true → ∀ W, Calls Tryz.prog 141 #[.string (bs (dotAhead b) ++ bs (dotBehind b))] W fun e w' => e = .returned (AmtRet (amt13 0 (dotAhead b ++ dotBehind b))) ∧ Below W.heap.size W w') := Lib.hid fun hc W => by
    rw [bs_app]
    exact amount_calls _ W (by have := count_le hc; rw [bs_size, List.length_append]; omega)
  have HMd : Hid ((hasDot b != dec) = false → countZ (dotAhead b).length (dotBehind b).length dec = true → (amt13 0 (dotAhead b ++ dotBehind b)).2 = true → ∀ W, Good W → Calls Tryz.prog 142 #[.int .i64 (sg * (amt13 0 (dotAhead b ++ dotBehind b)).1), .int .i64 (bs (dotBehind b)).size, .bool dec] W fun e w' => e = .returned (NumL.ret (readB b sg dec)) ∧ Below W.heap.size W w') := Lib.hid fun h1 h2 h3 W hW => by
    rw [readB_made h1 h2 h3, bs_size]
    have hb := amt13_bound (dotAhead b ++ dotBehind b) 0 0 (by omega) (by decide) h3
    have h13 := ten_13 (0 + (dotAhead b ++ dotBehind b).length) (by have := count_le h2; rw [List.length_append]; omega)
    exact made_calls _ _ dec W hW (by have := behind_4 h1 h2; omega) (by rcases hsg with e | e <;> rw [e] <;> omega) (by rcases hsg with e | e <;> rw [e] <;> omega)
  have HV : Hid (countZ (dotAhead b).length (dotBehind b).length dec = true → (amt13 0 (dotAhead b ++ dotBehind b)).2 = true → IntKind.i64.wrap (sg * (amt13 0 (dotAhead b ++ dotBehind b)).1) = sg * (amt13 0 (dotAhead b ++ dotBehind b)).1) := Lib.hid fun h2 h3 => by
    have hb := amt13_bound (dotAhead b ++ dotBehind b) 0 0 (by omega) (by decide) h3
    have h13 := ten_13 (0 + (dotAhead b ++ dotBehind b).length) (by have := count_le h2; rw [List.length_append]; omega)
    exact IntWalk.i64_in _ (by rcases hsg with e | e <;> rw [e] <;> omega)
  have hsz : (bs (dotAhead b)).size + (bs (dotBehind b)).size ≤ 9223372036854775807 := by rw [bs_size, bs_size]; omega
  have HG := Lib.hid hg
  have hR1 := @readB_dot b sg dec
  have hR2 := @readB_count b sg dec
  have hR3 := @readB_amt b sg dec
  clear hg hlen hsg hdl
  have hR4 : (readB b sg dec).2 = false → readB b sg dec = (noNum, false) := by
    intro h
    unfold readB at h ⊢
    split at h
    · rename_i k; rw [if_pos k]
    · rename_i k
      rw [if_neg k]
      split at h
      · rename_i k; rw [if_pos k]
      · rename_i k
        rw [if_neg k]
        split at h
        · rename_i k; rw [if_pos k]
        · rename_i k; rw [if_neg k]; exact madeL_false h
  have HR1 := Lib.hid hR1
  have HR2 := Lib.hid hR2
  have HR3 := Lib.hid hR3
  have HR4 := Lib.hid hR4
  clear hR1 hR2 hR3 hR4
  generalize readB b sg dec = R at HMd HR1 HR2 HR3 HR4 ⊢
  generalize bs (dotAhead b) = sa at HCut HCnt HAm hsz
  generalize bs (dotBehind b) = sh at HCut HCnt HAm HMd hsz
  generalize amt13 0 (dotAhead b ++ dotBehind b) = V at HAm HMd HV HR3
  generalize countZ (dotAhead b).length (dotBehind b).length dec = cnt at HCnt HAm HMd HV HR2 HR3
  generalize hasDot b = stop at HCut HMd HR1 HR2 HR3
  generalize bs b = sb at HSg HCut
  obtain ⟨⟨Rv, Rs, Rd⟩, Rb⟩ := R
  obtain ⟨V, ok⟩ := V
  have hst : (stop != dec) = true ∨ (stop != dec) = false := by cases (stop != dec) <;> simp
  rcases hst with hst | hst
  · have e := HR1.out hst
    simp only [noNum, Prod.mk.injEq, NumL.mk.injEq] at e
    obtain ⟨⟨rfl, rfl, rfl⟩, rfl⟩ := e
    clear HR1 HR2 HR3 HR4 HMd HV HAm HCnt
    cases stop <;> cases dec <;> first | (exfalso; cases hst; done) | skip
    all_goals
      clear hst
      go_enter Tryz.func122, Tryz.ntmps122
      go_wp2_with (first | (go_at_call 138; refine (HSg.out _).mono ?_; rintro e w' ⟨rfl, rfl⟩) | (go_at_call 139; refine (HCut.out _).mono ?_; rintro e w' ⟨rfl, n, rfl⟩))
      refine bodyPost_ret (v := .tuple #[.agg #[.int .i64 0, .int .i64 0, .bool false], .int .i64 2]) (by simp [results, Tryz.results122, go_sem]) rfl ⟨rfl, ?_⟩
      exact (((below_drewN (box_below _ _) _).setCell (Nat.le_refl _) _).setCell (Nat.le_refl _) _).setCell (Nat.le_refl _) _
  · have HM := Lib.hid (HMd.out hst)
    have h3 := HR3.out hst
    have h2 := HR2.out hst
    obtain rfl : stop = dec := by cases stop <;> cases dec <;> first | rfl | cases hst
    clear HR1 HR2 HR3 HMd hst
    cases cnt with
    | false =>
      have e := h2 rfl
      simp only [noNum, Prod.mk.injEq, NumL.mk.injEq] at e
      obtain ⟨⟨rfl, rfl, rfl⟩, rfl⟩ := e
      clear h2 h3 HM HV HAm HR4
      cases stop
      all_goals
        go_enter Tryz.func122, Tryz.ntmps122
        go_wp2_with (first | (go_at_call 138; refine (HSg.out _).mono ?_; rintro e w' ⟨rfl, rfl⟩) | (go_at_call 139; refine (HCut.out _).mono ?_; rintro e w' ⟨rfl, n, rfl⟩) | (go_at_call 140; refine (HCnt.out _).mono ?_; rintro e w' ⟨rfl, hw⟩; obtain rfl := hw.symm; clear hw))
        refine bodyPost_ret (v := .tuple #[.agg #[.int .i64 0, .int .i64 0, .bool false], .int .i64 2]) (by simp [results, Tryz.results122, go_sem]) rfl ⟨rfl, ?_⟩
        exact (((below_drewN (box_below _ _) _).setCell (Nat.le_refl _) _).setCell (Nat.le_refl _) _).setCell (Nat.le_refl _) _
    | true =>
      clear h2
      have HA := Lib.hid (HAm.out rfl)
      clear HAm
      cases ok with
      | false =>
        have e := h3 rfl rfl
        simp only [noNum, Prod.mk.injEq, NumL.mk.injEq] at e
        obtain ⟨⟨rfl, rfl, rfl⟩, rfl⟩ := e
        clear h3 HM HV HR4
        cases stop
        all_goals
          go_enter Tryz.func122, Tryz.ntmps122
          go_wp2_with (first | (go_at_call 138; refine (HSg.out _).mono ?_; rintro e w' ⟨rfl, rfl⟩) | (go_at_call 139; refine (HCut.out _).mono ?_; rintro e w' ⟨rfl, n, rfl⟩) | (go_at_call 140; refine (HCnt.out _).mono ?_; rintro e w' ⟨rfl, hw⟩; obtain rfl := hw.symm; clear hw))
          refine (HA.out _).mono ?_
          rintro e w1 ⟨rfl, hb1⟩
          simp only [AmtRet]
          obtain ⟨hc, hf⟩ := bcell hb1
          have hz : w.heap.size < w1.heap.size := by have := hb1.size; simp at this; omega
          have hB : Below w.heap.size w w1 := (below_drewN (box_below w _) n).trans (hb1.mono (by simp))
          go_wp2
          refine bodyPost_ret (v := .tuple #[.agg #[.int .i64 0, .int .i64 0, .bool false], .int .i64 2]) (by simp [results, Tryz.results122, hc, go_sem]) rfl ⟨rfl, ?_⟩
          exact ((hB.setCell (Nat.le_refl _) _).setCell (Nat.le_refl _) _).setCell (Nat.le_refl _) _
      | true =>
        clear h3
        have HMk := Lib.hid (HM.out rfl rfl)
        have hv := HV.out rfl rfl
        clear HM HV
        cases stop
        all_goals
          go_enter Tryz.func122, Tryz.ntmps122
          go_wp2_with (first | (go_at_call 138; refine (HSg.out _).mono ?_; rintro e w' ⟨rfl, rfl⟩) | (go_at_call 139; refine (HCut.out _).mono ?_; rintro e w' ⟨rfl, n, rfl⟩) | (go_at_call 140; refine (HCnt.out _).mono ?_; rintro e w' ⟨rfl, hw⟩; obtain rfl := hw.symm; clear hw))
          refine (HA.out _).mono ?_
          rintro e w1 ⟨rfl, hb1⟩
          simp only [AmtRet]
          have hG1 : Good w1 := ((HG.out.alloc _).drewN n).on hb1
          obtain ⟨hc, hf⟩ := bcell hb1
          have hz : w.heap.size < w1.heap.size := by have := hb1.size; simp at this; omega
          go_wp2_with fail
          refine (HMk.out _ hG1).mono ?_
          rintro e w2 ⟨rfl, hb2'⟩
          simp only [NumL.ret, NumL.val]
          have hb2 := bnext hb1 hb2'
          have hB : Below w.heap.size w w2 := (below_drewN (box_below w _) n).trans (hb2.mono (by simp))
          clear hc hf hz
          obtain ⟨hc, hf⟩ := bcell hb2
          have hz : w.heap.size < w2.heap.size := by have := hb2.size; simp at this; omega
          cases Rb with
          | true =>
            go_wp2
            refine bodyPost_ret (v := .tuple #[.agg #[.int .i64 Rv, .int .i64 Rs, .bool Rd], .int .i64 0]) (by simp [results, Tryz.results122, hc, hz, go_sem]) rfl ⟨rfl, ?_⟩
            exact (((hB.setCell (Nat.le_refl _) _).setCell (Nat.le_refl _) _).setCell (Nat.le_refl _) _).alloc (by simp; omega) _
          | false =>
            have e := HR4.out rfl
            simp only [noNum, Prod.mk.injEq, NumL.mk.injEq, and_true] at e
            obtain ⟨rfl, rfl, rfl⟩ := e
            go_wp2
            refine bodyPost_ret (v := .tuple #[.agg #[.int .i64 0, .int .i64 0, .bool false], .int .i64 2]) (by simp [results, Tryz.results122, hc, hz, go_sem]) rfl ⟨rfl, ?_⟩
            exact (((hB.setCell (Nat.le_refl _) _).setCell (Nat.le_refl _) _).setCell (Nat.le_refl _) _).alloc (by simp; omega) _

end Go.Proofs.YtdnfaoanaehjhaaGreatDoor.Nm

/- The document's own reading of a number, a byte at a time (no program): the same number as package number's. -/
namespace Go.Proofs.YtdnfaoanaehjhaaGreatDoor.Nm

def walkR (dec : Bool) : List UInt8 → Nat → Int → Int → Option (Nat × Int × Int)
  | [], n, b, v => some (n, b, v)
  | c :: r, n, b, v =>
    if c = 46 ∧ b < 0 ∧ dec = true then walkR dec r n 0 v
    else if digitB c = false ∨ n = 13 then none
    else walkR dec r (n + 1) (if 0 ≤ b then b + 1 else b) (10 * v + (c.toNat : Int) - 48)

theorem walk_cons (dec : Bool) (c : UInt8) (r : List UInt8) (n : Nat) (b v : Int) : walkR dec (c :: r) n b v = if c = 46 ∧ b < 0 ∧ dec = true then walkR dec r n 0 v else if digitB c = false ∨ n = 13 then none else walkR dec r (n + 1) (if 0 ≤ b then b + 1 else b) (10 * v + (c.toNat : Int) - 48) := rfl
theorem digit_dot : digitB 46 = false := by decide
theorem amt_dot (l : List UInt8) : ∀ a : Int, hasDot l = true → (amt13 a l).2 = false := by
  induction l with
  | nil => intro a h; cases h
  | cons c r ih =>
    intro a h
    unfold amt13
    by_cases hd : digitB c = true
    · rw [if_pos hd]
      have hc : c ≠ 46 := fun e => by rw [e, digit_dot] at hd; cases hd
      exact ih _ (by simpa [hasDot, hc] using h)
    · rw [if_neg hd]
theorem amt_app (A : List UInt8) : ∀ (a : Int) (H : List UInt8), amt13 a (A ++ H) = if (amt13 a A).2 = true then amt13 (amt13 a A).1 H else (0, false) := by
  induction A with
  | nil => intro a H; simp [amt13]
  | cons c r ih =>
    intro a H
    by_cases hd : digitB c = true
    · simp only [List.cons_append, amt13, if_pos hd]; exact ih _ H
    · simp only [List.cons_append, amt13, if_neg hd]; rfl
theorem amt_false (l : List UInt8) : ∀ a : Int, (amt13 a l).2 = false → amt13 a l = (0, false) := by
  induction l with
  | nil => intro a h; cases h
  | cons c r ih =>
    intro a h
    by_cases hd : digitB c = true
    · simp only [amt13, if_pos hd] at h ⊢; exact ih _ h
    · simp only [amt13, if_neg hd]

/- digits to the end -/
theorem walk_digits (dec : Bool) (l : List UInt8) : ∀ (n : Nat) (b v : Int), n ≤ 13 → (0 ≤ b ∨ dec = false ∨ hasDot l = false) →
    walkR dec l n b v = if (amt13 v l).2 = true ∧ n + l.length ≤ 13 then some (n + l.length, (if 0 ≤ b then b + l.length else b), (amt13 v l).1) else none := by
  induction l with
  | nil => intro n b v hn _; simp [walkR, amt13, hn]
  | cons c r ih =>
    intro n b v hn hs
    have h1 : ¬ (c = 46 ∧ b < 0 ∧ dec = true) := by
      rintro ⟨e1, e2, e3⟩
      rcases hs with h | h | h
      · omega
      · rw [e3] at h; cases h
      · simp [hasDot, e1] at h
    unfold walkR
    rw [if_neg h1]
    by_cases hd : digitB c = true
    · have hc : c ≠ 46 := fun e => by rw [e, digit_dot] at hd; cases hd
      have hs' : 0 ≤ (if 0 ≤ b then b + 1 else b) ∨ dec = false ∨ hasDot r = false := by
        rcases hs with h | h | h
        · left; rw [if_pos h]; omega
        · right; left; exact h
        · right; right; simpa [hasDot, hc] using h
      simp only [amt13, if_pos hd]
      by_cases h13 : n = 13
      · rw [if_pos (.inr h13), if_neg (by simp; omega)]
      · rw [if_neg (by rw [hd]; simp [h13]), ih (n + 1) _ _ (by omega) hs', show 10 * v + (c.toNat : Int) - 48 = v * 10 + ((c.toNat : Int) - 48) by omega]
        by_cases hb : 0 ≤ b
        · simp only [hb, if_true, List.length_cons, show 0 ≤ b + 1 by omega]
          have e1 : n + 1 + r.length = n + (r.length + 1) := by omega
          have e2 : b + 1 + (r.length : Int) = b + ((r.length + 1 : Nat) : Int) := by omega
          rw [e1, e2]
        · simp only [hb, if_false, List.length_cons]
          have e1 : n + 1 + r.length = n + (r.length + 1) := by omega
          rw [e1]
    · have hd' : digitB c = false := by simpa using hd
      simp only [amt13, if_neg hd]
      rw [if_pos (.inl hd'), if_neg (by simp)]

/- up to the full stop -/
theorem walk_dot (l : List UInt8) : ∀ (n : Nat) (b v : Int), n ≤ 13 → b < 0 → hasDot l = true →
    walkR true l n b v = if (amt13 v (dotAhead l)).2 = true ∧ n + (dotAhead l).length ≤ 13 then walkR true (dotBehind l) (n + (dotAhead l).length) 0 (amt13 v (dotAhead l)).1 else none := by
  induction l with
  | nil => intro n b v _ _ h; cases h
  | cons c r ih =>
    intro n b v hn hb h
    rw [walk_cons]
    by_cases hc : c = 46
    · rw [if_pos ⟨hc, hb, rfl⟩]
      simp [dotAhead, dotBehind, hc, amt13, hn]
    · have h' : hasDot r = true := by simpa [hasDot, hc] using h
      rw [if_neg (fun e => hc e.1)]
      simp only [dotAhead, dotBehind, if_neg hc, amt13]
      by_cases hd : digitB c = true
      · simp only [if_pos hd]
        by_cases h13 : n = 13
        · rw [if_pos (.inr h13), if_neg (by simp; omega)]
        · rw [if_neg (by rw [hd]; simp [h13]), if_neg (show ¬ 0 ≤ b by omega), ih (n + 1) b _ (by omega) hb h', show 10 * v + (c.toNat : Int) - 48 = v * 10 + ((c.toNat : Int) - 48) by omega]
          simp only [List.length_cons]
          have e1 : n + 1 + (dotAhead r).length = n + ((dotAhead r).length + 1) := by omega
          rw [e1]
      · have hd' : digitB c = false := by simpa using hd
        simp only [if_neg hd]
        rw [if_pos (.inl hd'), if_neg (by simp)]

/- what the document makes of it -/
def endR (dec : Bool) (sg : Int) : Option (Nat × Int × Int) → NumL × Bool
  | none => (noNum, false)
  | some (n, b, v) => if n = 0 ∨ (dec = true ∧ (b < 1 ∨ 4 < b)) then (noNum, false) else madeL (sg * v) (max b 0).toNat dec

theorem ref_read (b : List UInt8) (sg : Int) (dec : Bool) : endR dec sg (walkR dec b 0 (-1) 0) = readB b sg dec := by
  cases dec with
  | false =>
    have hw := walk_digits false b 0 (-1) 0 (by omega) (.inr (.inl rfl))
    rcases dot_cases b with ⟨hd, _⟩ | ⟨hd, _, hA, hH⟩
    · rw [if_neg (by rw [amt_dot b 0 hd]; simp)] at hw
      rw [hw, readB_dot (by rw [hd]; rfl)]
      rfl
    · have hst : (hasDot b != false) = false := by rw [hd]; rfl
      by_cases hok : (amt13 0 b).2 = true
      · by_cases hl : b.length ≤ 13
        · rw [if_pos ⟨hok, by omega⟩, if_neg (show ¬ (0 : Int) ≤ -1 by omega)] at hw
          rw [hw]
          by_cases h0 : b.length = 0
          · rw [readB_count hst (by rw [hA, hH]; simp [countZ, h0])]
            simp [endR, h0]
          · rw [readB_made hst (by rw [hA, hH]; simp [countZ]; omega) (by rw [hA, hH, List.append_nil]; exact hok), hA, hH, List.append_nil]
            unfold endR
            simp only [Nat.zero_add]
            rw [if_neg (by simp; exact fun e => h0 (by rw [e]; rfl))]
            rfl
        · rw [if_neg (by omega)] at hw
          rw [hw, readB_count hst (by rw [hA, hH]; simp [countZ]; omega)]
          rfl
      · have hok' : (amt13 0 b).2 = false := by simpa using hok
        rw [if_neg (by rw [hok']; simp)] at hw
        rw [hw]
        by_cases hc : countZ (dotAhead b).length (dotBehind b).length false = true
        · rw [readB_amt hst hc (by rw [hA, hH, List.append_nil]; exact hok')]
          rfl
        · rw [readB_count hst (by simpa using hc)]
          rfl
  | true =>
    rcases dot_cases b with ⟨hd, _⟩ | ⟨hd, _, hA, hH⟩
    · have hst : (hasDot b != true) = false := by rw [hd]; rfl
      have hw := walk_dot b 0 (-1) 0 (by omega) (by omega) hd
      have ha := amt_app (dotAhead b) 0 (dotBehind b)
      by_cases hok : (amt13 0 (dotAhead b)).2 = true
      · rw [if_pos hok] at ha
        by_cases hl : (dotAhead b).length ≤ 13
        · rw [if_pos ⟨hok, by omega⟩, walk_digits true (dotBehind b) (0 + (dotAhead b).length) 0 _ (by omega) (.inl (by omega)), if_pos (show (0 : Int) ≤ 0 by omega)] at hw
          rw [hw]
          by_cases hok2 : (amt13 (amt13 0 (dotAhead b)).1 (dotBehind b)).2 = true
          · by_cases hl2 : (dotAhead b).length + (dotBehind b).length ≤ 13
            · rw [if_pos ⟨hok2, by omega⟩]
              by_cases h14 : 1 ≤ (dotBehind b).length ∧ (dotBehind b).length ≤ 4
              · rw [readB_made hst (by simp [countZ]; omega) (by rw [ha]; exact hok2), ha]
                unfold endR
                simp only []
                rw [if_neg (by rintro (e | ⟨_, e⟩) <;> omega), show (max (0 + ((dotBehind b).length : Int)) 0).toNat = (dotBehind b).length by omega]
              · rw [readB_count hst (by simp [countZ]; omega)]
                unfold endR
                simp only []
                rw [if_pos (by simp; omega)]
            · rw [if_neg (by omega), readB_count hst (by simp [countZ]; omega)]
              rfl
          · have hok2' : (amt13 (amt13 0 (dotAhead b)).1 (dotBehind b)).2 = false := by simpa using hok2
            rw [if_neg (by rw [hok2']; simp)]
            by_cases hc : countZ (dotAhead b).length (dotBehind b).length true = true
            · rw [readB_amt hst hc (by rw [ha]; exact hok2')]
              rfl
            · rw [readB_count hst (by simpa using hc)]
              rfl
        · rw [if_neg (by omega)] at hw
          rw [hw, readB_count hst (by simp [countZ]; omega)]
          rfl
      · have hok' : (amt13 0 (dotAhead b)).2 = false := by simpa using hok
        rw [if_neg (by rw [hok']; simp)] at hw ha
        rw [hw]
        by_cases hc : countZ (dotAhead b).length (dotBehind b).length true = true
        · rw [readB_amt hst hc (by rw [ha])]
          rfl
        · rw [readB_count hst (by simpa using hc)]
          rfl
    · have hw := walk_digits true b 0 (-1) 0 (by omega) (.inr (.inr hd))
      rw [hw, readB_dot (by rw [hd]; rfl)]
      split
      · unfold endR
        simp only []
        rw [if_pos (.inr ⟨by simp, .inl (by rw [if_neg (by omega)]; omega)⟩)]
      · rfl

end Go.Proofs.YtdnfaoanaehjhaaGreatDoor.Nm
