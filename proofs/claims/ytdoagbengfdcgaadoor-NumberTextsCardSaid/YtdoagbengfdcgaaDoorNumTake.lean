/- The pieces of a number's text: the sign, the full stop, how many digits there are and how much they are, as package number takes them, for every text. -/
import Derived.Test.YtdoagbengfdcgaaDoorNumMade
import Derived.Test.YtdoagbengfdcgaaDoorNumReadPlain
import Derived.Test.YtdoagbengfdcgaaDoorShelf
import Derived.Lib.OthersKept
namespace Go.Proofs.YtdoagbengfdcgaaDoor
open Go.RowKit

theorem ret_sb {a b : ByteArray} {m n : Int} (h : a = b) (g : m = n) : Ending.returned (.tuple #[.string a, .int .i64 m]) = .returned (.tuple #[.string b, .int .i64 n]) := by rw [h, g]

set_option maxHeartbeats 400000 in
theorem liteCut_calls (s : ByteArray) (w : World) (_hs : s.size ≤ maxLen) :
    Calls Tryd.prog 45 #[.string s, .string ⟨#[46]⟩] w fun e w' => e = .returned (.tuple #[.string (bs (dotAhead s.data.toList)), .string (bs (dotBehind s.data.toList)), .bool (hasDot s.data.toList)]) ∧ ∃ n, w' = w.drewN n := by
  unfold maxLen at _hs
  have HI : Hid (∀ W, Calls Tryd.prog 59 #[.string s, .string ⟨#[46]⟩] W fun e w' => e = .returned (.int .i64 (Lib.indexByte s.data.toList 46)) ∧ w' = W) := Lib.hid fun W => Tryd.stringslite_Index_one s 46 W
  rcases dot_cases s.data.toList with ⟨h, h1, h2, h3, h4⟩ | ⟨h, h1, h2, h3⟩
  · rw [h1] at HI
    rw [h, ← h3, ← h4]
    rw [← Lib.size_eq] at h2
    generalize (dotAhead s.data.toList).length = i at HI h2 ⊢
    have c1 : (0 : Int) ≤ (i : Int) := by omega
    have c2 : (i : Int) ≤ (s.size : Int) := by omega
    have c3 : (0 : Int) ≤ (i : Int) + 1 := by omega
    have c4 : (i : Int) + 1 ≤ (s.size : Int) := by omega
    have e1 : s.extract 0 i = bs (List.take i s.data.toList) := by rw [piece_bs]; rfl
    have e2 : s.extract (i + 1) s.size = bs (List.drop (i + 1) s.data.toList) := drop_bs s (i + 1)
    have E1 := Lib.hid e1
    have E2 := Lib.hid e2
    clear h h1 h3 h4 e1 e2
    go_enter Tryd.func45, Tryd.ntmps45
    go_wp2_with (go_at_call 59; refine (HI.out _).mono ?_; rintro e w' ⟨rfl, rfl⟩)
    go_region
    go_wp2
    go_ret3
    exact ⟨by rw [← E1.out, ← E2.out]; rfl, 1, rfl⟩
  · rw [h1] at HI
    have H1 := Lib.hid (show bs (dotAhead s.data.toList) = s by rw [h2]; rfl)
    have H2 := Lib.hid (show bs (dotBehind s.data.toList) = ⟨#[]⟩ by rw [h3]; rfl)
    have H3 := Lib.hid h
    clear h h1 h2 h3
    go_enter Tryd.func45, Tryd.ntmps45
    go_wp2_with (go_at_call 59; refine (HI.out _).mono ?_; rintro e w' ⟨rfl, rfl⟩)
    go_ret3
    exact ⟨by rw [H1.out, H2.out, H3.out]; rfl, 0, rfl⟩

set_option maxHeartbeats 400000 in
theorem Cut_calls (s : ByteArray) (w : World) (hs : s.size ≤ maxLen) :
    Calls Tryd.prog 31 #[.string s, .string ⟨#[46]⟩] w fun e w' => e = .returned (.tuple #[.string (bs (dotAhead s.data.toList)), .string (bs (dotBehind s.data.toList)), .bool (hasDot s.data.toList)]) ∧ ∃ n, w' = w.drewN n := by
  go_enter Tryd.func31, Tryd.ntmps31
  go_wp2_with (go_at_call 45; refine (liteCut_calls _ _ hs).mono ?_; rintro e w' ⟨rfl, n, rfl⟩)
  go_ret3
  exact ⟨rfl, n, rfl⟩

set_option maxHeartbeats 400000 in
theorem signed_calls (s : ByteArray) (w : World) (_hs : s.size ≤ maxLen) :
    Calls Tryd.prog 30 #[.string s] w fun e w' => e = .returned (.tuple #[.string (bs (unsigned s.data.toList)), .int .i64 (signOf s.data.toList)]) ∧ w' = w := by
  unfold maxLen at _hs
  rcases sign_cases s.data.toList with ⟨h1, h2, h3, h4⟩ | ⟨h1, h1', h2, h3, h4⟩ | ⟨h1, h1', h3, h4⟩
  · rw [← Lib.size_eq] at h2
    have H1 := Lib.hid h1
    have H3 := Lib.hid h3
    have H4 := Lib.hid h4
    clear h1 h3 h4
    go_enter Tryd.func30, Tryd.ntmps30
    go_wp2_with (go_at_call 44; refine (Tryd.strings_HasPrefix _ _ _).mono ?_; rintro e w' ⟨rfl, rfl⟩; rw [show (ByteArray.mk #[45]).data.toList = [45] from rfl, H1.out])
    go_ret2
    exact ⟨ret_sb (by rw [H3.out]; exact drop_bs s 1) H4.out.symm, rfl⟩
  · rw [← Lib.size_eq] at h2
    have H1 := Lib.hid h1
    have H1' := Lib.hid h1'
    have H3 := Lib.hid h3
    have H4 := Lib.hid h4
    clear h1 h1' h3 h4
    go_enter Tryd.func30, Tryd.ntmps30
    go_wp2_with (go_at_call 44; refine (Tryd.strings_HasPrefix _ _ _).mono ?_; rintro e w' ⟨rfl, rfl⟩; first | rw [show (ByteArray.mk #[45]).data.toList = [45] from rfl, H1.out] | rw [show (ByteArray.mk #[43]).data.toList = [43] from rfl, H1'.out])
    go_ret2
    exact ⟨ret_sb (by rw [H3.out]; exact drop_bs s 1) H4.out.symm, rfl⟩
  · have H1 := Lib.hid h1
    have H1' := Lib.hid h1'
    have H3 := Lib.hid h3
    have H4 := Lib.hid h4
    clear h1 h1' h3 h4
    go_enter Tryd.func30, Tryd.ntmps30
    go_wp2_with (go_at_call 44; refine (Tryd.strings_HasPrefix _ _ _).mono ?_; rintro e w' ⟨rfl, rfl⟩; first | rw [show (ByteArray.mk #[45]).data.toList = [45] from rfl, H1.out] | rw [show (ByteArray.mk #[43]).data.toList = [43] from rfl, H1'.out])
    go_ret2
    exact ⟨ret_sb (by rw [H3.out]; rfl) H4.out.symm, rfl⟩

set_option maxHeartbeats 400000 in
theorem counted_calls (a h : ByteArray) (dec : Bool) (w : World) (_ha : a.size + h.size ≤ maxLen) :
    Calls Tryd.prog 32 #[.string a, .string h, .bool dec] w fun e w' => e = .returned (.bool (countZ a.size h.size dec)) ∧ w' = w := by
  unfold maxLen at _ha
  by_cases h1 : (a.size : Int) + h.size ≤ 13
  · cases dec
    · by_cases h2 : 1 ≤ (a.size : Int)
      · go_enter Tryd.func32, Tryd.ntmps32
        go_wp2
        go_ret
        exact ⟨ret_bool (by rw [Bool.eq_iff_iff]; simp [countZ] <;> omega), rfl⟩
      · go_enter Tryd.func32, Tryd.ntmps32
        go_wp2
        go_ret
        exact ⟨ret_bool (by rw [Bool.eq_iff_iff]; simp [countZ] <;> omega), rfl⟩
    · obtain ⟨h2, h3⟩ | h2 | h3 : (1 ≤ (h.size : Int) ∧ (h.size : Int) ≤ 4) ∨ ¬ 1 ≤ (h.size : Int) ∨ ¬ (h.size : Int) ≤ 4 := by omega
      all_goals
        go_enter Tryd.func32, Tryd.ntmps32
        go_wp2
        go_ret
        exact ⟨ret_bool (by rw [Bool.eq_iff_iff]; simp [countZ] <;> omega), rfl⟩
  · have k1 : (13 : Int) < (a.size : Int) + h.size := by omega
    cases dec
    all_goals
      go_enter Tryd.func32, Tryd.ntmps32
      go_wp2
      go_ret
      exact ⟨ret_bool (by rw [Bool.eq_iff_iff]; simp [countZ] <;> omega), rfl⟩

theorem width_pos (s : ByteArray) (pos : Nat) (h : pos < s.size) : 1 ≤ (Utf8.decode s pos).2 := by
  by_cases ha : (s[pos]'h).toNat < 128
  · rw [decode_ascii s pos h ha]
    exact Nat.le_refl _
  · exact (decode_high s pos h (by omega)).2
/- one rune: below 128 it is its byte; else no digit -/
theorem rune_of (s : ByteArray) (k : Nat) (h : k < s.size) :
    (((Utf8.decode s k).1 : Int) = ((s.data.toList[k]'(by simpa using h)).toNat : Int) ∧ (Utf8.decode s k).2 = 1) ∨ (128 ≤ ((Utf8.decode s k).1 : Int) ∧ 128 ≤ ((s.data.toList[k]'(by simpa using h)).toNat : Int)) := by
  have e : (s.data.toList[k]'(by simpa using h)) = s[k]'h := by simp; rfl
  rw [e]
  by_cases ha : (s[k]'h).toNat < 128
  · left; rw [decode_ascii s k h ha]; exact ⟨rfl, rfl⟩
  · right; have := (decode_high s k h (by omega)).1; omega
theorem iter_below (w : World) (s : ByteArray) (p : Nat) : Below w.heap.size w (w.iter s p) := (Below.refl _ _).alloc (Nat.le_refl _) _

def AmtRet (p : Int × Bool) : Value := .tuple #[.int .i64 p.1, .bool p.2]
theorem amt_yes (a : Int) (l : List UInt8) (k : Nat) (h : k < l.length) (h1 : 48 ≤ (l[k].toNat : Int)) (h2 : (l[k].toNat : Int) ≤ 57) : amt13 a (l.drop k) = amt13 (a * 10 + ((l[k].toNat : Int) - 48)) (l.drop (k + 1)) := by
  rw [List.drop_eq_getElem_cons h, amt13, if_pos (by simp [digitB]; omega)]
theorem amt_no (a : Int) (l : List UInt8) (k : Nat) (h : k < l.length) (h1 : (l[k].toNat : Int) < 48 ∨ 57 < (l[k].toNat : Int)) : amt13 a (l.drop k) = (0, false) := by
  rw [List.drop_eq_getElem_cons h, amt13, if_neg (by simp [digitB]; omega)]
theorem amt_end (a : Int) (l : List UInt8) (k : Nat) (h : l.length ≤ k) : amt13 a (l.drop k) = (a, true) := by
  rw [List.drop_eq_nil_of_le h]; rfl
theorem ten_13 (k : Nat) (h : k ≤ 13) : ten k ≤ 10000000000000 := by
  have : ∀ k : Fin 14, ten k.val ≤ 10000000000000 := by decide
  exact this ⟨k, by omega⟩

set_option maxHeartbeats 1000000 in
theorem amount_calls (s : ByteArray) (w : World) (hs : s.size ≤ 13) :
    Calls Tryd.prog 33 #[.string s] w fun e w' => e = .returned (AmtRet (amt13 0 s.data.toList)) ∧ Below w.heap.size w w' := by
  go_enter Tryd.func33, Tryd.ntmps33
  go_wp2
  go_loopw [4] (fun a w' => ∃ (k : Nat) (x : Int), w' = w.iter s k ∧ k ≤ s.size ∧ a = .int .i64 x ∧ 0 ≤ x ∧ x < 10000000000000 ∧ Hid (x < ten k) ∧ Hid (amt13 0 s.data.toList = amt13 x (s.data.toList.drop k))) (fun _ w' => s.size - w'.iterPos w.heap.size)
  case atStart => exact ⟨0, 0, rfl, Nat.zero_le _, rfl, by omega, by omega, Lib.hid (by decide), Lib.hid rfl⟩
  case round =>
    obtain ⟨k, x, rfl, hk, rfl, hx0, hx1, HT, HL⟩ := hrel
    by_cases hp : k < s.size
    · have hnx : ∀ ty, (Instr.next (.pointer (some ⟨w.heap.size, 0, none⟩)) true ty).run Tryd.prog (w.iter s k) = _ := fun ty => run_next_any w s k ty hp
      have hr := rune_of s k hp
      have hl : k < s.data.toList.length := by simpa using hp
      have hd : 1 ≤ (Utf8.decode s k).2 := width_pos s k hp
      have ay := amt_yes x s.data.toList k hl
      have an := amt_no x s.data.toList k hl
      generalize ((Utf8.decode s k).1 : Int) = r at hr hnx
      generalize (Utf8.decode s k).2 = d at hr hd hnx
      generalize ((s.data.toList[k]'hl).toNat : Int) = b at hr ay an
      by_cases hz : 48 ≤ r ∧ r ≤ 57
      · obtain ⟨z1, z2⟩ := hz
        obtain ⟨rfl, rfl⟩ : r = b ∧ d = 1 := hr.resolve_right fun h => by omega
        have H0 := Lib.hid (ay z1 z2)
        have ht : x < ten k := HT.out
        have h13 := ten_13 (k + 1) (by omega)
        have e : ten (k + 1) = 10 * ten k := rfl
        have hb1 : x * 10 + (r - 48) < 10000000000000 := by omega
        have HT' : Hid (x * 10 + (r - 48) < ten (k + 1)) := Lib.hid (by omega)
        clear ay an hr ht h13 e HT
        go_wp2
        go_roundw
        case rel => exact ⟨k + 1, x * 10 + (r - 48), rfl, by omega, rfl, by omega, by omega, HT', Lib.hid (by rw [HL.out, H0.out])⟩
        case measure => simp; omega
      · have H0 := Lib.hid (an (by rcases hr with h | h <;> omega))
        have hcase : r < 48 ∨ (¬ r < 48 ∧ 57 < r) := by omega
        clear ay an hr hz
        rcases hcase with c | ⟨c1, c2⟩
        all_goals
          go_wp2
          go_ret2
          exact ⟨by rw [HL.out, H0.out]; rfl, iter_below _ _ _⟩
    · have hnx : ∀ ty, (Instr.next (.pointer (some ⟨w.heap.size, 0, none⟩)) true ty).run Tryd.prog (w.iter s k) = _ := fun ty => run_next_end w s k ty hp
      have H0 := Lib.hid (amt_end x s.data.toList k (by simpa using (by omega : s.size ≤ k)))
      go_wp2
      go_ret2
      exact ⟨by rw [HL.out, H0.out]; rfl, iter_below _ _ _⟩

end Go.Proofs.YtdoagbengfdcgaaDoor
