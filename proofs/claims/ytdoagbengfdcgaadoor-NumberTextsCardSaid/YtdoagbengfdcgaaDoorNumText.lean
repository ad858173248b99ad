/- A number's text: what package number's Text comes to, for every number. -/
import Derived.Test.YtdoagbengfdcgaaDoorNumRead
import Derived.Test.YtdoagbengfdcgaaDoorNumDigits
namespace Go.Proofs.YtdoagbengfdcgaaDoor
open Go.RowKit

theorem grow_below (w : World) (k : Nat) (os : Array Obj) : Below w.heap.size w (Sort.grow (w.drewN k) os) :=
  ⟨rfl, rfl, rfl, by show w.heap.size ≤ (w.heap ++ os).size; simp, fun i hi => by show (w.heap ++ os)[i]? = w.heap[i]?; exact Array.getElem?_append_left hi⟩

theorem Format_calls (u : Nat) (w : World) (hg : Good w) (hu : u ≤ 999999999) :
    Calls Tryd.prog 27 #[.int .i64 u, .int .i64 10] w fun e w' => e = .returned (.string (bs (Lib.decDigits u))) ∧ Below w.heap.size w w' :=
  (Tryd.strconv_FormatInt_10 (u : Int) (by omega) (by omega) w hg.dec).mono fun e w' ⟨he, k, os, hw⟩ => ⟨by rw [he, Lib.itoa_nonneg]; rfl, by rw [hw]; exact grow_below w k os⟩

theorem Repeat_calls (c : Nat) (w : World) (hc : c ≤ 4) :
    Calls Tryd.prog 43 #[.string ⟨#[48]⟩, .int .i64 c] w fun e w' => e = .returned (.string (bs (List.replicate c 48))) ∧ Below w.heap.size w w' :=
  (Tryd.strings_Repeat ⟨#[48]⟩ c w (by omega) (by show 1 * c ≤ _; omega)).mono fun e w' ⟨he, hw⟩ => ⟨by rw [he, show (ByteArray.mk #[48]).data.toList = [48] from rfl, rep_rep]; rfl, hw⟩

theorem dec_size (u : Nat) : (bs (Lib.decDigits u)).size = Lib.nDigits u := by rw [bs_size, Lib.decDigits_length]

set_option maxHeartbeats 1000000 in
theorem decimalText_calls (u s : Nat) (w : World) (hg : Good w) (hu : u ≤ 999999999) (hs : s ≤ 4) :
    Calls Tryd.prog 28 #[.int .i64 u, .int .i64 s] w fun e w' => e = .returned (.string (bs (decimalL u s))) ∧ Below w.heap.size w w' := by
  have hp := ten_pos s
  have hq0 : u / 10 ^ s ≤ 999999999 := Nat.le_trans (Nat.div_le_self _ _) hu
  have hr0 : u % 10 ^ s ≤ 999999999 := Nat.le_trans (Nat.mod_le _ _) hu
  have HC : Hid (∀ W, Good W → W.cell? ⟨0, s, none⟩ = some (.int .i64 (ten s))) := Lib.hid fun W hW => by rw [← pow_ten _ (by omega)]; exact hW.cell s (by omega)
  have HQ : Hid (∀ W, Good W → Calls Tryd.prog 27 #[.int .i64 ((u : Int) / ten s), .int .i64 10] W fun e w' => e = .returned (.string (bs (Lib.decDigits (u / 10 ^ s)))) ∧ Below W.heap.size W w') := Lib.hid fun W hW => by
    have := Format_calls (u / 10 ^ s) W hW hq0
    rw [show ((u / 10 ^ s : Nat) : Int) = (u : Int) / ten s by rw [ten_pow]; rfl] at this
    exact this
  have HM : Hid (∀ W, Good W → Calls Tryd.prog 27 #[.int .i64 ((u : Int) % ten s), .int .i64 10] W fun e w' => e = .returned (.string (bs (Lib.decDigits (u % 10 ^ s)))) ∧ Below W.heap.size W w') := Lib.hid fun W hW => by
    have := Format_calls (u % 10 ^ s) W hW hr0
    rw [show ((u % 10 ^ s : Nat) : Int) = (u : Int) % ten s by rw [ten_pow]; rfl] at this
    exact this
  have HE : Hid (bs (decimalL u s) = bs (Lib.decDigits (u / 10 ^ s)) ++ ⟨#[46]⟩ ++ bs (List.replicate (s - (bs (Lib.decDigits (u % 10 ^ s))).size) 48) ++ bs (Lib.decDigits (u % 10 ^ s))) := Lib.hid (by
    rw [dec_size, show (⟨#[46]⟩ : ByteArray) = bs [46] from rfl, bs_app, bs_app, bs_app, List.append_assoc, List.append_assoc, behind_low]; rfl)
  have hsz : (bs (Lib.decDigits (u % 10 ^ s))).size ≤ 9 := by
    rw [dec_size]
    exact nDigits_le 9 _ (by omega) (by omega)
  have hqb : 0 ≤ (u : Int) / ten s ∧ (u : Int) / ten s ≤ 999999999 := by
    rw [ten_pow]
    have : ((u : Int) / ((10 ^ s : Nat) : Int)) = ((u / 10 ^ s : Nat) : Int) := rfl
    rw [this]; exact ⟨Int.natCast_nonneg _, Int.ofNat_le.2 hq0⟩
  have hszq : (bs (Lib.decDigits (u / 10 ^ s))).size ≤ 9 := by
    rw [dec_size]
    exact nDigits_le 9 _ (by omega) (by omega)
  have hszr : (bs (List.replicate (s - (bs (Lib.decDigits (u % 10 ^ s))).size) 48)).size ≤ 4 := by rw [bs_size, List.length_replicate]; omega
  have hrep := Repeat_calls (s - (bs (Lib.decDigits (u % 10 ^ s))).size)
  have hg' := hg
  have HG := Lib.hid hg
  clear hg
  generalize ten s = T at HC HQ HM hp hqb
  generalize bs (Lib.decDigits (u / 10 ^ s)) = sq at HQ HE hszq
  generalize bs (Lib.decDigits (u % 10 ^ s)) = sr at HM HE hsz hszr hrep
  generalize bs (decimalL u s) = R at HE ⊢
  generalize bs (List.replicate (s - sr.size) 48) = sz at HE hszr hrep
  have HP := Lib.hid hrep
  clear hrep
  clear hq0 hr0
  have hc := HC.out w hg'
  have hu' : (u : Int) ≤ 999999999 := by omega
  clear hg' hu
  have HRep : Hid (∀ W, Calls Tryd.prog 43 #[.string ⟨#[48]⟩, .int .i64 (max 0 ((s : Int) - (sr.size : Int)))] W fun e w' => e = .returned (.string sz) ∧ Below W.heap.size W w') := Lib.hid fun W => by
    have := HP.out W (by omega)
    rw [show ((s - sr.size : Nat) : Int) = max 0 ((s : Int) - (sr.size : Int)) by omega] at this
    exact this
  go_enter Tryd.func28, Tryd.ntmps28
  go_wp2_with fail
  refine (HQ.out _ HG.out).mono ?_
  rintro e w1 ⟨rfl, hb1⟩
  have hG1 := HG.out.on hb1
  have hc1 := HC.out w1 hG1
  go_wp2_with fail
  refine (HM.out _ hG1).mono ?_
  rintro e w2 ⟨rfl, hb2'⟩
  have hb2 := bnext hb1 hb2'
  go_wp2_with fail
  refine (HRep.out _).mono ?_
  rintro e w3 ⟨rfl, hb3'⟩
  go_wp2
  go_ret
  exact ⟨by rw [HE.out]; rfl, bnext hb2 hb3'⟩

def textRet (v : Int) (s : Nat) (d : Bool) : Value := .tuple #[.string (bs (textL v s d)), .int .i64 0]

theorem decimal_size (u s : Nat) (hu : u ≤ 999999999) (hs : s ≤ 4) : (bs (decimalL u s)).size ≤ 14 := by
  have h1 : Lib.nDigits (u / 10 ^ s) ≤ 9 := nDigits_le 9 _ (by omega) (by have := Nat.div_le_self u (10 ^ s); omega)
  rw [bs_size]
  unfold decimalL
  rw [List.length_append, List.length_cons, Lib.decDigits_length]
  split
  · simp; omega
  · rw [lowD_length]; omega
theorem dec_size9 (u : Nat) (hu : u ≤ 999999999) : (bs (Lib.decDigits u)).size ≤ 9 := by
  rw [dec_size]; exact nDigits_le 9 _ (by omega) (by omega)

set_option maxHeartbeats 1000000 in
theorem Text_wrong (v s : Int) (d : Bool) (w : World) (h : rightZ v s d = false) :
    Calls Tryd.prog 9 #[.agg #[.int .i64 v, .int .i64 s, .bool d]] w fun e w' => e = .returned (.tuple #[.string ⟨#[]⟩, .int .i64 2]) ∧ Below w.heap.size w w' := by
  have HR := Lib.hid h
  clear h
  go_enter Tryd.func9, Tryd.ntmps9
  go_wp2_with (go_at_call 26; refine (right_calls _ _ _ _).mono ?_; rintro e w' ⟨rfl, hb⟩; rw [HR.out])
  go_ret2
  exact ⟨rfl, one_box (by assumption)⟩

set_option maxHeartbeats 2000000 in
theorem Text_right (v : Int) (s : Nat) (d : Bool) (w : World) (hg : Good w) (hr : rightZ v s d = true) (hs : s ≤ 4) (h1 : -999999999 ≤ v) (h2 : v ≤ 999999999) :
    Calls Tryd.prog 9 #[.agg #[.int .i64 v, .int .i64 s, .bool d]] w fun e w' => e = .returned (textRet v s d) ∧ Below w.heap.size w w' := by
  have HR := Lib.hid hr
  have HG := Lib.hid hg
  clear hr hg
  obtain ⟨u, hu⟩ : ∃ u, v.natAbs = u := ⟨_, rfl⟩
  have hu9 : u ≤ 999999999 := by omega
  have HF : Hid (∀ W, Good W → Calls Tryd.prog 27 #[.int .i64 u, .int .i64 10] W fun e w' => e = .returned (.string (bs (Lib.decDigits u))) ∧ Below W.heap.size W w') := Lib.hid fun W hW => Format_calls u W hW hu9
  have HD : Hid (∀ W, Good W → Calls Tryd.prog 28 #[.int .i64 u, .int .i64 s] W fun e w' => e = .returned (.string (bs (decimalL u s))) ∧ Below W.heap.size W w') := Lib.hid fun W hW => decimalText_calls u s W hW hu9 hs
  have hz1 := dec_size9 u hu9
  have hz2 := decimal_size u s hu9 hs
  have HE : Hid (bs (textL v s d) = bs (if v < 0 then [45] else []) ++ bs (if d then decimalL u s else Lib.decDigits u)) := Lib.hid (by rw [bs_app]; unfold textL; rw [hu])
  have hval : v = (u : Int) ∧ ¬ v < 0 ∨ v = -(u : Int) ∧ v < 0 := by omega
  unfold textRet
  generalize bs (textL v s d) = R at HE ⊢
  cases d with
  | false =>
    simp only [Bool.false_eq_true, if_false] at HE
    generalize bs (Lib.decDigits u) = x at HF HE hz1
    clear HD hz2 hu
    rcases hval with ⟨rfl, hn⟩ | ⟨rfl, hn⟩
    · rw [if_neg hn] at HE
      go_enter Tryd.func9, Tryd.ntmps9
      go_wp2_with fail
      refine (right_calls _ _ _ _).mono ?_
      rintro e w1 ⟨rfl, hb1⟩
      rw [HR.out]
      obtain ⟨hc, hf⟩ := bcell hb1
      go_wp2
      go_quiet (fail)
      go_wp2_with fail
      refine (HF.out _ ?_).mono ?_
      · exact ((HG.out.alloc _).on hb1).drewN _
      rintro e w2 ⟨rfl, hb2⟩
      go_wp2
      go_ret2
      exact ⟨by rw [HE.out]; rfl, (one_box (below_drewN hb1 _)).trans (hb2.mono (by have := hb1.size; simp at this ⊢; omega))⟩
    · rw [if_pos hn] at HE
      go_enter Tryd.func9, Tryd.ntmps9
      go_wp2_with fail
      refine (right_calls _ _ _ _).mono ?_
      rintro e w1 ⟨rfl, hb1⟩
      rw [HR.out]
      obtain ⟨hc, hf⟩ := bcell hb1
      go_wp2
      go_quiet (fail)
      go_wp2_with fail
      refine (HF.out _ ?_).mono ?_
      · exact ((HG.out.alloc _).on hb1).drewN _
      rintro e w2 ⟨rfl, hb2⟩
      go_wp2
      go_ret2
      exact ⟨by rw [HE.out]; rfl, (one_box (below_drewN hb1 _)).trans (hb2.mono (by have := hb1.size; simp at this ⊢; omega))⟩
  | true =>
    simp only [if_true] at HE
    generalize bs (decimalL u s) = x at HD HE hz2
    clear HF hz1 hu
    rcases hval with ⟨rfl, hn⟩ | ⟨rfl, hn⟩
    · rw [if_neg hn] at HE
      go_enter Tryd.func9, Tryd.ntmps9
      go_wp2_with fail
      refine (right_calls _ _ _ _).mono ?_
      rintro e w1 ⟨rfl, hb1⟩
      rw [HR.out]
      obtain ⟨hc, hf⟩ := bcell hb1
      go_wp2
      go_quiet (fail)
      go_wp2_with fail
      refine (HD.out _ ?_).mono ?_
      · exact ((HG.out.alloc _).on hb1).drewN _
      rintro e w2 ⟨rfl, hb2⟩
      go_wp2
      go_ret2
      exact ⟨by rw [HE.out]; rfl, (one_box (below_drewN hb1 _)).trans (hb2.mono (by have := hb1.size; simp at this ⊢; omega))⟩
    · rw [if_pos hn] at HE
      go_enter Tryd.func9, Tryd.ntmps9
      go_wp2_with fail
      refine (right_calls _ _ _ _).mono ?_
      rintro e w1 ⟨rfl, hb1⟩
      rw [HR.out]
      obtain ⟨hc, hf⟩ := bcell hb1
      go_wp2
      go_quiet (fail)
      go_wp2_with fail
      refine (HD.out _ ?_).mono ?_
      · exact ((HG.out.alloc _).on hb1).drewN _
      rintro e w2 ⟨rfl, hb2⟩
      go_wp2
      go_ret2
      exact ⟨by rw [HE.out]; rfl, (one_box (below_drewN hb1 _)).trans (hb2.mono (by have := hb1.size; simp at this ⊢; omega))⟩

end Go.Proofs.YtdoagbengfdcgaaDoor
