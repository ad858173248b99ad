/- The number of a text: what package number's Read comes to, for every text. -/
import Derived.Test.YtdoagbengfdcgaaDoorNumTake
namespace Go.Proofs.YtdoagbengfdcgaaDoor
open Go.RowKit

def readRet (p : NumL × Bool) : Value := .tuple #[p.1.val, .int .i64 (errZ p.2)]
theorem dots_le (l : List UInt8) : (dotAhead l).length + (dotBehind l).length ≤ l.length := by
  induction l with
  | nil => simp [dotAhead, dotBehind]
  | cons c r ih =>
    unfold dotAhead dotBehind
    split
    · simp
    · simp; omega
theorem unsigned_le (l : List UInt8) : (unsigned l).length ≤ l.length := by
  unfold unsigned
  split
  · simp
  · split
    · simp
    · split <;> simp
theorem sign_one (l : List UInt8) : signOf l = 1 ∨ signOf l = -1 := by
  unfold signOf
  split
  · simp
  · split <;> simp
theorem count_le {a h : Int} {dec : Bool} (c : countZ a h dec = true) : a + h ≤ 13 := by
  unfold countZ at c
  simp at c
  exact c.1
/- Read, once its pieces are told -/
theorem readB_dot {b : List UInt8} {sg : Int} {dec : Bool} (h : (hasDot b != dec) = true) : readB b sg dec = (noNum, false) := by unfold readB; rw [if_pos h]
theorem readB_count {b : List UInt8} {sg : Int} {dec : Bool} (h : (hasDot b != dec) = false) (h1 : countZ (dotAhead b).length (dotBehind b).length dec = false) : readB b sg dec = (noNum, false) := by
  unfold readB; rw [if_neg (by rw [h]; simp), if_pos h1]
theorem readB_amt {b : List UInt8} {sg : Int} {dec : Bool} (h : (hasDot b != dec) = false) (h1 : countZ (dotAhead b).length (dotBehind b).length dec = true) (h2 : (amt13 0 (dotAhead b ++ dotBehind b)).2 = false) : readB b sg dec = (noNum, false) := by
  unfold readB; rw [if_neg (by rw [h]; simp), if_neg (by rw [h1]; simp), if_pos h2]
theorem readB_made {b : List UInt8} {sg : Int} {dec : Bool} (h : (hasDot b != dec) = false) (h1 : countZ (dotAhead b).length (dotBehind b).length dec = true) (h2 : (amt13 0 (dotAhead b ++ dotBehind b)).2 = true) : readB b sg dec = madeL (sg * (amt13 0 (dotAhead b ++ dotBehind b)).1) (dotBehind b).length dec := by
  unfold readB; rw [if_neg (by rw [h]; simp), if_neg (by rw [h1]; simp), if_neg (by rw [h2]; simp)]

theorem behind_13 {b : List UInt8} {dec : Bool} (h1 : countZ (dotAhead b).length (dotBehind b).length dec = true) : (dotBehind b).length ≤ 13 ∧ (dotAhead b).length + (dotBehind b).length ≤ 13 := by
  have := count_le h1; omega
theorem behind_4 {b : List UInt8} {dec : Bool} (h : (hasDot b != dec) = false) (h1 : countZ (dotAhead b).length (dotBehind b).length dec = true) : (dotBehind b).length ≤ 4 := by
  cases dec with
  | true => unfold countZ at h1; simp at h1; omega
  | false =>
    rcases dot_cases b with ⟨k, _⟩ | ⟨_, _, _, k⟩
    · rw [k] at h; simp at h
    · rw [k]; simp

set_option maxHeartbeats 2000000 in
theorem Read_calls (s : ByteArray) (dec : Bool) (w : World) (hg : Good w) (hs : s.size ≤ maxLen) :
    Calls Tryd.prog 16 #[.string s, .bool dec] w fun e w' => e = .returned (readRet (readL s.data.toList dec)) ∧ Below w.heap.size w w' := by
  unfold readL
  have HSg : Hid (∀ W, Calls Tryd.prog 30 #[.string s] W fun e w' => e = .returned (.tuple #[.string (bs (unsigned s.data.toList)), .int .i64 (signOf s.data.toList)]) ∧ w' = W) := Lib.hid fun W => signed_calls s W hs
  have hlen : (unsigned s.data.toList).length ≤ s.size := by rw [Lib.size_eq]; exact unsigned_le _
  have hsg := sign_one s.data.toList
  unfold maxLen at hs
  generalize unsigned s.data.toList = b at HSg hlen ⊢
  generalize signOf s.data.toList = sg at HSg hsg ⊢
  have hdl := dots_le b
  have HCut : Hid (∀ W, Calls Tryd.prog 31 #[.string (bs b), .string ⟨#[46]⟩] W fun e w' => e = .returned (.tuple #[.string (bs (dotAhead b)), .string (bs (dotBehind b)), .bool (hasDot b)]) ∧ ∃ n, w' = W.drewN n) := Lib.hid fun W => Cut_calls (bs b) W (by rw [bs_size]; unfold maxLen; omega)
  have HCnt : Hid (∀ W, Calls Tryd.prog 32 #[.string (bs (dotAhead b)), .string (bs (dotBehind b)), .bool dec] W fun e w' => e = .returned (.bool (countZ (dotAhead b).length (dotBehind b).length dec)) ∧ w' = W) := Lib.hid fun W => counted_calls _ _ dec W (by rw [bs_size, bs_size]; unfold maxLen; omega)
  have HAm : Hid (countZ (dotAhead b).length (dotBehind b).length dec = true → ∀ W, Calls Tryd.prog 33 #[.string (bs (dotAhead b) ++ bs (dotBehind b))] W fun e w' => e = .returned (AmtRet (amt13 0 (dotAhead b ++ dotBehind b))) ∧ Below W.heap.size W w') := Lib.hid fun hc W => by
    rw [bs_app]
    exact amount_calls _ W (by have := count_le hc; rw [bs_size, List.length_append]; omega)
  have HMd : Hid ((hasDot b != dec) = false → countZ (dotAhead b).length (dotBehind b).length dec = true → (amt13 0 (dotAhead b ++ dotBehind b)).2 = true → ∀ W, Good W → Calls Tryd.prog 34 #[.int .i64 (sg * (amt13 0 (dotAhead b ++ dotBehind b)).1), .int .i64 (bs (dotBehind b)).size, .bool dec] W fun e w' => e = .returned (NumL.ret (readB b sg dec)) ∧ Below W.heap.size W w') := Lib.hid fun h1 h2 h3 W hW => by
    rw [readB_made h1 h2 h3, bs_size]
    have hb := amt13_bound (dotAhead b ++ dotBehind b) 0 0 (by omega) (by decide) h3
    have h13 := ten_13 (0 + (dotAhead b ++ dotBehind b).length) (by have := count_le h2; rw [List.length_append]; omega)
    exact made_calls _ _ dec W hW (by have := behind_4 h1 h2; omega) (by rcases hsg with e | e <;> rw [e] <;> omega) (by rcases hsg with e | e <;> rw [e] <;> omega)
  have HV : Hid (countZ (dotAhead b).length (dotBehind b).length dec = true → (amt13 0 (dotAhead b ++ dotBehind b)).2 = true → IntKind.i64.wrap (sg * (amt13 0 (dotAhead b ++ dotBehind b)).1) = sg * (amt13 0 (dotAhead b ++ dotBehind b)).1) := Lib.hid fun h2 h3 => by
    have hb := amt13_bound (dotAhead b ++ dotBehind b) 0 0 (by omega) (by decide) h3
    have h13 := ten_13 (0 + (dotAhead b ++ dotBehind b).length) (by have := count_le h2; rw [List.length_append]; omega)
    exact IntWalk.i64_in _ (by rcases hsg with e | e <;> rw [e] <;> omega)
  have hsz : (bs (dotAhead b)).size + (bs (dotBehind b)).size ≤ 9223372036854775807 := by rw [bs_size, bs_size]; omega
  have HG := Lib.hid hg
  have hR1 := @readB_dot b sg dec
  have hR2 := @readB_count b sg dec
  have hR3 := @readB_amt b sg dec
  clear hg hlen hsg hdl
  have hR4 : (readB b sg dec).2 = false → readB b sg dec = (noNum, false) := by
    intro h
    unfold readB at h ⊢
    split at h
    · rename_i k; rw [if_pos k]
    · rename_i k
      rw [if_neg k]
      split at h
      · rename_i k; rw [if_pos k]
      · rename_i k
        rw [if_neg k]
        split at h
        · rename_i k; rw [if_pos k]
        · rename_i k; rw [if_neg k]; exact madeL_false h
  have HR1 := Lib.hid hR1
  have HR2 := Lib.hid hR2
  have HR3 := Lib.hid hR3
  have HR4 := Lib.hid hR4
  clear hR1 hR2 hR3 hR4
  generalize readB b sg dec = R at HMd HR1 HR2 HR3 HR4 ⊢
  generalize bs (dotAhead b) = sa at HCut HCnt HAm hsz
  generalize bs (dotBehind b) = sh at HCut HCnt HAm HMd hsz
  generalize amt13 0 (dotAhead b ++ dotBehind b) = V at HAm HMd HV HR3
  generalize countZ (dotAhead b).length (dotBehind b).length dec = cnt at HCnt HAm HMd HV HR2 HR3
  generalize hasDot b = stop at HCut HMd HR1 HR2 HR3
  generalize bs b = sb at HSg HCut
  obtain ⟨⟨Rv, Rs, Rd⟩, Rb⟩ := R
  obtain ⟨V, ok⟩ := V
  have hst : (stop != dec) = true ∨ (stop != dec) = false := by cases (stop != dec) <;> simp
  rcases hst with hst | hst
  · have e := HR1.out hst
    simp only [noNum, Prod.mk.injEq, NumL.mk.injEq] at e
    obtain ⟨⟨rfl, rfl, rfl⟩, rfl⟩ := e
    clear HR1 HR2 HR3 HR4 HMd HV HAm HCnt
    cases stop <;> cases dec <;> first | (exfalso; cases hst; done) | skip
    all_goals
      clear hst
      go_enter Tryd.func16, Tryd.ntmps16
      go_wp2_with (first | (go_at_call 30; refine (HSg.out _).mono ?_; rintro e w' ⟨rfl, rfl⟩) | (go_at_call 31; refine (HCut.out _).mono ?_; rintro e w' ⟨rfl, n, rfl⟩))
      refine bodyPost_ret (v := .tuple #[.agg #[.int .i64 0, .int .i64 0, .bool false], .int .i64 2]) (by simp [results, Tryd.results16, go_sem]) rfl ⟨rfl, ?_⟩
      exact (((below_drewN (box_below _ _) _).setCell (Nat.le_refl _) _).setCell (Nat.le_refl _) _).setCell (Nat.le_refl _) _
  · have HM := Lib.hid (HMd.out hst)
    have h3 := HR3.out hst
    have h2 := HR2.out hst
    obtain rfl : stop = dec := by cases stop <;> cases dec <;> first | rfl | cases hst
    clear HR1 HR2 HR3 HMd hst
    cases cnt with
    | false =>
      have e := h2 rfl
      simp only [noNum, Prod.mk.injEq, NumL.mk.injEq] at e
      obtain ⟨⟨rfl, rfl, rfl⟩, rfl⟩ := e
      clear h2 h3 HM HV HAm HR4
      cases stop
      all_goals
        go_enter Tryd.func16, Tryd.ntmps16
        go_wp2_with (first | (go_at_call 30; refine (HSg.out _).mono ?_; rintro e w' ⟨rfl, rfl⟩) | (go_at_call 31; refine (HCut.out _).mono ?_; rintro e w' ⟨rfl, n, rfl⟩) | (go_at_call 32; refine (HCnt.out _).mono ?_; rintro e w' ⟨rfl, hw⟩; obtain rfl := hw.symm; clear hw))
        refine bodyPost_ret (v := .tuple #[.agg #[.int .i64 0, .int .i64 0, .bool false], .int .i64 2]) (by simp [results, Tryd.results16, go_sem]) rfl ⟨rfl, ?_⟩
        exact (((below_drewN (box_below _ _) _).setCell (Nat.le_refl _) _).setCell (Nat.le_refl _) _).setCell (Nat.le_refl _) _
    | true =>
      clear h2
      have HA := Lib.hid (HAm.out rfl)
      clear HAm
      cases ok with
      | false =>
        have e := h3 rfl rfl
        simp only [noNum, Prod.mk.injEq, NumL.mk.injEq] at e
        obtain ⟨⟨rfl, rfl, rfl⟩, rfl⟩ := e
        clear h3 HM HV HR4
        cases stop
        all_goals
          go_enter Tryd.func16, Tryd.ntmps16
          go_wp2_with (first | (go_at_call 30; refine (HSg.out _).mono ?_; rintro e w' ⟨rfl, rfl⟩) | (go_at_call 31; refine (HCut.out _).mono ?_; rintro e w' ⟨rfl, n, rfl⟩) | (go_at_call 32; refine (HCnt.out _).mono ?_; rintro e w' ⟨rfl, hw⟩; obtain rfl := hw.symm; clear hw))
          refine (HA.out _).mono ?_
          rintro e w1 ⟨rfl, hb1⟩
          simp only [AmtRet]
          obtain ⟨hc, hf⟩ := bcell hb1
          have hz : w.heap.size < w1.heap.size := by have := hb1.size; simp at this; omega
          have hB : Below w.heap.size w w1 := (below_drewN (box_below w _) n).trans (hb1.mono (by simp))
          go_wp2
          refine bodyPost_ret (v := .tuple #[.agg #[.int .i64 0, .int .i64 0, .bool false], .int .i64 2]) (by simp [results, Tryd.results16, hc, go_sem]) rfl ⟨rfl, ?_⟩
          exact ((hB.setCell (Nat.le_refl _) _).setCell (Nat.le_refl _) _).setCell (Nat.le_refl _) _
      | true =>
        clear h3
        have HMk := Lib.hid (HM.out rfl rfl)
        have hv := HV.out rfl rfl
        clear HM HV
        cases stop
        all_goals
          go_enter Tryd.func16, Tryd.ntmps16
          go_wp2_with (first | (go_at_call 30; refine (HSg.out _).mono ?_; rintro e w' ⟨rfl, rfl⟩) | (go_at_call 31; refine (HCut.out _).mono ?_; rintro e w' ⟨rfl, n, rfl⟩) | (go_at_call 32; refine (HCnt.out _).mono ?_; rintro e w' ⟨rfl, hw⟩; obtain rfl := hw.symm; clear hw))
          refine (HA.out _).mono ?_
          rintro e w1 ⟨rfl, hb1⟩
          simp only [AmtRet]
          have hG1 : Good w1 := ((HG.out.alloc _).drewN n).on hb1
          obtain ⟨hc, hf⟩ := bcell hb1
          have hz : w.heap.size < w1.heap.size := by have := hb1.size; simp at this; omega
          go_wp2_with fail
          refine (HMk.out _ hG1).mono ?_
          rintro e w2 ⟨rfl, hb2'⟩
          simp only [NumL.ret, NumL.val]
          have hb2 := bnext hb1 hb2'
          have hB : Below w.heap.size w w2 := (below_drewN (box_below w _) n).trans (hb2.mono (by simp))
          clear hc hf hz
          obtain ⟨hc, hf⟩ := bcell hb2
          have hz : w.heap.size < w2.heap.size := by have := hb2.size; simp at this; omega
          cases Rb with
          | true =>
            go_wp2
            refine bodyPost_ret (v := .tuple #[.agg #[.int .i64 Rv, .int .i64 Rs, .bool Rd], .int .i64 0]) (by simp [results, Tryd.results16, hc, hz, go_sem]) rfl ⟨rfl, ?_⟩
            exact (((hB.setCell (Nat.le_refl _) _).setCell (Nat.le_refl _) _).setCell (Nat.le_refl _) _).alloc (by simp; omega) _
          | false =>
            have e := HR4.out rfl
            simp only [noNum, Prod.mk.injEq, NumL.mk.injEq, and_true] at e
            obtain ⟨rfl, rfl, rfl⟩ := e
            go_wp2
            refine bodyPost_ret (v := .tuple #[.agg #[.int .i64 0, .int .i64 0, .bool false], .int .i64 2]) (by simp [results, Tryd.results16, hc, hz, go_sem]) rfl ⟨rfl, ?_⟩
            exact (((hB.setCell (Nat.le_refl _) _).setCell (Nat.le_refl _) _).setCell (Nat.le_refl _) _).alloc (by simp; omega) _

end Go.Proofs.YtdoagbengfdcgaaDoor
