/- How many results an operation needs, and which are right by themselves, by the program. (Written by gen/mkok.py.) -/
import Derived.Test.YtiliobfgmelncaaScopeTable
import Derived.Test.YtiliobfgmelncaaRefScopeRight
namespace Go.Proofs.Ytiliobfgmelncaa
open Go.RowKit

set_option maxRecDepth 100000 in
set_option maxHeartbeats 2000000 in
theorem oNeeds_calls (o : OpL) (A : OpS) (w : World) : Calls Try.prog 15 #[o.v A] w fun e w' => e = .returned (.int .i64 (needO o.k)) ∧ Below w.heap.size w w' := by
  obtain ⟨k, T, V, R, F, m, s⟩ := o
  obtain ⟨ta, tn, tc, va, vn, vc, ra, rn, rc, fa, fn, fc⟩ := A
  simp only [OpL.v]
  rcases op_kinds k with h | h | h | h | h | h | h | h | h | h
  · have HO := Lib.hid (needO_other h)
    have H := Lib.hid (fun j h1 h2 => not_op h j h1 h2)
    have n1 := H.out 1 (by decide) (by decide)
    have n2 := H.out 2 (by decide) (by decide)
    have n3 := H.out 3 (by decide) (by decide)
    have n4 := H.out 4 (by decide) (by decide)
    have n5 := H.out 5 (by decide) (by decide)
    have n6 := H.out 6 (by decide) (by decide)
    have n7 := H.out 7 (by decide) (by decide)
    have n8 := H.out 8 (by decide) (by decide)
    have n9 := H.out 9 (by decide) (by decide)
    clear h
    go_enter Try.func15, Try.ntmps15
    go_wp2
    go_ret
    exact ⟨by rw [HO.out]; rfl, box_below _ _⟩
  all_goals
    subst h
    go_enter Try.func15, Try.ntmps15
    go_wp2
    go_ret
    exact ⟨by rfl, box_below _ _⟩

theorem isFormula_calls (F : List PartL) (hok : ∀ p ∈ F, p.ok) (a : Option Addr) (n c : Nat) (w : World) (hv : ArgP w a n c F) :
    Calls Try.prog 23 #[.slice a n c] w fun e w' => e = .returned (.bool (decide (chkE F = 0))) ∧ Below w.heap.size w w' := by
  have HC := Lib.hid (fCheck_calls F hok a n c w hv)
  clear hv hok
  obtain ⟨E, hE⟩ : ∃ E, chkE F = E := ⟨_, rfl⟩
  rw [hE] at HC ⊢
  clear hE
  have HZ := Lib.hid (show decide (E = 0) = (E == 0) by rw [Bool.eq_iff_iff]; simp)
  go_enter Try.func23, Try.ntmps23
  go_wp2_with fail
  refine HC.out.mono ?_
  rintro e w1 ⟨rfl, hb1⟩
  have HB := Lib.hid hb1
  clear hb1
  go_wp2
  go_ret
  exact ⟨by rw [HZ.out]; rfl, HB.out⟩

def emptyZ (tn vn rn fn : Nat) (m : List UInt8) (s : Bool) : Bool := decide (tn = 0) && (decide (vn = 0) && decide (rn = 0)) && decide (fn = 0) && m.isEmpty && !s
theorem zero_int (n : Nat) : ((n : Int) == 0) = decide (n = 0) := by rw [Bool.eq_iff_iff]; simp
theorem wrap_sum {a b : Nat} (ha : a ≤ maxLen) (hb : b ≤ maxLen) : (IntKind.i64.wrap ((a : Int) + (b : Int)) == 0) = (decide (a = 0) && decide (b = 0)) := by
  unfold maxLen at ha hb
  by_cases h : a = 0 ∧ b = 0
  · obtain ⟨rfl, rfl⟩ := h; decide
  · have h1 : (decide (a = 0) && decide (b = 0)) = false := by
      rw [Bool.and_eq_false_iff, decide_eq_false_iff_not, decide_eq_false_iff_not]
      by_cases c : a = 0
      · exact .inr (fun d => h ⟨c, d⟩)
      · exact .inl c
    rw [h1]
    refine beq_eq_false_iff_ne.2 ?_
    by_cases hs : a + b < 2 ^ 63
    · rw [IntWalk.i64_in _ (by omega)]; omega
    · have : IntKind.i64.wrap ((a : Int) + (b : Int)) = (a : Int) + b - 2 ^ 64 := by
        simp only [IntKind.wrap, IntKind.signed, IntKind.bits]
        simp
        omega
      rw [this]; omega

set_option maxRecDepth 100000 in
set_option maxHeartbeats 4000000 in
theorem isEmpty_calls (k : Int) (ta va ra fa : Option Addr) (tn tc vn vc rn rc fn fc : Nat) (m : List UInt8) (s : Bool) (w : World) (hv : vn ≤ maxLen) (hr : rn ≤ maxLen) :
    Calls Try.prog 26 #[.agg #[.int .i64 k, .slice ta tn tc, .slice va vn vc, .slice ra rn rc, .slice fa fn fc, .string (bs m), .bool s]] w fun e w' => e = .returned (.bool (emptyZ tn vn rn fn m s)) ∧ Below w.heap.size w w' := by
  have HE := Lib.hid (show emptyZ tn vn rn fn m s = (decide (tn = 0) && (decide (vn = 0) && decide (rn = 0)) && decide (fn = 0) && m.isEmpty && !s) from rfl)
  have gt := zero_int tn
  have gf := zero_int fn
  have gs := wrap_sum hv hr
  have ge : (bs m).toList.isEmpty = m.isEmpty := by rw [bs_toList]
  clear hv hr
  obtain ⟨S, hS⟩ : ∃ S, IntKind.i64.wrap ((vn : Int) + (rn : Int)) = S := ⟨_, rfl⟩
  rw [hS] at gs
  obtain ⟨nt, hnt⟩ : ∃ b, decide (tn = 0) = b := ⟨_, rfl⟩
  obtain ⟨nb, hnb⟩ : ∃ b, (decide (vn = 0) && decide (rn = 0)) = b := ⟨_, rfl⟩
  obtain ⟨nf, hnf⟩ : ∃ b, decide (fn = 0) = b := ⟨_, rfl⟩
  obtain ⟨em, hem⟩ : ∃ b, m.isEmpty = b := ⟨_, rfl⟩
  rw [hnt, hnb, hnf, hem] at HE
  rw [hnt] at gt
  rw [hnb] at gs
  rw [hnf] at gf
  rw [hem] at ge
  clear hnt hnb hnf hem
  cases nt with
  | false =>
    go_enter Try.func26, Try.ntmps26
    go_wp2
    go_ret
    exact ⟨by rw [HE.out]; rfl, box_below _ _⟩
  | true =>
    cases nb with
    | false =>
      go_enter Try.func26, Try.ntmps26
      go_wp2
      go_ret
      exact ⟨by rw [HE.out]; rfl, box_below _ _⟩
    | true =>
      cases nf with
      | false =>
        go_enter Try.func26, Try.ntmps26
        go_wp2
        go_ret
        exact ⟨by rw [HE.out]; rfl, box_below _ _⟩
      | true =>
        cases em with
        | false =>
          go_enter Try.func26, Try.ntmps26
          go_wp2
          go_ret
          exact ⟨by rw [HE.out]; rfl, box_below _ _⟩
        | true =>
          cases s with
          | false =>
            go_enter Try.func26, Try.ntmps26
            go_wp2
            go_ret
            exact ⟨by rw [HE.out]; rfl, box_below _ _⟩
          | true =>
            go_enter Try.func26, Try.ntmps26
            go_wp2
            go_ret
            exact ⟨by rw [HE.out]; rfl, box_below _ _⟩

theorem rightO_1 (o : OpL) (h : o.k = 1) : rightO o = (patsB o.T && emptyZ 0 o.V.length o.R.length o.F.length o.m o.s) := by
  unfold rightO emptyZ; rw [if_pos h]
  cases o.V <;> cases o.R <;> cases o.F <;> simp [Bool.and_assoc]
theorem rightO_2 (o : OpL) (h : o.k = 2) : rightO o = (tableB o.V o.R && emptyZ o.T.length 0 0 o.F.length o.m o.s) := by
  unfold rightO emptyZ; rw [if_neg (by omega), if_pos h]
  cases o.T <;> cases o.F <;> simp [Bool.and_assoc]
theorem rightO_3 (o : OpL) (h : o.k = 3 ∨ o.k = 4 ∨ o.k = 6) : rightO o = emptyZ o.T.length o.V.length o.R.length o.F.length o.m o.s := by
  unfold rightO emptyZ; rw [if_neg (by omega), if_neg (by omega), if_pos h]
  cases o.T <;> cases o.V <;> cases o.R <;> cases o.F <;> simp
theorem chkE_nil : decide (chkE [] = 0) = false := by decide
theorem formB_eq (F : List PartL) : formB F = decide (chkE F = 0) := by
  unfold formB
  cases F with
  | nil => rw [chkE_nil]; rfl
  | cons a b => simp
theorem rightO_5 (o : OpL) (h : o.k = 5) : rightO o = ((o.F.isEmpty || decide (chkE o.F = 0)) && emptyZ o.T.length o.V.length o.R.length 0 o.m o.s) := by
  unfold rightO emptyZ; rw [if_neg (by omega), if_neg (by omega), if_neg (by omega), if_pos h, formB_eq]
  cases o.T <;> cases o.V <;> cases o.R <;> simp [Bool.and_assoc]
theorem rightO_7 (o : OpL) (h : o.k = 7) : rightO o = (decide (chkE o.F = 0) && emptyZ o.T.length o.V.length o.R.length 0 o.m o.s) := by
  unfold rightO emptyZ; rw [if_neg (by omega), if_neg (by omega), if_neg (by omega), if_neg (by omega), if_pos h, formB_eq]
  cases o.T <;> cases o.V <;> cases o.R <;> simp [Bool.and_assoc]
theorem rightO_8 (o : OpL) (h : o.k = 8) : rightO o = ((decide (chkE o.F = 0) && nameL o.m) && emptyZ o.T.length o.V.length o.R.length 0 [] o.s) := by
  unfold rightO emptyZ; rw [if_neg (by omega), if_neg (by omega), if_neg (by omega), if_neg (by omega), if_neg (by omega), if_pos h, formB_eq]
  cases o.T <;> cases o.V <;> cases o.R <;> simp [Bool.and_assoc]
theorem rightO_9 (o : OpL) (h : o.k = 9) : rightO o = (iriL o.m && emptyZ o.T.length o.V.length o.R.length o.F.length [] false) := by
  unfold rightO emptyZ; rw [if_neg (by omega), if_neg (by omega), if_neg (by omega), if_neg (by omega), if_neg (by omega), if_neg (by omega), if_pos h]
  cases o.T <;> cases o.V <;> cases o.R <;> cases o.F <;> simp
theorem rightO_none (o : OpL) (h : o.k < 1 ∨ 9 < o.k) : rightO o = false := by
  unfold rightO; rw [if_neg (by omega), if_neg (by omega), if_neg (by omega), if_neg (by omega), if_neg (by omega), if_neg (by omega), if_neg (by omega)]

set_option maxRecDepth 100000 in
set_option maxHeartbeats 16000000 in
theorem oRight_calls (o : OpL) (A : OpS) (w : World) (hok : OpOk o) (hin : OpIn w o A) : Calls Try.prog 16 #[o.v A] w fun e w' => e = .returned (.bool (rightO o)) ∧ Below w.heap.size w w' := by
  have HIN := Lib.hid (fun ob => hin.on (box_below w ob))
  have HCK := Lib.hid (fun W h => isFormula_calls o.F hok.f A.fa A.fn A.fc W h)
  have HPT := Lib.hid (fun W h => arePatterns_calls o.T hok.t A.ta A.tn A.tc W h)
  have HTB := Lib.hid (fun W h1 h2 => isTable_calls o.V o.R hok.v hok.r A.va A.ra A.vn A.vc A.rn A.rc W h1 h2)
  have HNM := Lib.hid (fun W => IsName_calls (bs o.m) W hok.m)
  have HIR := Lib.hid (fun W => Check_calls 1 (bs o.m) ⟨#[]⟩ ⟨#[]⟩ W hok.m (by decide) (by decide))
  have HR1 := Lib.hid (rightO_1 o)
  have HR2 := Lib.hid (rightO_2 o)
  have HR3 := Lib.hid (rightO_3 o)
  have HR5 := Lib.hid (rightO_5 o)
  have HR7 := Lib.hid (rightO_7 o)
  have HR8 := Lib.hid (rightO_8 o)
  have HR9 := Lib.hid (rightO_9 o)
  have HRN := Lib.hid (rightO_none o)
  rw [hin.t.len, hin.v.len, hin.r.len, hin.f.len] at *
  have HVM := Lib.hid (show A.vn ≤ maxLen from Nat.le_trans hin.v.cap hin.v.most)
  have HRM := Lib.hid (show A.rn ≤ maxLen from Nat.le_trans hin.r.cap hin.r.most)
  have hF := empty_len hin.f.len
  clear hok hin
  simp only [bs_data] at HNM HIR
  rw [show rightL 1 o.m ([] : List UInt8) ([] : List UInt8) = iriL o.m by unfold rightL; rw [if_pos rfl]; rfl] at HIR
  obtain ⟨pt, hpt⟩ : ∃ b, patsB o.T = b := ⟨_, rfl⟩
  obtain ⟨tb, htb⟩ : ∃ b, tableB o.V o.R = b := ⟨_, rfl⟩
  obtain ⟨nm, hnm⟩ : ∃ b, nameL o.m = b := ⟨_, rfl⟩
  obtain ⟨ir, hir⟩ : ∃ b, iriL o.m = b := ⟨_, rfl⟩
  obtain ⟨ck, hck⟩ : ∃ b, decide (chkE o.F = 0) = b := ⟨_, rfl⟩
  obtain ⟨ef, hef⟩ : ∃ b, o.F.isEmpty = b := ⟨_, rfl⟩
  rw [hpt] at HPT HR1
  rw [htb] at HTB HR2
  rw [hnm] at HNM HR8
  rw [hir] at HIR HR9
  rw [hck] at HCK HR5 HR7 HR8
  rw [hef] at hF HR5
  clear hpt htb hnm hir hck hef
  obtain ⟨k, T, V, R, F, m, s⟩ := o
  obtain ⟨ta, tn, tc, va, vn, vc, ra, rn, rc, fa, fn, fc⟩ := A
  dsimp only at HCK HPT HTB HNM HIR HR1 HR2 HR3 HR5 HR7 HR8 HR9 HRN HVM HRM hF
  have HEM := Lib.hid (fun k ta va ra fa tn tc vn vc rn rc fn fc m s w hv hr => isEmpty_calls k ta va ra fa tn tc vn vc rn rc fn fc m s w hv hr)
  simp only [OpL.v]
  rcases op_kinds k with h | h | h | h | h | h | h | h | h | h
  · have HO := Lib.hid (HRN.out h)
    have H := Lib.hid (fun j h1 h2 => not_op h j h1 h2)
    have n1 := H.out 1 (by decide) (by decide)
    have n2 := H.out 2 (by decide) (by decide)
    have n3 := H.out 3 (by decide) (by decide)
    have n4 := H.out 4 (by decide) (by decide)
    have n5 := H.out 5 (by decide) (by decide)
    have n6 := H.out 6 (by decide) (by decide)
    have n7 := H.out 7 (by decide) (by decide)
    have n8 := H.out 8 (by decide) (by decide)
    have n9 := H.out 9 (by decide) (by decide)
    clear h hF
    go_enter Try.func16, Try.ntmps16
    go_wp2
    go_ret
    exact ⟨by rw [HO.out]; rfl, box_below _ _⟩
  · subst h
    have HO := Lib.hid (HR1.out rfl)
    clear HR1 HR2 HR3 HR5 HR7 HR8 HR9 HRN hF
    cases pt with
    | false =>
      go_enter Try.func16, Try.ntmps16
      go_wp2_with fail
      refine (HPT.out _ (HIN.out _).t).mono ?_
      rintro e w1 ⟨rfl, hb1⟩
      have HB1 := Lib.hid (one_box hb1)
      obtain ⟨hc, hf⟩ := bcell hb1
      have hz : w.heap.size < w1.heap.size := by have := hb1.size; simp at this; omega
      clear hb1
      go_wp2
      go_ret
      exact ⟨by rw [HO.out]; rfl, by repeat (with_reducible (first | exact HB1.out | exact box_below _ _ | refine below_set ?_ (Nat.le_refl _) _ _))⟩
    | true =>
      go_enter Try.func16, Try.ntmps16
      go_wp2_with fail
      refine (HPT.out _ (HIN.out _).t).mono ?_
      rintro e w1 ⟨rfl, hb1⟩
      have HB1 := Lib.hid (one_box hb1)
      obtain ⟨hc, hf⟩ := bcell hb1
      have hz : w.heap.size < w1.heap.size := by have := hb1.size; simp at this; omega
      clear hb1
      go_wp2_with fail
      refine (HEM.out 1 none va ra fa 0 0 vn vc rn rc fn fc m s _ (HVM.out) (HRM.out)).mono ?_
      rintro e w2 ⟨rfl, hb2⟩
      have HB2 := Lib.hid hb2
      clear hb2
      go_wp2
      go_ret
      refine ⟨by rw [HO.out]; rfl, Below.trans ?_ (HB2.out.mono ?_)⟩
      · repeat (with_reducible (first | exact HB1.out | exact box_below _ _ | refine below_set ?_ (Nat.le_refl _) _ _))
      · have := HB1.out.size; (try simp); omega
  · subst h
    have HO := Lib.hid (HR2.out rfl)
    clear HR1 HR2 HR3 HR5 HR7 HR8 HR9 HRN hF
    cases tb with
    | false =>
      go_enter Try.func16, Try.ntmps16
      go_wp2_with fail
      refine (HTB.out _ (HIN.out _).v (HIN.out _).r).mono ?_
      rintro e w1 ⟨rfl, hb1⟩
      have HB1 := Lib.hid (one_box hb1)
      obtain ⟨hc, hf⟩ := bcell hb1
      have hz : w.heap.size < w1.heap.size := by have := hb1.size; simp at this; omega
      clear hb1
      go_wp2
      go_ret
      exact ⟨by rw [HO.out]; rfl, by repeat (with_reducible (first | exact HB1.out | exact box_below _ _ | refine below_set ?_ (Nat.le_refl _) _ _))⟩
    | true =>
      go_enter Try.func16, Try.ntmps16
      go_wp2_with fail
      refine (HTB.out _ (HIN.out _).v (HIN.out _).r).mono ?_
      rintro e w1 ⟨rfl, hb1⟩
      have HB1 := Lib.hid (one_box hb1)
      obtain ⟨hc, hf⟩ := bcell hb1
      have hz : w.heap.size < w1.heap.size := by have := hb1.size; simp at this; omega
      clear hb1
      go_wp2_with fail
      refine (HEM.out 2 ta none none fa tn tc 0 0 0 0 fn fc m s _ (Nat.zero_le _) (Nat.zero_le _)).mono ?_
      rintro e w2 ⟨rfl, hb2⟩
      have HB2 := Lib.hid hb2
      clear hb2
      go_wp2
      go_ret
      refine ⟨by rw [HO.out]; rfl, Below.trans ?_ (HB2.out.mono ?_)⟩
      · repeat (with_reducible (first | exact HB1.out | exact box_below _ _ | refine below_set ?_ (Nat.le_refl _) _ _))
      · have := HB1.out.size; (try simp); omega
  · subst h
    have HO := Lib.hid (HR3.out (.inl rfl))
    clear HR1 HR2 HR3 HR5 HR7 HR8 HR9 HRN hF
    go_enter Try.func16, Try.ntmps16
    go_wp2_with fail
    refine (HEM.out 3 ta va ra fa tn tc vn vc rn rc fn fc m s _ (HVM.out) (HRM.out)).mono ?_
    rintro e w2 ⟨rfl, hb2⟩
    have HB2 := Lib.hid hb2
    clear hb2
    go_wp2
    go_ret
    refine ⟨by rw [HO.out]; rfl, Below.trans ?_ (HB2.out.mono ?_)⟩
    · repeat (with_reducible (first | exact HB1.out | exact box_below _ _ | refine below_set ?_ (Nat.le_refl _) _ _))
    · (try simp)
  · subst h
    have HO := Lib.hid (HR3.out (.inr (.inl rfl)))
    clear HR1 HR2 HR3 HR5 HR7 HR8 HR9 HRN hF
    go_enter Try.func16, Try.ntmps16
    go_wp2_with fail
    refine (HEM.out 4 ta va ra fa tn tc vn vc rn rc fn fc m s _ (HVM.out) (HRM.out)).mono ?_
    rintro e w2 ⟨rfl, hb2⟩
    have HB2 := Lib.hid hb2
    clear hb2
    go_wp2
    go_ret
    refine ⟨by rw [HO.out]; rfl, Below.trans ?_ (HB2.out.mono ?_)⟩
    · repeat (with_reducible (first | exact HB1.out | exact box_below _ _ | refine below_set ?_ (Nat.le_refl _) _ _))
    · (try simp)
  · subst h
    have HO := Lib.hid (HR5.out rfl)
    clear HR1 HR2 HR3 HR5 HR7 HR8 HR9 HRN
    cases ef with
    | true =>
      go_enter Try.func16, Try.ntmps16
      go_wp2_with fail
      refine (HEM.out 5 ta va ra none tn tc vn vc rn rc 0 0 m s _ (HVM.out) (HRM.out)).mono ?_
      rintro e w2 ⟨rfl, hb2⟩
      have HB2 := Lib.hid hb2
      clear hb2
      go_wp2
      go_ret
      refine ⟨by rw [HO.out]; rfl, Below.trans ?_ (HB2.out.mono ?_)⟩
      · repeat (with_reducible (first | exact HB1.out | exact box_below _ _ | refine below_set ?_ (Nat.le_refl _) _ _))
      · (try simp)
    | false =>
      cases ck with
      | false =>
        go_enter Try.func16, Try.ntmps16
        go_wp2_with fail
        refine (HCK.out _ (HIN.out _).f).mono ?_
        rintro e w1 ⟨rfl, hb1⟩
        have HB1 := Lib.hid (one_box hb1)
        obtain ⟨hc, hf⟩ := bcell hb1
        have hz : w.heap.size < w1.heap.size := by have := hb1.size; simp at this; omega
        clear hb1
        go_wp2
        go_ret
        exact ⟨by rw [HO.out]; rfl, by repeat (with_reducible (first | exact HB1.out | exact box_below _ _ | refine below_set ?_ (Nat.le_refl _) _ _))⟩
      | true =>
        go_enter Try.func16, Try.ntmps16
        go_wp2_with fail
        refine (HCK.out _ (HIN.out _).f).mono ?_
        rintro e w1 ⟨rfl, hb1⟩
        have HB1 := Lib.hid (one_box hb1)
        obtain ⟨hc, hf⟩ := bcell hb1
        have hz : w.heap.size < w1.heap.size := by have := hb1.size; simp at this; omega
        clear hb1
        go_wp2_with fail
        refine (HEM.out 5 ta va ra none tn tc vn vc rn rc 0 0 m s _ (HVM.out) (HRM.out)).mono ?_
        rintro e w2 ⟨rfl, hb2⟩
        have HB2 := Lib.hid hb2
        clear hb2
        go_wp2
        go_ret
        refine ⟨by rw [HO.out]; rfl, Below.trans ?_ (HB2.out.mono ?_)⟩
        · repeat (with_reducible (first | exact HB1.out | exact box_below _ _ | refine below_set ?_ (Nat.le_refl _) _ _))
        · have := HB1.out.size; (try simp); omega
  · subst h
    have HO := Lib.hid (HR3.out (.inr (.inr rfl)))
    clear HR1 HR2 HR3 HR5 HR7 HR8 HR9 HRN hF
    go_enter Try.func16, Try.ntmps16
    go_wp2_with fail
    refine (HEM.out 6 ta va ra fa tn tc vn vc rn rc fn fc m s _ (HVM.out) (HRM.out)).mono ?_
    rintro e w2 ⟨rfl, hb2⟩
    have HB2 := Lib.hid hb2
    clear hb2
    go_wp2
    go_ret
    refine ⟨by rw [HO.out]; rfl, Below.trans ?_ (HB2.out.mono ?_)⟩
    · repeat (with_reducible (first | exact HB1.out | exact box_below _ _ | refine below_set ?_ (Nat.le_refl _) _ _))
    · (try simp)
  · subst h
    have HO := Lib.hid (HR7.out rfl)
    clear HR1 HR2 HR3 HR5 HR7 HR8 HR9 HRN hF
    cases ck with
    | false =>
      go_enter Try.func16, Try.ntmps16
      go_wp2_with fail
      refine (HCK.out _ (HIN.out _).f).mono ?_
      rintro e w1 ⟨rfl, hb1⟩
      have HB1 := Lib.hid (one_box hb1)
      obtain ⟨hc, hf⟩ := bcell hb1
      have hz : w.heap.size < w1.heap.size := by have := hb1.size; simp at this; omega
      clear hb1
      go_wp2
      go_ret
      exact ⟨by rw [HO.out]; rfl, by repeat (with_reducible (first | exact HB1.out | exact box_below _ _ | refine below_set ?_ (Nat.le_refl _) _ _))⟩
    | true =>
      go_enter Try.func16, Try.ntmps16
      go_wp2_with fail
      refine (HCK.out _ (HIN.out _).f).mono ?_
      rintro e w1 ⟨rfl, hb1⟩
      have HB1 := Lib.hid (one_box hb1)
      obtain ⟨hc, hf⟩ := bcell hb1
      have hz : w.heap.size < w1.heap.size := by have := hb1.size; simp at this; omega
      clear hb1
      go_wp2_with fail
      refine (HEM.out 7 ta va ra none tn tc vn vc rn rc 0 0 m s _ (HVM.out) (HRM.out)).mono ?_
      rintro e w2 ⟨rfl, hb2⟩
      have HB2 := Lib.hid hb2
      clear hb2
      go_wp2
      go_ret
      refine ⟨by rw [HO.out]; rfl, Below.trans ?_ (HB2.out.mono ?_)⟩
      · repeat (with_reducible (first | exact HB1.out | exact box_below _ _ | refine below_set ?_ (Nat.le_refl _) _ _))
      · have := HB1.out.size; (try simp); omega
  · subst h
    have HO := Lib.hid (HR8.out rfl)
    clear HR1 HR2 HR3 HR5 HR7 HR8 HR9 HRN hF
    cases ck with
    | false =>
      go_enter Try.func16, Try.ntmps16
      go_wp2_with fail
      refine (HCK.out _ (HIN.out _).f).mono ?_
      rintro e w1 ⟨rfl, hb1⟩
      have HB1 := Lib.hid (one_box hb1)
      obtain ⟨hc, hf⟩ := bcell hb1
      have hz : w.heap.size < w1.heap.size := by have := hb1.size; simp at this; omega
      clear hb1
      go_wp2
      go_ret
      exact ⟨by rw [HO.out]; rfl, by repeat (with_reducible (first | exact HB1.out | exact box_below _ _ | refine below_set ?_ (Nat.le_refl _) _ _))⟩
    | true =>
      cases nm with
      | false =>
        go_enter Try.func16, Try.ntmps16
        go_wp2_with fail
        refine (HCK.out _ (HIN.out _).f).mono ?_
        rintro e w1 ⟨rfl, hb1⟩
        have HB1 := Lib.hid (one_box hb1)
        obtain ⟨hc, hf⟩ := bcell hb1
        have hz : w.heap.size < w1.heap.size := by have := hb1.size; simp at this; omega
        clear hb1
        go_wp2_with fail
        refine (HNM.out _).mono ?_
        rintro e w3 ⟨rfl, hb3⟩
        have HB3 := Lib.hid (HB1.out.trans (hb3.mono HB1.out.size))
        obtain ⟨hc3, hf3⟩ := bcell hb3
        have hz3 : w.heap.size < w3.heap.size := Nat.lt_of_lt_of_le hz hb3.size
        clear hb3
        go_wp2
        go_ret
        exact ⟨by rw [HO.out]; rfl, by repeat (with_reducible (first | exact HB3.out | exact box_below _ _ | refine below_set ?_ (Nat.le_refl _) _ _))⟩
      | true =>
        go_enter Try.func16, Try.ntmps16
        go_wp2_with fail
        refine (HCK.out _ (HIN.out _).f).mono ?_
        rintro e w1 ⟨rfl, hb1⟩
        have HB1 := Lib.hid (one_box hb1)
        obtain ⟨hc, hf⟩ := bcell hb1
        have hz : w.heap.size < w1.heap.size := by have := hb1.size; simp at this; omega
        clear hb1
        go_wp2_with fail
        refine (HNM.out _).mono ?_
        rintro e w3 ⟨rfl, hb3⟩
        have HB3 := Lib.hid (HB1.out.trans (hb3.mono HB1.out.size))
        obtain ⟨hc3, hf3⟩ := bcell hb3
        have hz3 : w.heap.size < w3.heap.size := Nat.lt_of_lt_of_le hz hb3.size
        clear hb3
        go_wp2_with fail
        refine (HEM.out 8 ta va ra none tn tc vn vc rn rc 0 0 [] s _ (HVM.out) (HRM.out)).mono ?_
        rintro e w2 ⟨rfl, hb2⟩
        have HB2 := Lib.hid hb2
        clear hb2
        go_wp2
        go_ret
        refine ⟨by rw [HO.out]; rfl, Below.trans ?_ (HB2.out.mono ?_)⟩
        · repeat (with_reducible (first | exact HB3.out | exact box_below _ _ | refine below_set ?_ (Nat.le_refl _) _ _))
        · have := HB3.out.size; (try simp); omega
  · subst h
    have HO := Lib.hid (HR9.out rfl)
    clear HR1 HR2 HR3 HR5 HR7 HR8 HR9 HRN hF
    cases ir with
    | false =>
      have e0 : formZ false = 2 := rfl
      rw [e0] at HIR
      clear e0
      go_enter Try.func16, Try.ntmps16
      go_wp2_with fail
      refine (HIR.out _).mono ?_
      rintro e w1 ⟨rfl, hb1⟩
      have HB1 := Lib.hid (one_box hb1)
      obtain ⟨hc, hf⟩ := bcell hb1
      have hz : w.heap.size < w1.heap.size := by have := hb1.size; simp at this; omega
      clear hb1
      go_wp2
      go_ret
      exact ⟨by rw [HO.out]; rfl, by repeat (with_reducible (first | exact HB1.out | exact box_below _ _ | refine below_set ?_ (Nat.le_refl _) _ _))⟩
    | true =>
      have e0 : formZ true = 0 := rfl
      rw [e0] at HIR
      clear e0
      go_enter Try.func16, Try.ntmps16
      go_wp2_with fail
      refine (HIR.out _).mono ?_
      rintro e w1 ⟨rfl, hb1⟩
      have HB1 := Lib.hid (one_box hb1)
      obtain ⟨hc, hf⟩ := bcell hb1
      have hz : w.heap.size < w1.heap.size := by have := hb1.size; simp at this; omega
      clear hb1
      go_wp2_with fail
      refine (HEM.out 9 ta va ra fa tn tc vn vc rn rc fn fc [] false _ (HVM.out) (HRM.out)).mono ?_
      rintro e w2 ⟨rfl, hb2⟩
      have HB2 := Lib.hid hb2
      clear hb2
      go_wp2
      go_ret
      refine ⟨by rw [HO.out]; rfl, Below.trans ?_ (HB2.out.mono ?_)⟩
      · repeat (with_reducible (first | exact HB1.out | exact box_below _ _ | refine below_set ?_ (Nat.le_refl _) _ _))
      · have := HB1.out.size; (try simp); omega

end Go.Proofs.Ytiliobfgmelncaa
