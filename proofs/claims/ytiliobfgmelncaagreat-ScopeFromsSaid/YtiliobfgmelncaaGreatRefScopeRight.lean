/- Which operations are right, by the document's own answer. (Written by gen/mkoright.py.) -/
import Derived.Test.YtiliobfgmelncaaGreatRefTable
import Derived.Test.YtiliobfgmelncaaGreatRefScopeNeeds
import Derived.Test.YtiliobfgmelncaaGreatRefFCheck
import Derived.Deep.DeepCutAuto
namespace Go.Proofs.YtiliobfgmelncaaGreat
open Go.RowKit

structure OpIn (w : World) (o : OpL) (A : OpS) : Prop where
  t : TrpA w A.ta A.tn A.tc o.T
  v : TxtA w A.va A.vn A.vc o.V
  r : RowA w A.ra A.rn A.rc o.R
  f : ArgP w A.fa A.fn A.fc o.F
theorem OpIn.on {w w' : World} {o : OpL} {A : OpS} (h : OpIn w o A) (hb : Below w.heap.size w w') : OpIn w' o A := ⟨h.t.on hb, h.v.on hb, h.r.on hb, h.f.on hb⟩
structure OpOk (o : OpL) : Prop where
  t : ∀ t ∈ o.T, t.ok
  v : ∀ x ∈ o.V, (bs x).size ≤ maxLen
  r : ∀ r ∈ o.R, ∀ t ∈ r, t.ok
  f : ∀ p ∈ o.F, p.ok
  m : (bs o.m).size ≤ maxLen
/- an operation's cells in a box of its own -/
def Op7 (w : World) (g j : Nat) (o : OpL) (A : OpS) : Prop :=
  w.cell? ⟨g, j, none⟩ = some (.int .i64 o.k) ∧ w.cell? ⟨g, j + 1, none⟩ = some (.slice A.ta A.tn A.tc) ∧ w.cell? ⟨g, j + 2, none⟩ = some (.slice A.va A.vn A.vc) ∧ w.cell? ⟨g, j + 3, none⟩ = some (.slice A.ra A.rn A.rc) ∧
  w.cell? ⟨g, j + 4, none⟩ = some (.slice A.fa A.fn A.fc) ∧ w.cell? ⟨g, j + 5, none⟩ = some (.string (bs o.m)) ∧ w.cell? ⟨g, j + 6, none⟩ = some (.bool o.s)
theorem Op7.on {w w' : World} {g j B : Nat} {o : OpL} {A : OpS} (h : Op7 w g j o A) (hb : Below B w w') (hg : g < B) : Op7 w' g j o A := by
  obtain ⟨c0, c1, c2, c3, c4, c5, c6⟩ := h
  exact ⟨(hb.cell (p := ⟨g, _, none⟩) hg).trans c0, (hb.cell (p := ⟨g, _, none⟩) hg).trans c1, (hb.cell (p := ⟨g, _, none⟩) hg).trans c2, (hb.cell (p := ⟨g, _, none⟩) hg).trans c3, (hb.cell (p := ⟨g, _, none⟩) hg).trans c4, (hb.cell (p := ⟨g, _, none⟩) hg).trans c5, (hb.cell (p := ⟨g, _, none⟩) hg).trans c6⟩
def OpBox (w : World) (o : OpL) (A : OpS) (wr : World) : Prop := Op7 wr w.heap.size 0 o A ∧ Below w.heap.size w wr ∧ w.heap.size < wr.heap.size
theorem OpBox.on {w wr wr' : World} {o : OpL} {A : OpS} (h : OpBox w o A wr) (hb : Below wr.heap.size wr wr') : OpBox w o A wr' := ⟨h.1.on hb h.2.2, h.2.1.trans (hb.mono (Nat.le_of_lt h.2.2)), Nat.lt_of_lt_of_le h.2.2 hb.size⟩
theorem OpBox.new (w : World) (o : OpL) (A : OpS) (T : TypeId) : OpBox w o A (w.alloc (.cells #[.int .i64 o.k, .slice A.ta A.tn A.tc, .slice A.va A.vn A.vc, .slice A.ra A.rn A.rc, .slice A.fa A.fn A.fc, .string (bs o.m), .bool o.s] T)) := by
  have hb := blk_new w T #[.int .i64 o.k, .slice A.ta A.tn A.tc, .slice A.va A.vn A.vc, .slice A.ra A.rn A.rc, .slice A.fa A.fn A.fc, .string (bs o.m), .bool o.s]
  refine ⟨⟨?_, ?_, ?_, ?_, ?_, ?_, ?_⟩, box_below _ _, by simp⟩
  all_goals rw [blk_cell hb]; rfl

/- the same in Booleans -/
def rightX (k : Int) (f rf nt nb em s pt tb nm ir : Bool) : Bool :=
  if k = 1 then pt && nb && !f && em && !s
  else if k = 2 then nt && tb && !f && em && !s
  else if k = 3 ∨ k = 4 ∨ k = 6 then nt && nb && !f && em && !s
  else if k = 5 then nt && nb && (!f || rf) && em && !s
  else if k = 7 then nt && nb && rf && em && !s
  else if k = 8 then nt && nb && rf && nm && !s
  else if k = 9 then nt && nb && !f && ir
  else false
theorem rightO_eq (o : OpL) : rightO o = rightX o.k (!o.F.isEmpty) (formB o.F) o.T.isEmpty (o.V.isEmpty && o.R.isEmpty) o.m.isEmpty o.s (patsB o.T) (tableB o.V o.R) (nameL o.m) (iriL o.m) := by
  unfold rightO rightX
  simp only [Bool.not_not, Bool.and_assoc]
theorem rightX_other {k : Int} (h : k < 1 ∨ 9 < k) (f rf nt nb em s pt tb nm ir : Bool) : rightX k f rf nt nb em s pt tb nm ir = false := by
  unfold rightX
  rw [if_neg (by omega), if_neg (by omega), if_neg (by omega), if_neg (by omega), if_neg (by omega), if_neg (by omega), if_neg (by omega)]
theorem empty_len {α : Type} {l : List α} {n : Nat} (h : l.length = n) : ((n : Int) == 0) = l.isEmpty := by
  cases l with
  | nil => subst h; rfl
  | cons a b => rw [List.isEmpty_cons]; refine beq_eq_false_iff_ne.2 ?_; rw [← h, List.length_cons]; omega
theorem some_len {α : Type} {l : List α} {n : Nat} (h : l.length = n) : decide ((0 : Int) < (n : Int)) = !l.isEmpty := by
  cases l with
  | nil => subst h; rfl
  | cons a b => rw [List.isEmpty_cons, Bool.not_false]; refine decide_eq_true ?_; rw [← h, List.length_cons]; omega

set_option maxRecDepth 100000 in
set_option maxHeartbeats 16000000 in
theorem rORight_calls (o : OpL) (A : OpS) (w : World) (hok : OpOk o) (hin : OpIn w o A) : Calls Tryz.prog 8 #[o.v A] w fun e w' => e = .returned (.bool (rightO o)) ∧ Below w.heap.size w w' := by
  have HE := Lib.hid (rightO_eq o)
  have HNEW := Lib.hid (fun T => OpBox.new w o A T)
  have HCK := Lib.hid (fun W h => rFCheck_calls o.F hok.f A.fa A.fn A.fc W h)
  have HPT := Lib.hid (fun W h => rpatterns_calls o.T hok.t A.ta A.tn A.tc W h)
  have HTB := Lib.hid (fun W h1 h2 => rRightTable_calls o.V o.R hok.v hok.r A.va A.ra A.vn A.vc A.rn A.rc W h1 h2)
  have HNM := Lib.hid (fun W => rIsName_calls (bs o.m) W hok.m)
  have HIR := Lib.hid (fun W => rIsIri_calls (bs o.m) W hok.m)
  have HIN := Lib.hid hin
  have hF := some_len hin.f.len
  have hT := empty_len hin.t.len
  have hV := empty_len hin.v.len
  have hR := empty_len hin.r.len
  have ge : (bs o.m).toList.isEmpty = o.m.isEmpty := by rw [bs_toList]
  have hFB : formB o.F = (!o.F.isEmpty && decide (chkE o.F = 0)) := by unfold formB; congr 1; cases o.F <;> rfl
  have HFB := Lib.hid hFB
  clear hok hin hFB
  simp only [bs_data] at HNM HIR
  have HX := Lib.hid (show ∀ W, OpBox w o A W → Op7 W w.heap.size 0 o A from fun W h => h.1)
  obtain ⟨pt, hpt⟩ : ∃ b, patsB o.T = b := ⟨_, rfl⟩
  obtain ⟨tb, htb⟩ : ∃ b, tableB o.V o.R = b := ⟨_, rfl⟩
  obtain ⟨nm, hnm⟩ : ∃ b, nameL o.m = b := ⟨_, rfl⟩
  obtain ⟨ir, hir⟩ : ∃ b, iriL o.m = b := ⟨_, rfl⟩
  obtain ⟨em, hem⟩ : ∃ b, o.m.isEmpty = b := ⟨_, rfl⟩
  obtain ⟨f, hf⟩ : ∃ b, (!o.F.isEmpty) = b := ⟨_, rfl⟩
  obtain ⟨nt, hnt⟩ : ∃ b, o.T.isEmpty = b := ⟨_, rfl⟩
  obtain ⟨nv, hnv⟩ : ∃ b, o.V.isEmpty = b := ⟨_, rfl⟩
  obtain ⟨nr, hnr⟩ : ∃ b, o.R.isEmpty = b := ⟨_, rfl⟩
  obtain ⟨rf, hrf⟩ : ∃ b, formB o.F = b := ⟨_, rfl⟩
  obtain ⟨E, hEE⟩ : ∃ e, chkE o.F = e := ⟨_, rfl⟩
  obtain ⟨nb, hnb⟩ : ∃ b, (nv && nr) = b := ⟨_, rfl⟩
  rw [hpt, htb, hnm, hir, hem, hf, hnt, hnv, hnr, hrf, hnb] at HE
  rw [hrf, hf, hEE] at HFB
  rw [hf] at hF
  rw [hnt] at hT
  rw [hnv] at hV
  rw [hnr] at hR
  rw [hem] at ge
  rw [hpt] at HPT
  rw [htb] at HTB
  rw [hnm] at HNM
  rw [hir] at HIR
  rw [hEE] at HCK
  clear hpt htb hnm hir hem hf hnt hnv hnr hrf hEE
  obtain ⟨k, T, V, R, F, m, s⟩ := o
  obtain ⟨ta, tn, tc, va, vn, vc, ra, rn, rc, fa, fn, fc⟩ := A
  simp only [Op7] at HX
  dsimp only at HE HNEW HCK HPT HTB HNM HIR hF hT hV hR ge HX
  have hF2 : decide (0 < fn) = f := by rw [← hF, Bool.eq_iff_iff]; simp
  simp only [OpL.v]
  go_enter Tryz.func8, Tryz.ntmps8
  go_upto_region 2 with fail
  obtain ⟨c0, c1, c2, c3, c4, c5, c6⟩ := HX.out _ (HNEW.out 29)
  go_cut [3, 4] from 7 (fun s3 s4 wr => s3 = .bool f ∧ s4 = .bool rf ∧ Hid (OpBox w ⟨k, T, V, R, F, m, s⟩ ⟨ta, tn, tc, va, vn, vc, ra, rn, rc, fa, fn, fc⟩ wr))
  case first =>
    cases f with
    | false =>
      have hz : rf = false := by rw [HFB.out]; rfl
      subst hz
      go_wp2
      go_meet
      case rel => exact ⟨rfl, rfl, Lib.hid (HNEW.out _)⟩
    | true =>
      have hz : rf = (E == 0) := by rw [HFB.out, Bool.true_and, Bool.eq_iff_iff]; simp
      subst hz
      go_wp2_with fail
      refine (HCK.out _ (HIN.out.f.on (box_below _ _))).mono ?_
      rintro e w1 ⟨rfl, hb1⟩
      have HB1 := Lib.hid ((HNEW.out _).on hb1)
      clear hb1
      go_wp2
      go_meet
      case rel => exact ⟨rfl, rfl, HB1⟩
  case rest =>
    obtain ⟨rfl, rfl, HBX⟩ := hcut
    clear c0 c1 c2 c3 c4 c5 c6
    obtain ⟨c0, c1, c2, c3, c4, c5, c6⟩ := HX.out _ HBX.out
    have hlt := HBX.out.2.2
    go_upto_region 4 with fail
    go_cut [6] from 7 (fun s6 wr => s6 = .bool nb ∧ wr = wc)
    case first =>
      cases nv with
      | false =>
        have hz : nb = false := hnb.symm
        subst hz
        go_wp2
        go_meet
        case rel => exact ⟨rfl, rfl⟩
      | true =>
        have hz : nb = nr := by rw [← hnb]; rfl
        subst hz
        go_wp2
        go_meet
        case rel => exact ⟨rfl, rfl⟩
    case rest =>
      rename_i wc0 _ _
      obtain ⟨rfl, rfl⟩ := hcut
      clear hF hF2 hT hV hR HFB hnb HNEW HCK nv nr
      rcases op_kinds k with h | h | h | h | h | h | h | h | h | h
      · have HO := Lib.hid (rightX_other h f rf nt nb em s pt tb nm ir)
        have H := Lib.hid (fun j h1 h2 => not_op h j h1 h2)
        have n1 := H.out 1 (by decide) (by decide)
        have n2 := H.out 2 (by decide) (by decide)
        have n3 := H.out 3 (by decide) (by decide)
        have n4 := H.out 4 (by decide) (by decide)
        have n5 := H.out 5 (by decide) (by decide)
        have n6 := H.out 6 (by decide) (by decide)
        have n7 := H.out 7 (by decide) (by decide)
        have n8 := H.out 8 (by decide) (by decide)
        have n9 := H.out 9 (by decide) (by decide)
        clear h
        go_wp2
        go_ret
        exact ⟨by rw [HE.out, HO.out]; rfl, HBX.out.2.1⟩
      · subst h
        cases pt with
        | false =>
          go_wp2_with fail
          refine (HPT.out _ (HIN.out.t.on HBX.out.2.1)).mono ?_
          rintro e w2 ⟨rfl, hb2⟩
          have HB2 := Lib.hid (HBX.out.on hb2)
          clear hb2 c0 c1 c2 c3 c4 c5 c6 hlt
          obtain ⟨c0, c1, c2, c3, c4, c5, c6⟩ := HX.out _ HB2.out
          have hlt := HB2.out.2.2
          go_wp2
          go_ret
          exact ⟨by rw [HE.out]; rfl, HB2.out.2.1⟩
        | true =>
          cases nb with
          | false =>
            go_wp2_with fail
            refine (HPT.out _ (HIN.out.t.on HBX.out.2.1)).mono ?_
            rintro e w2 ⟨rfl, hb2⟩
            have HB2 := Lib.hid (HBX.out.on hb2)
            clear hb2 c0 c1 c2 c3 c4 c5 c6 hlt
            obtain ⟨c0, c1, c2, c3, c4, c5, c6⟩ := HX.out _ HB2.out
            have hlt := HB2.out.2.2
            go_wp2
            go_ret
            exact ⟨by rw [HE.out]; rfl, HB2.out.2.1⟩
          | true =>
            cases f with
            | true =>
              go_wp2_with fail
              refine (HPT.out _ (HIN.out.t.on HBX.out.2.1)).mono ?_
              rintro e w2 ⟨rfl, hb2⟩
              have HB2 := Lib.hid (HBX.out.on hb2)
              clear hb2 c0 c1 c2 c3 c4 c5 c6 hlt
              obtain ⟨c0, c1, c2, c3, c4, c5, c6⟩ := HX.out _ HB2.out
              have hlt := HB2.out.2.2
              go_wp2
              go_ret
              exact ⟨by rw [HE.out]; rfl, HB2.out.2.1⟩
            | false =>
              cases em with
              | false =>
                go_wp2_with fail
                refine (HPT.out _ (HIN.out.t.on HBX.out.2.1)).mono ?_
                rintro e w2 ⟨rfl, hb2⟩
                have HB2 := Lib.hid (HBX.out.on hb2)
                clear hb2 c0 c1 c2 c3 c4 c5 c6 hlt
                obtain ⟨c0, c1, c2, c3, c4, c5, c6⟩ := HX.out _ HB2.out
                have hlt := HB2.out.2.2
                go_wp2
                go_ret
                exact ⟨by rw [HE.out]; rfl, HB2.out.2.1⟩
              | true =>
                go_wp2_with fail
                refine (HPT.out _ (HIN.out.t.on HBX.out.2.1)).mono ?_
                rintro e w2 ⟨rfl, hb2⟩
                have HB2 := Lib.hid (HBX.out.on hb2)
                clear hb2 c0 c1 c2 c3 c4 c5 c6 hlt
                obtain ⟨c0, c1, c2, c3, c4, c5, c6⟩ := HX.out _ HB2.out
                have hlt := HB2.out.2.2
                go_wp2
                go_ret
                exact ⟨by rw [HE.out]; rfl, HB2.out.2.1⟩
      · subst h
        cases nt with
        | false =>
          go_wp2
          go_ret
          exact ⟨by rw [HE.out]; rfl, HBX.out.2.1⟩
        | true =>
          cases tb with
          | false =>
            go_wp2_with fail
            refine (HTB.out _ (HIN.out.v.on HBX.out.2.1) (HIN.out.r.on HBX.out.2.1)).mono ?_
            rintro e w2 ⟨rfl, hb2⟩
            have HB2 := Lib.hid (HBX.out.on hb2)
            clear hb2 c0 c1 c2 c3 c4 c5 c6 hlt
            obtain ⟨c0, c1, c2, c3, c4, c5, c6⟩ := HX.out _ HB2.out
            have hlt := HB2.out.2.2
            go_wp2
            go_ret
            exact ⟨by rw [HE.out]; rfl, HB2.out.2.1⟩
          | true =>
            cases f with
            | true =>
              go_wp2_with fail
              refine (HTB.out _ (HIN.out.v.on HBX.out.2.1) (HIN.out.r.on HBX.out.2.1)).mono ?_
              rintro e w2 ⟨rfl, hb2⟩
              have HB2 := Lib.hid (HBX.out.on hb2)
              clear hb2 c0 c1 c2 c3 c4 c5 c6 hlt
              obtain ⟨c0, c1, c2, c3, c4, c5, c6⟩ := HX.out _ HB2.out
              have hlt := HB2.out.2.2
              go_wp2
              go_ret
              exact ⟨by rw [HE.out]; rfl, HB2.out.2.1⟩
            | false =>
              cases em with
              | false =>
                go_wp2_with fail
                refine (HTB.out _ (HIN.out.v.on HBX.out.2.1) (HIN.out.r.on HBX.out.2.1)).mono ?_
                rintro e w2 ⟨rfl, hb2⟩
                have HB2 := Lib.hid (HBX.out.on hb2)
                clear hb2 c0 c1 c2 c3 c4 c5 c6 hlt
                obtain ⟨c0, c1, c2, c3, c4, c5, c6⟩ := HX.out _ HB2.out
                have hlt := HB2.out.2.2
                go_wp2
                go_ret
                exact ⟨by rw [HE.out]; rfl, HB2.out.2.1⟩
              | true =>
                go_wp2_with fail
                refine (HTB.out _ (HIN.out.v.on HBX.out.2.1) (HIN.out.r.on HBX.out.2.1)).mono ?_
                rintro e w2 ⟨rfl, hb2⟩
                have HB2 := Lib.hid (HBX.out.on hb2)
                clear hb2 c0 c1 c2 c3 c4 c5 c6 hlt
                obtain ⟨c0, c1, c2, c3, c4, c5, c6⟩ := HX.out _ HB2.out
                have hlt := HB2.out.2.2
                go_wp2
                go_ret
                exact ⟨by rw [HE.out]; rfl, HB2.out.2.1⟩
      · subst h
        cases nt with
        | false =>
          go_wp2
          go_ret
          exact ⟨by rw [HE.out]; rfl, HBX.out.2.1⟩
        | true =>
          cases nb with
          | false =>
            go_wp2
            go_ret
            exact ⟨by rw [HE.out]; rfl, HBX.out.2.1⟩
          | true =>
            cases f with
            | true =>
              go_wp2
              go_ret
              exact ⟨by rw [HE.out]; rfl, HBX.out.2.1⟩
            | false =>
              cases em with
              | false =>
                go_wp2
                go_ret
                exact ⟨by rw [HE.out]; rfl, HBX.out.2.1⟩
              | true =>
                go_wp2
                go_ret
                exact ⟨by rw [HE.out]; rfl, HBX.out.2.1⟩
      · subst h
        cases nt with
        | false =>
          go_wp2
          go_ret
          exact ⟨by rw [HE.out]; rfl, HBX.out.2.1⟩
        | true =>
          cases nb with
          | false =>
            go_wp2
            go_ret
            exact ⟨by rw [HE.out]; rfl, HBX.out.2.1⟩
          | true =>
            cases f with
            | true =>
              go_wp2
              go_ret
              exact ⟨by rw [HE.out]; rfl, HBX.out.2.1⟩
            | false =>
              cases em with
              | false =>
                go_wp2
                go_ret
                exact ⟨by rw [HE.out]; rfl, HBX.out.2.1⟩
              | true =>
                go_wp2
                go_ret
                exact ⟨by rw [HE.out]; rfl, HBX.out.2.1⟩
      · subst h
        cases nt with
        | false =>
          go_wp2
          go_ret
          exact ⟨by rw [HE.out]; rfl, HBX.out.2.1⟩
        | true =>
          cases nb with
          | false =>
            go_wp2
            go_ret
            exact ⟨by rw [HE.out]; rfl, HBX.out.2.1⟩
          | true =>
            cases f with
            | false =>
              cases em with
              | false =>
                go_wp2
                go_ret
                exact ⟨by rw [HE.out]; rfl, HBX.out.2.1⟩
              | true =>
                go_wp2
                go_ret
                exact ⟨by rw [HE.out]; rfl, HBX.out.2.1⟩
            | true =>
              cases rf with
              | false =>
                go_wp2
                go_ret
                exact ⟨by rw [HE.out]; rfl, HBX.out.2.1⟩
              | true =>
                cases em with
                | false =>
                  go_wp2
                  go_ret
                  exact ⟨by rw [HE.out]; rfl, HBX.out.2.1⟩
                | true =>
                  go_wp2
                  go_ret
                  exact ⟨by rw [HE.out]; rfl, HBX.out.2.1⟩
      · subst h
        cases nt with
        | false =>
          go_wp2
          go_ret
          exact ⟨by rw [HE.out]; rfl, HBX.out.2.1⟩
        | true =>
          cases nb with
          | false =>
            go_wp2
            go_ret
            exact ⟨by rw [HE.out]; rfl, HBX.out.2.1⟩
          | true =>
            cases f with
            | true =>
              go_wp2
              go_ret
              exact ⟨by rw [HE.out]; rfl, HBX.out.2.1⟩
            | false =>
              cases em with
              | false =>
                go_wp2
                go_ret
                exact ⟨by rw [HE.out]; rfl, HBX.out.2.1⟩
              | true =>
                go_wp2
                go_ret
                exact ⟨by rw [HE.out]; rfl, HBX.out.2.1⟩
      · subst h
        cases nt with
        | false =>
          go_wp2
          go_ret
          exact ⟨by rw [HE.out]; rfl, HBX.out.2.1⟩
        | true =>
          cases nb with
          | false =>
            go_wp2
            go_ret
            exact ⟨by rw [HE.out]; rfl, HBX.out.2.1⟩
          | true =>
            cases rf with
            | false =>
              go_wp2
              go_ret
              exact ⟨by rw [HE.out]; rfl, HBX.out.2.1⟩
            | true =>
              cases em with
              | false =>
                go_wp2
                go_ret
                exact ⟨by rw [HE.out]; rfl, HBX.out.2.1⟩
              | true =>
                go_wp2
                go_ret
                exact ⟨by rw [HE.out]; rfl, HBX.out.2.1⟩
      · subst h
        cases nt with
        | false =>
          go_wp2
          go_ret
          exact ⟨by rw [HE.out]; rfl, HBX.out.2.1⟩
        | true =>
          cases nb with
          | false =>
            go_wp2
            go_ret
            exact ⟨by rw [HE.out]; rfl, HBX.out.2.1⟩
          | true =>
            cases rf with
            | false =>
              go_wp2
              go_ret
              exact ⟨by rw [HE.out]; rfl, HBX.out.2.1⟩
            | true =>
              cases nm with
              | false =>
                go_wp2_with fail
                refine (HNM.out _).mono ?_
                rintro e w2 ⟨rfl, hw2⟩
                subst hw2
                go_wp2
                go_ret
                exact ⟨by rw [HE.out]; rfl, HBX.out.2.1⟩
              | true =>
                go_wp2_with fail
                refine (HNM.out _).mono ?_
                rintro e w2 ⟨rfl, hw2⟩
                subst hw2
                go_wp2
                go_ret
                exact ⟨by rw [HE.out]; rfl, HBX.out.2.1⟩
      · subst h
        cases nt with
        | false =>
          go_wp2
          go_ret
          exact ⟨by rw [HE.out]; rfl, HBX.out.2.1⟩
        | true =>
          cases nb with
          | false =>
            go_wp2
            go_ret
            exact ⟨by rw [HE.out]; rfl, HBX.out.2.1⟩
          | true =>
            cases f with
            | true =>
              go_wp2
              go_ret
              exact ⟨by rw [HE.out]; rfl, HBX.out.2.1⟩
            | false =>
              go_wp2_with fail
              refine (HIR.out _).mono ?_
              rintro e w2 ⟨rfl, hw2⟩
              subst hw2
              go_wp2
              go_ret
              exact ⟨by rw [HE.out]; rfl, HBX.out.2.1⟩
end Go.Proofs.YtiliobfgmelncaaGreat
