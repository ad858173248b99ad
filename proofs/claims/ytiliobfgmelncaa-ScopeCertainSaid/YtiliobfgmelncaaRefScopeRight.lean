
/- Which operations are right, by the document's own answer. (Written by gen/mkoright.py.) -/
import Derived.Test.YtiliobfgmelncaaRefTable
import Derived.Test.YtiliobfgmelncaaRefScopeNeeds
import Derived.Test.YtiliobfgmelncaaRefFCheck
import Derived.Deep.DeepCutAuto
namespace Go.Proofs.Ytiliobfgmelncaa
open Go.RowKit

structure OpIn (w : World) (o : OpL) (A : OpS) : Prop where
  t : TrpA w A.ta A.tn A.tc o.T
  v : TxtA w A.va A.vn A.vc o.V
  r : RowA w A.ra A.rn A.rc o.R
  f : ArgP w A.fa A.fn A.fc o.F
theorem OpIn.on {w w' : World} {o : OpL} {A : OpS} (h : OpIn w o A) (hb : Below w.heap.size w w') : OpIn w' o A := ⟨h.t.on hb, h.v.on hb, h.r.on hb, h.f.on hb⟩
structure OpOk (o : OpL) : Prop where
  t : ∀ t ∈ o.T, t.ok
  v : ∀ x ∈ o.V, (bs x).size ≤ maxLen
  r : ∀ r ∈ o.R, ∀ t ∈ r, t.ok
  f : ∀ p ∈ o.F, p.ok
  m : (bs o.m).size ≤ maxLen
/- an operation's cells in a box of its own -/
def Op7 (w : World) (g j : Nat) (o : OpL) (A : OpS) : Prop :=
  w.cell? ⟨g, j, none⟩ = some (.int .i64 o.k) ∧ w.cell? ⟨g, j + 1, none⟩ = some (.slice A.ta A.tn A.tc) ∧ w.cell? ⟨g, j + 2, none⟩ = some (.slice A.va A.vn A.vc) ∧ w.cell? ⟨g, j + 3, none⟩ = some (.slice A.ra A.rn A.rc) ∧
  w.cell? ⟨g, j + 4, none⟩ = some (.slice A.fa A.fn A.fc) ∧ w.cell? ⟨g, j + 5, none⟩ = some (.string (bs o.m)) ∧ w.cell? ⟨g, j + 6, none⟩ = some (.bool o.s)
theorem Op7.on {w w' : World} {g j B : Nat} {o : OpL} {A : OpS} (h : Op7 w g j o A) (hb : Below B w w') (hg : g < B) : Op7 w' g j o A := by
  obtain ⟨c0, c1, c2, c3, c4, c5, c6⟩ := h
  exact ⟨(hb.cell (p := ⟨g, _, none⟩) hg).trans c0, (hb.cell (p := ⟨g, _, none⟩) hg).trans c1, (hb.cell (p := ⟨g, _, none⟩) hg).trans c2, (hb.cell (p := ⟨g, _, none⟩) hg).trans c3, (hb.cell (p := ⟨g, _, none⟩) hg).trans c4, (hb.cell (p := ⟨g, _, none⟩) hg).trans c5, (hb.cell (p := ⟨g, _, none⟩) hg).trans c6⟩
def OpBox (w : World) (o : OpL) (A : OpS) (wr : World) : Prop := Op7 wr w.heap.size 0 o A ∧ Below w.heap.size w wr ∧ w.heap.size < wr.heap.size
theorem OpBox.on {w wr wr' : World} {o : OpL} {A : OpS} (h : OpBox w o A wr) (hb : Below wr.heap.size wr wr') : OpBox w o A wr' := ⟨h.1.on hb h.2.2, h.2.1.trans (hb.mono (Nat.le_of_lt h.2.2)), Nat.lt_of_lt_of_le h.2.2 hb.size⟩
theorem OpBox.new (w : World) (o : OpL) (A : OpS) (T : TypeId) : OpBox w o A (w.alloc (.cells #[.int .i64 o.k, .slice A.ta A.tn A.tc, .slice A.va A.vn A.vc, .slice A.ra A.rn A.rc, .slice A.fa A.fn A.fc, .string (bs o.m), .bool o.s] T)) := by
  have hb := blk_new w T #[.int .i64 o.k, .slice A.ta A.tn A.tc, .slice A.va A.vn A.vc, .slice A.ra A.rn A.rc, .slice A.fa A.fn A.fc, .string (bs o.m), .bool o.s]
  refine ⟨⟨?_, ?_, ?_, ?_, ?_, ?_, ?_⟩, box_below _ _, by simp⟩
  all_goals rw [blk_cell hb]; rfl

/- the same in Booleans -/
def rightX (k : Int) (f rf nt nb em s pt tb nm ir : Bool) : Bool :=
  if k = 1 then pt && nb && !f && em && !s
  else if k = 2 then nt && tb && !f && em && !s
  else if k = 3 ∨ k = 4 ∨ k = 6 then nt && nb && !f && em && !s
  else if k = 5 then nt && nb && (!f || rf) && em && !s
  else if k = 7 then nt && nb && rf && em && !s
  else if k = 8 then nt && nb && rf && nm && !s
  else if k = 9 then nt && nb && !f && ir
  else false
theorem rightO_eq (o : OpL) : rightO o = rightX o.k (!o.F.isEmpty) (formB o.F) o.T.isEmpty (o.V.isEmpty && o.R.isEmpty) o.m.isEmpty o.s (patsB o.T) (tableB o.V o.R) (nameL o.m) (iriL o.m) := by
  unfold rightO rightX
  simp only [Bool.not_not, Bool.and_assoc]
theorem rightX_other {k : Int} (h : k < 1 ∨ 9 < k) (f rf nt nb em s pt tb nm ir : Bool) : rightX k f rf nt nb em s pt tb nm ir = false := by
  unfold rightX
  rw [if_neg (by omega), if_neg (by omega), if_neg (by omega), if_neg (by omega), if_neg (by omega), if_neg (by omega), if_neg (by omega)]
theorem empty_len {α : Type} {l : List α} {n : Nat} (h : l.length = n) : ((n : Int) == 0) = l.isEmpty := by
  cases l with
  | nil => subst h; rfl
  | cons a b => rw [List.isEmpty_cons]; refine beq_eq_false_iff_ne.2 ?_; rw [← h, List.length_cons]; omega
theorem some_len {α : Type} {l : List α} {n : Nat} (h : l.length = n) : decide ((0 : Int) < (n : Int)) = !l.isEmpty := by
  cases l with
  | nil => subst h; rfl
  | cons a b => rw [List.isEmpty_cons, Bool.not_false]; refine decide_eq_true ?_; rw [← h, List.length_cons]; omega

end Go.Proofs.Ytiliobfgmelncaa
