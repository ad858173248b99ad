/- What the order of values asks of a term: package shape's valueOf, compareValues, Compare, for every term. -/
import Derived.Test.YtkfemnjblbnclaaGreatDoorShpOf
import Derived.Test.YtkfemnjblbnclaaGreatDoorGOrder
import Derived.Test.YtkfemnjblbnclaaGreatDoorTermCompare
import Derived.Test.YtkfemnjblbnclaaGreatDoorNumCmp
import Derived.Deep.RegionHeld3
import Derived.Deep.QuietTactic
import Derived.BigQuiet
namespace Go.Proofs.YtkfemnjblbnclaaGreatDoor
open Go.RowKit

def numP (t : TermL) : Nm.NumL := if sortP t = 3 then (ofP t).1 else Nm.noNum
def valV (t : TermL) : Value := .agg #[.int .i64 (sortP t), .int .i64 (numP t).v, .int .i64 (numP t).s, .bool (numP t).d, .int .i64 t.k, .string (bs t.x), .string (bs t.y), .string (bs t.z)]
def valCells (t : TermL) : List Value := [.int .i64 (sortP t), .int .i64 (numP t).v, .int .i64 (numP t).s, .bool (numP t).d, .int .i64 t.k, .string (bs t.x), .string (bs t.y), .string (bs t.z)]

theorem sortP_kind {t : TermL} : sortP t = if t.k = 0 then 0 else if t.k = 3 then 1 else if t.k = 1 then 2 else if (ofP t).2 = true then 3 else 4 := rfl
theorem numP_not {t : TermL} (h : sortP t ≠ 3) : numP t = Nm.noNum := if_neg h
theorem numP_is {t : TermL} (h : sortP t = 3) : numP t = (ofP t).1 := if_pos h
theorem sort3_of {t : TermL} (h : sortP t = 3) : (ofP t).2 = true := by
  unfold sortP at h
  split at h
  · omega
  · split at h
    · omega
    · split at h
      · omega
      · split at h
        · assumption
        · omega

set_option maxRecDepth 100000 in
set_option maxHeartbeats 2000000 in
theorem valueOf_calls (t : TermL) (ht : t.ok) (w : World) (hg : GoodN w) :
    Calls Tryz.prog 34 #[t.v] w fun e w' => e = .returned (valV t) ∧ Below w.heap.size w w' := by
  have HO := Lib.hid (fun W hW => Of_calls t ht W hW)
  have HS := Lib.hid (sortP_kind (t := t))
  have HV := Lib.hid (show valV t = .agg #[.int .i64 (sortP t), .int .i64 (numP t).v, .int .i64 (numP t).s, .bool (numP t).d, .int .i64 t.k, .string (bs t.x), .string (bs t.y), .string (bs t.z)] from rfl)
  have HN := Lib.hid (@numP_not t)
  have HI := Lib.hid (@numP_is t)
  have HR := Lib.hid (show ofR t = Nm.readRet (ofP t) from rfl)
  have HNO := Lib.hid (@of_no t)
  have HG := Lib.hid hg
  clear ht hg
  generalize valV t = V at HV ⊢
  generalize sortP t = s at HS HV HN HI
  generalize numP t = m at HV HN HI
  generalize ofP t = q at HS HI HR HNO
  generalize ofR t = r at HO HR
  obtain ⟨k, x, y, z⟩ := t
  simp only [TermL.v] at HO ⊢
  dsimp only at HS HV
  by_cases h0 : k = 0
  · have hs : s = 0 := HS.out.trans (if_pos h0)
    have hm := HN.out (by omega)
    have HE := Lib.hid (show V = .agg #[.int .i64 0, .int .i64 0, .int .i64 0, .bool false, .int .i64 k, .string (bs x), .string (bs y), .string (bs z)] by rw [HV.out, hs, hm]; rfl)
    have g0 : (k == 0) = true := beq_iff_eq.2 h0
    clear hs hm h0 HO
    go_enter Tryz.func34, Tryz.ntmps34
    go_wp2
    refine bodyPost_ret (v := .agg #[.int .i64 0, .int .i64 0, .int .i64 0, .bool false, .int .i64 k, .string (bs x), .string (bs y), .string (bs z)]) (by simp [results, Tryz.results34, go_sem]) rfl ⟨by rw [HE.out], ?_⟩
    repeat (with_reducible (first | exact Below.refl _ _ | refine Below.setCell ?_ (by simp) _ | refine Below.alloc ?_ (by simp) _))
  have g0 : (k == 0) = false := beq_eq_false_iff_ne.2 h0
  by_cases h3 : k = 3
  · have hs : s = 1 := HS.out.trans ((if_neg h0).trans (if_pos h3))
    have hm := HN.out (by omega)
    have HE := Lib.hid (show V = .agg #[.int .i64 1, .int .i64 0, .int .i64 0, .bool false, .int .i64 k, .string (bs x), .string (bs y), .string (bs z)] by rw [HV.out, hs, hm]; rfl)
    have g3 : (k == 3) = true := beq_iff_eq.2 h3
    clear hs hm h0 h3 HO
    go_enter Tryz.func34, Tryz.ntmps34
    go_wp2
    refine bodyPost_ret (v := .agg #[.int .i64 1, .int .i64 0, .int .i64 0, .bool false, .int .i64 k, .string (bs x), .string (bs y), .string (bs z)]) (by simp [results, Tryz.results34, go_sem]) rfl ⟨by rw [HE.out], ?_⟩
    repeat (with_reducible (first | exact Below.refl _ _ | refine Below.setCell ?_ (by simp) _ | refine Below.alloc ?_ (by simp) _))
  have g3 : (k == 3) = false := beq_eq_false_iff_ne.2 h3
  by_cases h1 : k = 1
  · have hs : s = 2 := HS.out.trans ((if_neg h0).trans ((if_neg h3).trans (if_pos h1)))
    have hm := HN.out (by omega)
    have HE := Lib.hid (show V = .agg #[.int .i64 2, .int .i64 0, .int .i64 0, .bool false, .int .i64 k, .string (bs x), .string (bs y), .string (bs z)] by rw [HV.out, hs, hm]; rfl)
    have g1 : (k == 1) = true := beq_iff_eq.2 h1
    clear hs hm h0 h3 h1 HO
    go_enter Tryz.func34, Tryz.ntmps34
    go_wp2
    refine bodyPost_ret (v := .agg #[.int .i64 2, .int .i64 0, .int .i64 0, .bool false, .int .i64 k, .string (bs x), .string (bs y), .string (bs z)]) (by simp [results, Tryz.results34, go_sem]) rfl ⟨by rw [HE.out], ?_⟩
    repeat (with_reducible (first | exact Below.refl _ _ | refine Below.setCell ?_ (by simp) _ | refine Below.alloc ?_ (by simp) _))
  have g1 : (k == 1) = false := beq_eq_false_iff_ne.2 h1
  have HS2 := Lib.hid (HS.out.trans ((if_neg h0).trans ((if_neg h3).trans (if_neg h1))))
  clear h0 h3 h1 HS
  obtain ⟨⟨nv, ns, nd⟩, b⟩ := q
  have HR2 := Lib.hid (show r = .tuple #[.agg #[.int .i64 nv, .int .i64 ns, .bool nd], .int .i64 (Nm.errZ b)] from HR.out)
  clear HR
  cases b with
  | true =>
    have hs : s = 3 := HS2.out.trans (if_pos rfl)
    have hm := HI.out hs
    have HE := Lib.hid (show V = .agg #[.int .i64 3, .int .i64 nv, .int .i64 ns, .bool nd, .int .i64 k, .string (bs x), .string (bs y), .string (bs z)] by rw [HV.out, hs, hm])
    rw [show Nm.errZ true = 0 from rfl] at HR2
    obtain rfl := HR2.out
    clear HR2 hs hm HS2 HN HI HNO
    go_enter Tryz.func34, Tryz.ntmps34
    go_wp2_with fail
    refine (HO.out _ (by (repeat (with_reducible (first | exact HG.out | refine Nm.Good.alloc ?_ _))))).mono ?_
    rintro e w1 ⟨rfl, hb1⟩
    obtain ⟨hc, hf⟩ := bcell hb1
    have hz := two_size hb1
    have hz0 : w.heap.size < w1.heap.size := by omega
    have HB1 := Lib.hid (two_gone hb1)
    clear hb1
    go_wp2
    refine bodyPost_ret (v := .agg #[.int .i64 3, .int .i64 nv, .int .i64 ns, .bool nd, .int .i64 k, .string (bs x), .string (bs y), .string (bs z)]) (by simp [results, Tryz.results34, hc, hz, go_sem]) rfl ⟨by rw [HE.out], ?_⟩
    repeat (with_reducible (first | exact HB1.out | refine Below.setCell ?_ (by simp) _ | refine Below.alloc ?_ (by simp; omega) _))
  | false =>
    have hs : s = 4 := HS2.out.trans (if_neg (by simp))
    have hm := HN.out (by omega)
    have hq := HNO.out rfl
    simp only [Nm.noNum, Prod.mk.injEq, Nm.NumL.mk.injEq, and_true] at hq
    obtain ⟨rfl, rfl, rfl⟩ := hq
    have HE := Lib.hid (show V = .agg #[.int .i64 4, .int .i64 0, .int .i64 0, .bool false, .int .i64 k, .string (bs x), .string (bs y), .string (bs z)] by rw [HV.out, hs, hm]; rfl)
    rw [show Nm.errZ false = 2 from rfl] at HR2
    obtain rfl := HR2.out
    clear HR2 hs hm HS2 HN HI HNO
    go_enter Tryz.func34, Tryz.ntmps34
    go_wp2_with fail
    refine (HO.out _ (by (repeat (with_reducible (first | exact HG.out | refine Nm.Good.alloc ?_ _))))).mono ?_
    rintro e w1 ⟨rfl, hb1⟩
    obtain ⟨hc, hf⟩ := bcell hb1
    have hz := two_size hb1
    have hz0 : w.heap.size < w1.heap.size := by omega
    have HB1 := Lib.hid (two_gone hb1)
    clear hb1
    go_wp2
    refine bodyPost_ret (v := .agg #[.int .i64 4, .int .i64 0, .int .i64 0, .bool false, .int .i64 k, .string (bs x), .string (bs y), .string (bs z)]) (by simp [results, Tryz.results34, hc, hz, go_sem]) rfl ⟨by rw [HE.out], ?_⟩
    repeat (with_reducible (first | exact HB1.out | refine Below.setCell ?_ (by simp) _ | refine Below.alloc ?_ (by simp; omega) _))

end Go.Proofs.YtkfemnjblbnclaaGreatDoor
