/- Have two tables the same rows: package shape's Same, for every two tables. -/
import Derived.Test.YtkfemnjblbnclaaGreatDoorShpSameVars
import Derived.Test.YtkfemnjblbnclaaGreatDoorShpProjected
import Derived.Test.YtkfemnjblbnclaaGreatDoorShpText
import Derived.Test.YtkfemnjblbnclaaGreatDoorShpCheck
namespace Go.Proofs.YtkfemnjblbnclaaGreatDoor
open Go.RowKit Go.Maps

theorem txt_fit {T : List RowL} {n k : Nat} (hT : ∀ r ∈ T, r.length = n) (hn : n ≤ 32) (hl : T.length ≤ 8192) (hk : k < T.length) : okS (txtN (idsP T (k + 1)).1 T[k]) := by
  obtain ⟨h1, h2⟩ := num_at T (k + 1)
  have h3 := num_le hT (k + 1) (by omega)
  have h4 : (k + 1) * n ≤ 8192 * 32 := Nat.mul_le_mul (by omega) hn
  have h5 := txt_len h1 (by omega) T[k] (h2 _ (by rw [List.take_succ_eq_append_getElem hk]; exact List.mem_append_right _ (List.mem_singleton.2 rfl)))
  rw [hT _ (List.getElem_mem hk)] at h5
  have e : (bs (txtN (idsP T (k + 1)).1 T[k])).size = (txtN (idsP T (k + 1)).1 T[k]).length := rfl
  unfold okS maxLen
  omega
theorem nil_okT : okT nilT := ⟨⟨Nat.zero_le _, Nat.zero_le _, Nat.zero_le _⟩, by decide⟩
/- what the rounds keep -/
structure OpR (w w4 : World) (A b bm : Nat) (x1 x2 x3 x4 : Value) (T : List RowL) (k : Nat) (N : RowL → Nat) (wr : World) : Prop where
  one : Blk wr A 31 #[x1, x2]
  two : Blk wr (A + 1) 31 #[x3, x4]
  num : MapT wr b (idsP T k).2 (idsP T k).1
  opn : ∃ f s, MapS wr bm s f ∧ s ≤ k ∧ Opn T k N f
  below : Below w.heap.size w wr
  stay : Stay (fun i => i ≠ b ∧ i ≠ bm) w4 wr
theorem OpR.next {w w4 W w3 w5 : World} {A b bm k s : Nat} {x1 x2 x3 x4 : Value} {T : List RowL} {N N' : RowL → Nat} {f : List UInt8 → Option Int} (h : OpR w w4 A b bm x1 x2 x3 x4 T k N W) (h1 : A + 1 < b) (h2 : b < bm) (h0 : w.heap.size ≤ A)
    (hm : MapT w3 b (idsP T (k + 1)).2 (idsP T (k + 1)).1) (g3 : W.grownBy w3 (some b)) (h5 : MapS w5 bm s f) (g5 : w3.grownBy w5 (some bm)) (hs : s ≤ k + 1) (ho : Opn T (k + 1) N' f) : OpR w w4 A b bm x1 x2 x3 x4 T (k + 1) N' w5 := by
  have hb3 : Below w.heap.size w w3 := h.below.grown g3 h.below.size (fun j hj => by injection hj with hj; omega)
  refine ⟨blk_grown (blk_grown h.one (by omega) g3) (by omega) g5, blk_grown (blk_grown h.two (by omega) g3) (by omega) g5, hm.kept g5 (fun e => by injection e with e; omega), ⟨f, s, h5, hs, ho⟩, hb3.grown g5 hb3.size (fun j hj => by injection hj with hj; omega), ?_⟩
  exact (h.stay.trans ((stay_row g3).mono (fun i _ hi => hi.1))).trans ((stay_row g5).mono (fun i _ hi => hi.2))
theorem OpR.cong {w w4 W : World} {A b bm k : Nat} {x1 x2 x3 x4 : Value} {T : List RowL} {N N' : RowL → Nat} (h : OpR w w4 A b bm x1 x2 x3 x4 T k N W) (e : ∀ r, N r = N' r) : OpR w w4 A b bm x1 x2 x3 x4 T k N' W := by
  have : N = N' := funext e
  rw [← this]; exact h
theorem OpR.fresh {w wm W w' : World} {A b bm k : Nat} {x1 x2 x3 x4 : Value} {T : List RowL} {N : RowL → Nat} (h : OpR w wm A b bm x1 x2 x3 x4 T k N W) (hb : Below W.heap.size W w') : OpR w w' A b bm x1 x2 x3 x4 T k N w' := by
  obtain ⟨f, s, h1, h2, h3⟩ := h.opn
  exact ⟨blk_on h.one hb (blk_lt h.one), blk_on h.two hb (blk_lt h.two), h.num.on hb, ⟨f, s, h1.on hb, h2, h3⟩, fb2 h.below hb (Nat.le_refl _), Stay.refl _ _⟩
set_option maxRecDepth 100000 in
theorem run_field_rows (a c : Option Addr) (n m p q : Nat) (W : World) : (Instr.field 31 (.agg #[.slice a n p, .slice c m q]) 1).run Tryz.prog W = .ok (.slice c m q) W := by kernel_rfl
def sameTab (V : List (List UInt8)) (R : List RowL) (U : List (List UInt8)) (S : List RowL) : Bool := rightT V R && rightT U S && sameRowsB V R U S

set_option maxRecDepth 100000 in
set_option maxHeartbeats 8000000 in
theorem tabs_calls (V U : List (List UInt8)) (R S : List RowL) (hV : okV V) (hR : okRT R) (hU : okV U) (hS : okRT S) (t1 t2 : Value) (w : World) (hg : Nm.Good w) (h1 : TabA w t1 V R) (h2 : TabA w t2 U S) :
    Calls Tryz.prog 31 #[t1, t2] w fun e w' => e = .returned (.bool (sameTab V R U S)) ∧ Below w.heap.size w w' := by
  obtain ⟨va, n, vc, ra, m, rc, rfl, hVA, hRA⟩ := h1
  obtain ⟨ua, n2, uc, sa, m2, sc, rfl, hUA, hSA⟩ := h2
  obtain ⟨A, hA⟩ : ∃ A, w.heap.size = A := ⟨_, rfl⟩
  have h0 := tabs2_new w (.slice va n vc) (.slice ra m rc) (.slice ua n2 uc) (.slice sa m2 sc)
  obtain ⟨W0, hW0⟩ : ∃ W0, (w.alloc (.cells #[.slice va n vc, .slice ra m rc] 31)).alloc (.cells #[.slice ua n2 uc, .slice sa m2 sc] 31) = W0 := ⟨_, rfl⟩
  rw [hW0, hA] at h0
  have H0 := Lib.hid h0
  have HG := Lib.hid hg
  have HVA := Lib.hid hVA
  have HRA := Lib.hid hRA
  have HUA := Lib.hid hUA
  have HSA := Lib.hid hSA
  have HRL := Lib.hid hRA.len
  have HSL := Lib.hid hSA.len
  have HVL := Lib.hid hVA.len
  have HUL := Lib.hid hUA.len
  have HRR := Lib.hid hR
  have HSR := Lib.hid hS
  have HOV := Lib.hid hV
  have HOU := Lib.hid hU
  have c1 := hRA.cap
  have c2 := hRA.most
  have c3 := hSA.cap
  have c4 := hSA.most
  unfold maxLen at c2 c4
  have HT1 := Lib.hid (fun W (hb : Below w.heap.size w W) => (show TabA W (.agg #[.slice va n vc, .slice ra m rc]) V R from ⟨va, n, vc, ra, m, rc, rfl, hVA.on hb, hRA.on hb⟩))
  have HT2 := Lib.hid (fun W (hb : Below w.heap.size w W) => (show TabA W (.agg #[.slice ua n2 uc, .slice sa m2 sc]) U S from ⟨ua, n2, uc, sa, m2, sc, rfl, hUA.on hb, hSA.on hb⟩))
  have HC1 := Lib.hid (tCheck_calls V R hV hR.r (.agg #[.slice va n vc, .slice ra m rc]) W0 (HT1.out W0 h0.below))
  have HC2 := Lib.hid (fun W (hb : Below w.heap.size w W) => tCheck_calls U S hU hS.r (.agg #[.slice ua n2 uc, .slice sa m2 sc]) W (HT2.out W hb))
  have HAE := Lib.hid hA
  have HW0 := Lib.hid hW0
  clear h0 hW0 hVA hRA hUA hSA hA hV hR hU hS hg
  cases hq1 : rightT V R with
  | false =>
    have HE := Lib.hid (show sameTab V R U S = false by unfold sameTab; rw [hq1]; rfl)
    rw [hq1, show formZ false = 2 from rfl] at HC1
    clear hq1
    go_enter Tryz.func31, Tryz.ntmps31
    go_wp2_with fail
    rw [HW0.out, HAE.out]
    refine HC1.out.mono ?_
    rintro e w1 ⟨rfl, hb1⟩
    have HB1 := Lib.hid (fb2 H0.out.below hb1 (Nat.le_refl _))
    clear hb1
    go_wp2
    go_ret
    exact ⟨by rw [HE.out]; rfl, HB1.out⟩
  | true =>
    rw [hq1, show formZ true = 0 from rfl] at HC1
    cases hq2 : rightT U S with
    | false =>
      have HE := Lib.hid (show sameTab V R U S = false by unfold sameTab; rw [hq2]; simp)
      rw [hq2, show formZ false = 2 from rfl] at HC2
      clear hq1 hq2
      go_enter Tryz.func31, Tryz.ntmps31
      go_wp2_with fail
      rw [HW0.out, HAE.out]
      refine HC1.out.mono ?_
      rintro e w1 ⟨rfl, hb1⟩
      have HB1 := Lib.hid (fb2 H0.out.below hb1 (Nat.le_refl _))
      have hA2 := blk_on H0.out.two hb1 (blk_lt H0.out.two)
      have q2 : w1.cell? ⟨A + 1, 0, none⟩ = some (.slice ua n2 uc) := (blk_cell hA2 0).trans rfl
      have q3 : w1.cell? ⟨A + 1, 1, none⟩ = some (.slice sa m2 sc) := (blk_cell hA2 1).trans rfl
      clear hb1 hA2
      go_wp2_with fail
      refine (HC2.out _ HB1.out).mono ?_
      rintro e w2 ⟨rfl, hb2⟩
      have HB2 := Lib.hid (fb2 HB1.out hb2 (Nat.le_refl _))
      clear hb2
      go_wp2
      go_ret
      exact ⟨by rw [HE.out]; rfl, HB2.out⟩
    | true =>
      rw [hq2, show formZ true = 0 from rfl] at HC2
      have HE := Lib.hid (show sameTab V R U S = sameRowsB V R U S by unfold sameTab; rw [hq1, hq2]; rfl)
      have HIS := Lib.hid (same_is (V := V) (U := U) (R := R) (S := S) hq1)
      obtain ⟨hnd, hv32, hr4, _, hrow⟩ := right_nodup hq1
      obtain ⟨hnd2, hu32, hs4, _, hrow2⟩ := right_nodup hq2
      have HND := Lib.hid hnd
      have HND2 := Lib.hid hnd2
      have HWD := Lib.hid (fun r hr => (hrow r hr).1)
      have HWD2 := Lib.hid (fun r hr => (hrow2 r hr).1)
      have HN32 := Lib.hid hv32
      have HR4 := Lib.hid hr4
      have HS4 := Lib.hid hs4
      clear hq1 hq2 hnd hv32 hr4 hrow hnd2 hu32 hs4 hrow2
      have HSV := Lib.hid (fun W (hb : Below w.heap.size w W) => sameVars_calls V U HOV.out HOU.out HND.out va n vc ua n2 uc W (HVA.out.on hb) (HUA.out.on hb))
      by_cases hlen : m = m2
      · have g1 : ((m : Int) != (m2 : Int)) = false := by rw [hlen]; exact bne_self_eq_false _
        have HLEN := Lib.hid hlen
        clear hlen
        cases hvs : varsSame V U with
        | false =>
          have HF := Lib.hid (show sameRowsB V R U S = false from Bool.eq_false_iff.2 (fun c => by
            obtain ⟨_, e1, e2, _⟩ := HIS.out.1 c
            have : varsSame V U = true := decide_eq_true ⟨e1, e2⟩
            rw [hvs] at this; cases this))
          rw [hvs] at HSV
          clear hvs
          go_enter Tryz.func31, Tryz.ntmps31
          go_wp2_with fail
          rw [HW0.out, HAE.out]
          refine HC1.out.mono ?_
          rintro e w1 ⟨rfl, hb1⟩
          have HB1 := Lib.hid (fb2 H0.out.below hb1 (Nat.le_refl _))
          have hA1 := blk_on H0.out.one hb1 (blk_lt H0.out.one)
          have hA2 := blk_on H0.out.two hb1 (blk_lt H0.out.two)
          have q2 : w1.cell? ⟨A + 1, 0, none⟩ = some (.slice ua n2 uc) := (blk_cell hA2 0).trans rfl
          have q3 : w1.cell? ⟨A + 1, 1, none⟩ = some (.slice sa m2 sc) := (blk_cell hA2 1).trans rfl
          have HA1 := Lib.hid hA1
          have HA2 := Lib.hid hA2
          clear hb1 hA1 hA2
          go_wp2_with fail
          refine (HC2.out _ HB1.out).mono ?_
          rintro e w2 ⟨rfl, hb2⟩
          have HB2 := Lib.hid (fb2 HB1.out hb2 (Nat.le_refl _))
          have hA1 := blk_on HA1.out hb2 (blk_lt HA1.out)
          have hA2 := blk_on HA2.out hb2 (blk_lt HA2.out)
          have r0 : w2.cell? ⟨A, 0, none⟩ = some (.slice va n vc) := (blk_cell hA1 0).trans rfl
          have r1 : w2.cell? ⟨A, 1, none⟩ = some (.slice ra m rc) := (blk_cell hA1 1).trans rfl
          have r2 : w2.cell? ⟨A + 1, 0, none⟩ = some (.slice ua n2 uc) := (blk_cell hA2 0).trans rfl
          have r3 : w2.cell? ⟨A + 1, 1, none⟩ = some (.slice sa m2 sc) := (blk_cell hA2 1).trans rfl
          clear hb2 hA1 hA2 q2 q3
          go_wp2_with fail
          refine (HSV.out _ HB2.out).mono ?_
          rintro e w3 ⟨rfl, hb3⟩
          have HB3 := Lib.hid (fb2 HB2.out hb3 (Nat.le_refl _))
          clear hb3
          go_wp2
          go_ret
          exact ⟨by rw [HE.out, HF.out]; rfl, HB3.out⟩
        | true =>
          have hvs2 := of_decide_eq_true (show decide (V.length = U.length ∧ ∀ x ∈ V, x ∈ U) = true from hvs)
          have HYES := Lib.hid (fun (hp : R.Perm (projP V U S)) => (HIS.out.2 ⟨by rw [HRL.out, HSL.out]; exact HLEN.out, hvs2.1, hvs2.2, hp⟩))
          have HNO := Lib.hid (fun (hp : ¬ R.Perm (projP V U S)) => (show sameRowsB V R U S = false from Bool.eq_false_iff.2 (fun c => hp (HIS.out.1 c).2.2.2)))
          rw [hvs] at HSV
          have HPL := Lib.hid (show (projP V U S).length = m2 by rw [(proj_len V U S).1, HSL.out])
          have HPW := Lib.hid (proj_len V U S).2
          have HPJ := Lib.hid (fun W (hb : Below w.heap.size w W) => projected_calls U V S HOU.out HOV.out HND2.out HWD2.out (by have := HS4.out; omega) (by have := HN32.out; omega) (.agg #[.slice ua n2 uc, .slice sa m2 sc]) va vc W (HT2.out W hb) (by rw [HVL.out]; exact HVA.out.on hb))
          rw [HVL.out] at HPJ
          have HPO := Lib.hid (show okRT (projP V U S) from fun r hr t ht => by
            obtain ⟨s, hs, rfl⟩ := List.mem_map.1 hr
            obtain ⟨x, _, rfl⟩ := List.mem_map.1 ht
            unfold boundP
            cases hp : placeP U x with
            | none => exact nil_okT
            | some i =>
              dsimp only
              rw [List.getD_eq_getElem?_getD]
              cases hq : s[i]? with
              | none => exact nil_okT
              | some t => exact HSR.out s hs t (List.mem_of_getElem? hq))
          generalize projP V U S = P at HYES HNO HPL HPW HPJ HPO
          have HTW := Lib.hid (show ∀ r ∈ R ++ P, r.length = n from fun r hr => (List.mem_append.1 hr).elim (fun h => (HWD.out r h).trans HVL.out) (fun h => (HPW.out r h).trans HVL.out))
          have HTL := Lib.hid (show (R ++ P).length = m + m2 by rw [List.length_append, HRL.out, HPL.out])
          have hn32 : n ≤ 32 := by have h1 := HVL.out; have h2 := HN32.out; omega
          have hm4 : m ≤ 4096 := by have h1 := HRL.out; have h2 := HR4.out; omega
          have hm24 : m2 ≤ 4096 := by have := HLEN.out; omega
          have hmm := fun W => run_makeMapH (m : Int) W
          have hmn := fun W => run_makeMapN W
          clear hvs hvs2
          go_enter Tryz.func31, Tryz.ntmps31
          go_wp2_with fail
          rw [HW0.out, HAE.out]
          refine HC1.out.mono ?_
          rintro e w1 ⟨rfl, hb1⟩
          have HB1 := Lib.hid (fb2 H0.out.below hb1 (Nat.le_refl _))
          have hA1 := blk_on H0.out.one hb1 (blk_lt H0.out.one)
          have hA2 := blk_on H0.out.two hb1 (blk_lt H0.out.two)
          have q2 : w1.cell? ⟨A + 1, 0, none⟩ = some (.slice ua n2 uc) := (blk_cell hA2 0).trans rfl
          have q3 : w1.cell? ⟨A + 1, 1, none⟩ = some (.slice sa m2 sc) := (blk_cell hA2 1).trans rfl
          have HA1 := Lib.hid hA1
          have HA2 := Lib.hid hA2
          clear hb1 hA1 hA2
          go_wp2_with fail
          refine (HC2.out _ HB1.out).mono ?_
          rintro e w2 ⟨rfl, hb2⟩
          have HB2 := Lib.hid (fb2 HB1.out hb2 (Nat.le_refl _))
          have hA1 := blk_on HA1.out hb2 (blk_lt HA1.out)
          have hA2 := blk_on HA2.out hb2 (blk_lt HA2.out)
          have r0 : w2.cell? ⟨A, 0, none⟩ = some (.slice va n vc) := (blk_cell hA1 0).trans rfl
          have r1 : w2.cell? ⟨A, 1, none⟩ = some (.slice ra m rc) := (blk_cell hA1 1).trans rfl
          have r2 : w2.cell? ⟨A + 1, 0, none⟩ = some (.slice ua n2 uc) := (blk_cell hA2 0).trans rfl
          have r3 : w2.cell? ⟨A + 1, 1, none⟩ = some (.slice sa m2 sc) := (blk_cell hA2 1).trans rfl
          have HA3 := Lib.hid hA1
          have HA4 := Lib.hid hA2
          clear hb2 hA1 hA2 q2 q3 HA1 HA2
          go_wp2_with fail
          refine (HSV.out _ HB2.out).mono ?_
          rintro e w3 ⟨rfl, hb3⟩
          have HB3 := Lib.hid (fb2 HB2.out hb3 (Nat.le_refl _))
          have hA1 := blk_on HA3.out hb3 (blk_lt HA3.out)
          have hA2 := blk_on HA4.out hb3 (blk_lt HA4.out)
          obtain ⟨b, hb⟩ : ∃ b, w3.heap.size = b := ⟨_, rfl⟩
          have HBE := Lib.hid hb
          have HAB := Lib.hid (show A + 1 < b by rw [← hb]; exact blk_lt hA2)
          have q1 : w3.cell? ⟨A, 1, none⟩ = some (.slice ra m rc) := (blk_cell hA1 1).trans rfl
          have qf0 : (w3.alloc (.map #[] 0)).cell? ⟨A, 1, none⟩ = some (.slice ra m rc) := (blk_cell (blk_alloc hA1 _) 1).trans rfl
          have qf1 : ((w3.alloc (.map #[] 0)).alloc (.map #[] 0)).cell? ⟨A, 1, none⟩ = some (.slice ra m rc) := (blk_cell (blk_alloc (blk_alloc hA1 _) _) 1).trans rfl
          have HS1 := Lib.hid (show OpR w ((w3.alloc (.map #[] 0)).alloc (.map #[] 0)) A b (b + 1) (.slice va n vc) (.slice ra m rc) (.slice ua n2 uc) (.slice sa m2 sc) (R ++ P) 0 (cntR R 0) ((w3.alloc (.map #[] 0)).alloc (.map #[] 0)) from by
            refine ⟨blk_alloc (blk_alloc hA1 _) _, blk_alloc (blk_alloc hA2 _) _, ?_, ⟨fun _ => none, 0, ?_, Nat.le_refl _, (opn_zero _).cong (fun r => by unfold cntR; rw [List.take_zero]; rfl)⟩, fb2 (fb2 HB3.out (box_below _ _) (Nat.le_refl _)) (box_below _ _) (Nat.le_refl _), Stay.refl _ _⟩
            · rw [num_zero, ← HBE.out]
              exact (map_made _ _ _ w3).on (box_below _ _)
            · have := map_made 9 okS (fun x => x) (w3.alloc (.map #[] 0))
              rw [show (w3.alloc (.map #[] 0)).heap.size = b + 1 by rw [← HBE.out]; simp] at this
              exact this)
          clear hb3 hA1 hA2 hb r0 r1 r2 r3 HA3 HA4
          go_wp2
          rw [HBE.out]
          clear hmm hmn
          obtain ⟨wm, hwm⟩ : ∃ wm, (w3.alloc (.map #[] 0)).alloc (.map #[] 0) = wm := ⟨_, rfl⟩
          rw [hwm] at HS1 ⊢
          clear hwm q1 qf0 qf1
          go_loopg [8, 43] m (fun g _ i wr => ∃ k : Nat, i = .int .i64 k ∧ k + g = m ∧ Hid (OpR w wm A b (b + 1) (.slice va n vc) (.slice ra m rc) (.slice ua n2 uc) (.slice sa m2 sc) (R ++ P) k (cntR R k) wr))
          case atStart => exact ⟨0, rfl, by omega, HS1⟩
          case round =>
            obtain ⟨W1, rfl⟩ : ∃ W1, W1 = wr := ⟨_, rfl⟩
            obtain ⟨k, rfl, hkg, HRD⟩ := hrel
            have HBW := Lib.hid HRD.out.below
            by_cases hk : k < m
            · obtain ⟨gg, rfl⟩ : ∃ gg, gk = gg + 1 := ⟨gk - 1, by omega⟩
              have hkR : k < R.length := by rw [HRL.out]; exact hk
              have hkT : k < (R ++ P).length := by rw [HTL.out]; omega
              have eT : (R ++ P)[k] = R[k] := List.getElem_append_left hkR
              obtain ⟨g, o, ha, hgw, hcells⟩ := HRA.out.cells (by omega)
              subst ha
              obtain ⟨a', c', hcell, htrm⟩ := hcells k hkR
              have hrk : R[k].length = n := (HWD.out _ (List.getElem_mem hkR)).trans HVL.out
              rw [hrk] at hcell htrm
              have c0 : W1.cell? ⟨g, o + k, none⟩ = some (.slice a' n c') := keptC hcell HBW.out hgw
              have hnm := num_le HTW.out k (by omega)
              have hkn : k * n ≤ 8192 * 32 := Nat.mul_le_mul (by omega) hn32
              have hTC := text_calls (idsP (R ++ P) k) b R[k] (HRR.out _ (List.getElem_mem hkR)) a' n c' W1 (HG.out.on HBW.out) HRD.out.num (num_at (R ++ P) k).1 (htrm.on HBW.out) (by omega) (by omega)
              rw [← eT, ← num_step hkT] at hTC
              obtain ⟨f, s, hS, hsk, hC⟩ := HRD.out.opn
              have hok := Lib.hid (txt_fit HTW.out hn32 (by rw [HTL.out]; omega) hkT)
              have hsee := hC.see hkT
              have hput := hC.put hkT (cntR R k R[k] + 1)
              rw [eT] at hsee
              have hcle : cntR R k R[k] ≤ k := by unfold cntR; exact Nat.le_trans List.count_le_length (by rw [List.length_take]; omega)
              have HCM := Lib.hid (fun r => cnt_more hkR r)
              rw [← eT] at HCM
              rw [← eT] at hsee hput hcle
              obtain ⟨x, hxe⟩ : ∃ x, txtN (idsP (R ++ P) (k + 1)).1 (R ++ P)[k] = x := ⟨_, rfl⟩
              rw [hxe] at hTC hok hsee hput
              obtain ⟨z, hz⟩ : ∃ z, cntR R k (R ++ P)[k] = z := ⟨_, rfl⟩
              rw [hz] at hsee hput hcle HCM
              have HTC := Lib.hid hTC
              have HS := Lib.hid hS
              have HSK := Lib.hid (show s < maxLen by unfold maxLen; omega)
              have HQ := Lib.hid hsee
              have HWF := Lib.hid (wf_nat (n := z + 1) (by omega))
              have HPT := Lib.hid (hput.cong HCM.out)
              have HSS := Lib.hid hsk
              have hz4 : z ≤ 4096 := by omega
              have k0 : (0 : Int) ≤ (k : Int) := by omega
              have k1 : (k : Int) < (m : Int) := by omega
              clear hTC hsee hput hcle HCM hS hsk hC hxe hz hcells hcell htrm hrk hnm hkn eT hkR hkT
              go_wp2_with (first
                | (go_at_call 56; refine HTC.out.mono ?_; rintro e w3 ⟨rfl, hm3, hg3⟩; have HM3 := Lib.hid hm3; have HG3 := Lib.hid hg3; have HS3 := Lib.hid (HS.out.kept hg3 (by simp)); clear hm3 hg3 HTC)
                | (at_lookup; refine wpList_see_g rfl _ _ 87 rfl keyS Tryz.underlying87 rfl HS3.out x hok.out rfl ?_; rw [HQ.out])
                | (at_mapUpdate; refine wpList_put_g rfl _ _ _ 87 rfl keyS Tryz.underlying87 rfl HS3.out HSK.out x hok.out rfl ((z + 1 : Nat) : Int) (by go_num) HWF.out ?_; intro w5 h5 g5; have HS5 := Lib.hid h5; have HG5 := Lib.hid g5; clear h5 g5))
              have HR5 := Lib.hid (show OpR w wm A b (b + 1) (.slice va n vc) (.slice (some ⟨g, o, none⟩) m rc) (.slice ua n2 uc) (.slice sa m2 sc) (R ++ P) (k + 1) (cntR R (k + 1)) w5 from HRD.out.next HAB.out (by omega) (by have := HAE.out; omega) HM3.out HG3.out HS5.out HG5.out (by have := HSS.out; split <;> omega) HPT.out)
              clear HM3 HG3 HS3 HS5 HG5
              go_roundg gg
              case measure => omega
              case rel => exact ⟨k + 1, by go_num, by omega, HR5⟩
            · have hkm : k = R.length := by rw [HRL.out]; omega
              have k1 : ¬ (k : Int) < (m : Int) := by omega
              have HR9 := Lib.hid (HRD.out.cong (N' := offR R P 0) (fun r => by rw [hkm]; exact off_zero R P r))
              have hkm2 : k = m := by omega
              rw [hkm2] at HR9
              have r0 : W1.cell? ⟨A, 0, none⟩ = some (.slice va n vc) := (blk_cell HRD.out.one 0).trans rfl
              have r2 : W1.cell? ⟨A + 1, 0, none⟩ = some (.slice ua n2 uc) := (blk_cell HRD.out.two 0).trans rfl
              have r3 : W1.cell? ⟨A + 1, 1, none⟩ = some (.slice sa m2 sc) := (blk_cell HRD.out.two 1).trans rfl
              have HMB := Lib.hid (show b + 1 < W1.heap.size by obtain ⟨f, s, h1, _⟩ := HRD.out.opn; exact h1.lt)
              clear hkm hkm2 HRD
              go_wp2_with fail
              refine (HPJ.out _ HBW.out).mono ?_
              rintro e w4 ⟨uv, rfl, ⟨va3, n3, vc3, ra3, m3, rc3, rfl, hT3, hR3⟩, hb4⟩
              obtain rfl : m3 = m2 := hR3.len.symm.trans HPL.out
              have HRW := Lib.hid (hR3.mono (K' := fun i => i ≠ b ∧ i ≠ b + 1) (fun i _ hi => by have := HMB.out; omega))
              have HS9 := Lib.hid (HR9.out.fresh hb4)
              have HF0 := Lib.hid (fits_zero R P)
              have c7 := hR3.cap
              have c8 := hR3.most
              unfold maxLen at c8
              clear hT3 hR3 hb4 r0 r2 r3 HR9 HMB HBW
              have hfd := run_field_rows va3 ra3 n3 m3 vc3 rc3 w4
              go_wp2
              clear hfd
              go_loopg [10, 11, 60] m3 (fun g _ _ i wr => ∃ j : Nat, i = .int .i64 j ∧ j + g = m3 ∧ Hid (FitsP R P j) ∧ Hid (OpR w w4 A b (b + 1) (.slice va n vc) (.slice ra m rc) (.slice ua n2 uc) (.slice sa m3 sc) (R ++ P) (m + j) (offR R P j) wr))
              case atStart => exact ⟨0, rfl, by omega, HF0, HS9⟩
              case round =>
                obtain ⟨W2, rfl⟩ : ∃ W2, W2 = wr := ⟨_, rfl⟩
                obtain ⟨j, rfl, hjg, HFT, HRD⟩ := hrel
                have HBW := Lib.hid HRD.out.below
                have j0 : (0 : Int) ≤ (j : Int) := by omega
                by_cases hj : j < m3
                · obtain ⟨gg, rfl⟩ : ∃ gg, gk = gg + 1 := ⟨gk - 1, by omega⟩
                  have hjP : j < P.length := by rw [HPL.out]; exact hj
                  have hkT : m + j < (R ++ P).length := by rw [HTL.out]; omega
                  have eT : (R ++ P)[m + j] = P[j] := by
                    rw [List.getElem_append_right (by rw [HRL.out]; omega)]
                    congr 1
                    rw [HRL.out]; omega
                  have hrw := HRW.out.on HRD.out.stay
                  obtain ⟨g, o, ha, hgw, _, hcells⟩ := hrw.cells (by omega)
                  subst ha
                  obtain ⟨a', c', hcell, htrm⟩ := hcells j hjP
                  have hrk : P[j].length = n := (HPW.out _ (List.getElem_mem hjP)).trans HVL.out
                  rw [hrk] at hcell htrm
                  have c0 : W2.cell? ⟨g, o + j, none⟩ = some (.slice a' n c') := hcell
                  have hnm := num_le HTW.out (m + j) (by omega)
                  have hkn : (m + j) * n ≤ 8192 * 32 := Nat.mul_le_mul (by omega) hn32
                  have hTC := text_calls (idsP (R ++ P) (m + j)) b P[j] (HPO.out _ (List.getElem_mem hjP)) a' n c' W2 (HG.out.on HBW.out) HRD.out.num (num_at (R ++ P) (m + j)).1 htrm.a (by omega) (by omega)
                  rw [← eT, ← num_step hkT] at hTC
                  obtain ⟨f, s, hS, hsk, hC⟩ := HRD.out.opn
                  have hok := Lib.hid (txt_fit HTW.out hn32 (by rw [HTL.out]; omega) hkT)
                  have hsee := hC.see hkT
                  have hput := hC.put hkT (offR R P j P[j] - 1)
                  have HCM := Lib.hid (fun r => off_more (R := R) hjP r)
                  have HFM := Lib.hid (fun h0 => fits_more HFT.out hjP h0)
                  have HFN := Lib.hid (fun h0 => HNO.out (fits_not (R := R) hjP h0))
                  have hcle : offR R P j P[j] ≤ m := by unfold offR; exact Nat.le_trans (Nat.sub_le _ _) (Nat.le_trans List.count_le_length (by rw [HRL.out]; exact Nat.le_refl _))
                  rw [← eT] at hput hcle HCM HFM HFN
                  obtain ⟨x, hxe⟩ : ∃ x, txtN (idsP (R ++ P) (m + j + 1)).1 (R ++ P)[m + j] = x := ⟨_, rfl⟩
                  rw [hxe] at hTC hok hsee hput
                  obtain ⟨z, hz⟩ : ∃ z, offR R P j (R ++ P)[m + j] = z := ⟨_, rfl⟩
                  rw [hz] at hsee hput hcle HCM HFM HFN
                  have HTC := Lib.hid hTC
                  have HS := Lib.hid hS
                  have HSK := Lib.hid (show s < maxLen by unfold maxLen; omega)
                  have HSS := Lib.hid hsk
                  have HPT := Lib.hid (hput.cong HCM.out)
                  have j1 : (j : Int) < (m3 : Int) := by omega
                  clear hTC hput HCM hS hsk hC hxe hz hcells hcell htrm hrk hnm hkn eT hjP hkT hrw
                  by_cases hz0 : z = 0
                  · have HQ := Lib.hid (show (f x).getD 0 = (0 : Int) by rw [hsee, hz0]; rfl)
                    have HNF := Lib.hid (HFN.out hz0)
                    clear hsee hz0 hcle HPT HFM HFN
                    go_wp2_with (first
                      | (go_at_call 56; refine HTC.out.mono ?_; rintro e w3 ⟨rfl, hm3, hg3⟩; have HS3 := Lib.hid (HS.out.kept hg3 (by simp)); have HB3 := Lib.hid (show Below w.heap.size w w3 from HBW.out.grown hg3 HBW.out.size (fun q hq => by injection hq with hq; have h1 := HAE.out; have h2 := HAB.out; omega)); clear hm3 hg3 HTC)
                      | (at_lookup; refine wpList_see_g rfl _ _ 87 rfl keyS Tryz.underlying87 rfl HS3.out x hok.out rfl ?_; rw [HQ.out]))
                    go_ret
                    exact ⟨by rw [HE.out, HNF.out]; rfl, HB3.out⟩
                  · obtain ⟨y, rfl⟩ : ∃ y, z = y + 1 := ⟨z - 1, by omega⟩
                    have HQ := Lib.hid (show (f x).getD 0 = (y : Int) + 1 by rw [hsee]; rfl)
                    have HWF := Lib.hid (wf_nat (n := y) (by omega))
                    have HF2 := Lib.hid (HFM.out hz0)
                    have HPT2 : Hid (Opn (R ++ P) (m + j + 1) (offR R P (j + 1)) (updG f x (some (y : Int)))) := HPT
                    have g3 : (((y : Int) + 1) == 0) = false := beq_eq_false_iff_ne.2 (by omega)
                    have hy4 : y ≤ 4096 := by omega
                    clear hsee hz0 hcle HPT HFM HFN
                    go_wp2_with (first
                      | (go_at_call 56; refine HTC.out.mono ?_; rintro e w3 ⟨rfl, hm3, hg3⟩; have HM3 := Lib.hid hm3; have HG3 := Lib.hid hg3; have HS3 := Lib.hid (HS.out.kept hg3 (by simp)); clear hm3 hg3 HTC)
                      | (at_lookup; refine wpList_see_g rfl _ _ 87 rfl keyS Tryz.underlying87 rfl HS3.out x hok.out rfl ?_; rw [HQ.out])
                      | (at_mapUpdate; refine wpList_put_g rfl _ _ _ 87 rfl keyS Tryz.underlying87 rfl HS3.out HSK.out x hok.out rfl (y : Int) (by first | rfl | go_num) HWF.out ?_; intro w5 h5 g5; have HS5 := Lib.hid h5; have HG5 := Lib.hid g5; clear h5 g5))
                    have HR5 := Lib.hid (show OpR w w4 A b (b + 1) (.slice va n vc) (.slice ra m rc) (.slice ua n2 uc) (.slice sa m3 sc) (R ++ P) (m + (j + 1)) (offR R P (j + 1)) w5 from HRD.out.next HAB.out (by omega) (by have := HAE.out; omega) HM3.out HG3.out HS5.out HG5.out (by have := HSS.out; split <;> omega) HPT2.out)
                    clear HM3 HG3 HS3 HS5 HG5
                    go_roundg gg
                    case measure => omega
                    case rel => exact ⟨j + 1, by go_num, by omega, HF2, HR5⟩
                · have hjm : j = P.length := by rw [HPL.out]; omega
                  have HYS := Lib.hid (HYES.out (fits_all (by rw [← hjm]; exact HFT.out) (by rw [HRL.out, HPL.out]; exact HLEN.out)))
                  have j1 : ¬ (j : Int) < (m3 : Int) := by omega
                  clear hjm
                  go_wp2
                  go_ret
                  exact ⟨by rw [HE.out, HYS.out]; rfl, HBW.out⟩
      · have g1 : ((m : Int) != (m2 : Int)) = true := bne_iff_ne.2 (by omega)
        have HF := Lib.hid (show sameRowsB V R U S = false from same_len (.inl (by rw [HRL.out, HSL.out]; exact hlen)))
        clear hlen
        go_enter Tryz.func31, Tryz.ntmps31
        go_wp2_with fail
        rw [HW0.out, HAE.out]
        refine HC1.out.mono ?_
        rintro e w1 ⟨rfl, hb1⟩
        have HB1 := Lib.hid (fb2 H0.out.below hb1 (Nat.le_refl _))
        have hA1 := blk_on H0.out.one hb1 (blk_lt H0.out.one)
        have hA2 := blk_on H0.out.two hb1 (blk_lt H0.out.two)
        have q2 : w1.cell? ⟨A + 1, 0, none⟩ = some (.slice ua n2 uc) := (blk_cell hA2 0).trans rfl
        have q3 : w1.cell? ⟨A + 1, 1, none⟩ = some (.slice sa m2 sc) := (blk_cell hA2 1).trans rfl
        have HA1 := Lib.hid hA1
        have HA2 := Lib.hid hA2
        clear hb1 hA1 hA2
        go_wp2_with fail
        refine (HC2.out _ HB1.out).mono ?_
        rintro e w2 ⟨rfl, hb2⟩
        have HB2 := Lib.hid (fb2 HB1.out hb2 (Nat.le_refl _))
        have hA1 := blk_on HA1.out hb2 (blk_lt HA1.out)
        have hA2 := blk_on HA2.out hb2 (blk_lt HA2.out)
        have r1 : w2.cell? ⟨A, 1, none⟩ = some (.slice ra m rc) := (blk_cell hA1 1).trans rfl
        have r3 : w2.cell? ⟨A + 1, 1, none⟩ = some (.slice sa m2 sc) := (blk_cell hA2 1).trans rfl
        clear hb2 hA1 hA2 q2 q3
        go_wp2
        go_ret
        exact ⟨by rw [HE.out, HF.out]; rfl, HB2.out⟩

end Go.Proofs.YtkfemnjblbnclaaGreatDoor
